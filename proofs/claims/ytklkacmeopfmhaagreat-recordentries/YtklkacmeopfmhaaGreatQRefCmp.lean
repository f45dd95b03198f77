/-
  What the document's Compare answers.
-/
import Derived.Test.YtklkacmeopfmhaaGreatQName
namespace Go.Proofs.YtklkacmeopfmhaaGreat.Pth
open Go.RowKit

theorem pieces_le : ∀ l : Pt.Bs, (Pt.pieces l).length ≤ l.length + 1
  | [] => by simp [Pt.pieces]
  | b :: l => by
    have ih := pieces_le l
    obtain ⟨p, r, h⟩ := Pt.pieces_cons l
    unfold Pt.pieces
    rw [h] at ih ⊢
    split <;> simp_all <;> omega

theorem few_pieces (s : ByteArray) (bs : List ByteArray) (hs : s.size ≤ 1000) (h : lists bs = Pt.pieces s.data.toList) : bs.length ≤ 100000 := by
  have h1 := congrArg List.length h
  rw [size_lists] at h1
  have h2 := pieces_le s.data.toList
  have h3 : s.data.toList.length = s.size := rfl
  omega

end Go.Proofs.YtklkacmeopfmhaaGreat.Pth

namespace Go.Proofs.YtklkacmeopfmhaaGreat.Pth
open Go.RowKit

theorem sign_true (b : UInt8) (h : Pt.sign b = true) : (97 ≤ b.toNat ∧ b.toNat ≤ 122) ∨ (48 ≤ b.toNat ∧ b.toNat ≤ 57) ∨ b.toNat = 46 ∨ b.toNat = 95 ∨ b.toNat = 45 := by
  unfold Pt.sign at h
  simp only [Bool.or_eq_true, Bool.and_eq_true, decide_eq_true_eq] at h
  omega
theorem sign_false (b : UInt8) (h : Pt.sign b = false) : (b.toNat < 97 ∨ 122 < b.toNat) ∧ (b.toNat < 48 ∨ 57 < b.toNat) ∧ b.toNat ≠ 46 ∧ b.toNat ≠ 95 ∧ b.toNat ≠ 45 := by
  have : ¬ Pt.sign b = true := by rw [h]; decide
  unfold Pt.sign at this
  simp only [Bool.or_eq_true, Bool.and_eq_true, decide_eq_true_eq] at this
  omega

set_option maxRecDepth 100000 in
set_option maxHeartbeats 1000000 in
theorem refName_any (s : ByteArray) (hs : s.size ≤ 100000) (w : World) :
    Calls Tryz.prog 42 #[.string s] w fun e w' => e = .returned (.bool (Pt.isName s.data.toList)) ∧ w' = w := by
  have hsz : s.data.toList.length = s.size := rfl
  obtain ⟨N, hN⟩ : ∃ N, Pt.isName s.data.toList = N := ⟨_, rfl⟩
  rw [hN]
  have HI := hide (Pt.isName_iff s.data.toList)
  rw [hN, hsz] at HI
  have HT := hide (Lib.toList_data s)
  clear hN hsz
  have no : (¬ (N = true)) → N = false := fun h => by cases N with | false => rfl | true => exact absurd rfl h
  by_cases h1 : s.size < 1
  · obtain rfl := no fun h => by have := (unhide HI).1 h; omega
    clear no
    go_enter Tryz.func42, Tryz.ntmps42
    go_wp2_with fail
    go_ret
    exact ⟨rfl, rfl⟩
  · by_cases h2 : 12 < s.size
    · obtain rfl := no fun h => by have := (unhide HI).1 h; omega
      clear no
      go_enter Tryz.func42, Tryz.ntmps42
      go_wp2_with fail
      go_ret
      exact ⟨rfl, rfl⟩
    · cases h3 : (s.toList == [46]) with
      | true =>
        obtain rfl := no fun h => ((unhide HI).1 h).2.2.1 (by rw [← unhide HT]; exact beq_iff_eq.1 h3)
        clear no
        go_enter Tryz.func42, Tryz.ntmps42
        go_wp2_with fail
        go_ret
        exact ⟨rfl, rfl⟩
      | false =>
        cases h4 : (s.toList == [46, 46]) with
        | true =>
          obtain rfl := no fun h => ((unhide HI).1 h).2.2.2.1 (by rw [← unhide HT]; exact beq_iff_eq.1 h4)
          clear no
          go_enter Tryz.func42, Tryz.ntmps42
          go_wp2_with fail
          go_ret
          exact ⟨rfl, rfl⟩
        | false =>
          have n3 : s.data.toList ≠ [46] := fun h => by rw [unhide HT, h] at h3; cases h3
          have n4 : s.data.toList ≠ [46, 46] := fun h => by rw [unhide HT, h] at h4; cases h4
          have N3 := hide n3
          have N4 := hide n4
          have NO := hide no
          clear n3 n4 no
          go_enter Tryz.func42, Tryz.ntmps42
          go_wp2_with fail
          go_loopw [3] (fun i wr => ∃ k : Nat, k ≤ s.size ∧ i = .int .i64 k ∧ (∀ (j : Nat) (hj : j < s.size), j < k → Pt.sign s[j] = true) ∧ wr = w) (fun i _ => s.size - (intOf i).toNat)
          case atStart => exact ⟨0, Nat.zero_le _, rfl, fun j _ hj => absurd hj (Nat.not_lt_zero _), rfl⟩
          case round =>
            obtain ⟨k, hk, rfl, hall, rfl⟩ := hrel
            have HALL := hide hall
            clear hall
            by_cases hlt : k < s.size
            · cases hsi : Pt.sign s[k] with
              | true =>
                have hx := sign_true _ hsi
                have HALL2 : Hid (∀ (j : Nat) (hj : j < s.size), j < k + 1 → Pt.sign s[j] = true) := by
                  intro j hj hjk
                  by_cases e : j = k
                  · subst e; exact hsi
                  · exact unhide HALL j hj (by omega)
                clear hsi
                rcases hx with ⟨x1, x2⟩ | ⟨x1, x2⟩ | x1 | x1 | x1
                all_goals
                  go_wp2_with fail
                  go_roundw
                  case rel => exact ⟨k + 1, by omega, by go_num, unhide HALL2, by first | rfl | trivial⟩
                  case measure => simp [intOf]; omega
              | false =>
                have hx := sign_false _ hsi
                obtain rfl := unhide NO fun h => by
                  have := ((unhide HI).1 h).2.2.2.2 s[k] (List.getElem_mem (l := s.data.toList) hlt)
                  rw [hsi] at this
                  cases this
                clear hsi
                obtain ⟨x1, x2, x3, x4, x5⟩ := hx
                have y3 : ((s[k].toNat : Int) != 46) = true := by rw [bne_iff_ne]; omega
                have y4 : ((s[k].toNat : Int) != 95) = true := by rw [bne_iff_ne]; omega
                have y5 : ((s[k].toNat : Int) != 45) = true := by rw [bne_iff_ne]; omega
                have z : s[k].toNat < 48 ∨ (57 < s[k].toNat ∧ s[k].toNat < 97) ∨ 122 < s[k].toNat := by omega
                clear x1 x2 x3 x4 x5
                rcases z with z | ⟨z, z2⟩ | z
                all_goals
                  go_wp2_with fail
                  go_ret
                  exact ⟨rfl, rfl⟩
            · obtain rfl : k = s.size := by omega
              obtain rfl : N = true := (unhide HI).2 ⟨by omega, by omega, unhide N3, unhide N4, fun x hx => by
                obtain ⟨j, hj, rfl⟩ := List.mem_iff_getElem.1 hx
                exact unhide HALL j hj hj⟩
              go_wp2_with fail
              go_ret
              exact ⟨rfl, rfl⟩
end Go.Proofs.YtklkacmeopfmhaaGreat.Pth

namespace Go.Proofs.YtklkacmeopfmhaaGreat.Pth
open Go.RowKit

theorem pieces_len : ∀ (l p : Pt.Bs), p ∈ Pt.pieces l → p.length ≤ l.length
  | [], p, h => by simp [Pt.pieces] at h; subst h; simp
  | b :: l, p, h => by
    obtain ⟨q, r, e⟩ := Pt.pieces_cons l
    unfold Pt.pieces at h
    split at h
    · rcases List.mem_cons.1 h with rfl | h
      · simp
      · have := pieces_len l p h; simp; omega
    · rw [e] at h
      rcases List.mem_cons.1 h with rfl | h
      · have := pieces_len l q (by rw [e]; exact List.mem_cons_self ..); simp; omega
      · have := pieces_len l p (by rw [e]; exact List.mem_cons_of_mem _ h); simp; omega

theorem piece_size (s : ByteArray) (bs : List ByteArray) (h : lists bs = Pt.pieces s.data.toList) : ∀ x ∈ bs, x.size ≤ s.size := by
  intro x hx
  have := pieces_len s.data.toList x.data.toList (by rw [← h]; exact List.mem_map_of_mem hx)
  exact this

theorem path_lists (s : ByteArray) (bs : List ByteArray) (h : lists bs = Pt.pieces s.data.toList) : Pt.isPath s.data.toList = true ↔ bs.length ≤ 4 ∧ ∀ x ∈ bs, Pt.isName x.data.toList = true := by
  rw [Pt.isPath_iff, ← h, size_lists]
  constructor
  · rintro ⟨a, b⟩; exact ⟨a, fun x hx => b _ (List.mem_map_of_mem hx)⟩
  · rintro ⟨a, b⟩
    refine ⟨a, fun p hp => ?_⟩
    obtain ⟨x, hx, rfl⟩ := List.mem_map.1 hp
    exact b x hx

theorem not_path (s : ByteArray) (h : ¬ Pt.isPath s.data.toList = true) (hs : ¬ 51 < s.size) : Pt.check s.data.toList = 1 := by
  have hsz : s.data.toList.length = s.size := rfl
  unfold Pt.check
  rw [hsz, if_neg hs, if_neg h]

set_option maxRecDepth 100000 in
set_option maxHeartbeats 1000000 in
theorem refCheck_any (s : ByteArray) (hs : s.size ≤ 1000) (w : World) :
    Calls Tryz.prog 22 #[.string s] w fun e w' => e = .returned (.int .i64 (Pt.check s.data.toList)) ∧ Below w.heap.size w w' := by
  have hsz : s.data.toList.length = s.size := rfl
  obtain ⟨C, hC⟩ : ∃ C, Pt.check s.data.toList = C := ⟨_, rfl⟩
  rw [hC]
  by_cases h51 : 51 < s.size
  · have hC2 : C = 2 := by rw [← hC]; unfold Pt.check; rw [hsz, if_pos h51]
    subst hC2
    clear hC hsz
    go_enter Tryz.func22, Tryz.ntmps22
    go_wp2_with fail
    go_ret
    exact ⟨rfl, Below.refl _ _⟩
  · have HP := hide (pieces_any s hs)
    have HN := hide (not_path s)
    have HO := hide (Pt.check_ok s.data.toList)
    have HC := hide hC
    clear hC hsz
    go_enter Tryz.func22, Tryz.ntmps22
    go_wp2_with fail
    refine (unhide HP _).mono ?_
    rintro e w1 ⟨g, cap, bs, rfl, hl, hf, hb⟩
    have hb1 : bs.length ≤ 100000 := few_pieces s bs hs hl
    have HL := hide hl
    have HF := hide hf
    have HB := hide hb
    clear hl hf hb HP
    go_wp2_with fail
    go_loopw [4] (fun i wr => ∃ k : Nat, k ≤ bs.length ∧ i = .int .i64 k ∧ (∀ (j : Nat) (x : ByteArray), j < k → bs[j]? = some x → Pt.isName x.data.toList = true) ∧ (0 < k → bs.length ≤ 4) ∧ wr = w1) (fun i _ => bs.length - (intOf i).toNat)
    case atStart => exact ⟨0, Nat.zero_le _, rfl, fun j _ hj => absurd hj (Nat.not_lt_zero _), fun h => absurd h (Nat.not_lt_zero _), rfl⟩
    case round =>
      obtain ⟨k, hk, rfl, hall, hk4, rfl⟩ := hrel
      have HALL := hide hall
      have HK4 := hide hk4
      clear hall hk4
      by_cases hlt : k < bs.length
      · obtain ⟨x, hx⟩ : ∃ x, bs[k]? = some x := ⟨_, List.getElem?_eq_getElem hlt⟩
        have c1 : wr.cell? ⟨g, k, none⟩ = some (.string x) := (unhide HF).cell k x hx
        have hxs := piece_size s bs (unhide HL) x (List.mem_of_getElem? hx)
        have HX := hide hx
        have K1 := hide (refName_any x (by omega))
        clear hx
        cases hn : Pt.isName x.data.toList with
        | false =>
          have hbad : C = 1 := by
            rw [← unhide HC]
            refine unhide HN (fun hp => ?_) h51
            have := ((path_lists s bs (unhide HL)).1 hp).2 x (List.mem_of_getElem? (unhide HX))
            rw [hn] at this
            cases this
          subst hbad
          rw [hn] at K1
          clear hn
          go_wp2_with (go_at_call 42; refine (unhide K1 _).mono ?_; rintro e w2 ⟨rfl, rfl⟩)
          go_ret
          exact ⟨rfl, unhide HB⟩
        | true =>
          by_cases h4 : 4 < bs.length
          · have hbad : C = 1 := by
              rw [← unhide HC]
              refine unhide HN (fun hp => ?_) h51
              have := ((path_lists s bs (unhide HL)).1 hp).1
              omega
            subst hbad
            rw [hn] at K1
            clear hn
            go_wp2_with (go_at_call 42; refine (unhide K1 _).mono ?_; rintro e w2 ⟨rfl, rfl⟩)
            go_ret
            exact ⟨rfl, unhide HB⟩
          · have HALL2 : Hid (∀ (j : Nat) (y : ByteArray), j < k + 1 → bs[j]? = some y → Pt.isName y.data.toList = true) := by
              intro j y hj hy
              by_cases e : j = k
              · subst e
                rw [unhide HX] at hy
                cases hy
                exact hn
              · exact unhide HALL j y (by omega) hy
            rw [hn] at K1
            clear hn
            go_wp2_with (go_at_call 42; refine (unhide K1 _).mono ?_; rintro e w2 ⟨rfl, rfl⟩)
            go_roundw
            case rel => exact ⟨k + 1, by omega, by go_num, unhide HALL2, fun _ => by omega, by first | rfl | trivial⟩
            case measure => simp [intOf]; omega
      · obtain rfl : k = bs.length := by omega
        have hpos : 0 < bs.length := by
          have h1 := congrArg List.length (unhide HL)
          rw [size_lists] at h1
          have := Pt.pieces_pos s.data.toList
          omega
        have hgood : C = 0 := by
          rw [← unhide HC, unhide HO, path_lists s bs (unhide HL)]
          refine ⟨unhide HK4 hpos, fun x hx => ?_⟩
          obtain ⟨j, hj⟩ := List.mem_iff_getElem?.1 hx
          exact unhide HALL j x (List.getElem?_eq_some_iff.1 hj).1 hj
        subst hgood
        go_wp2_with fail
        go_ret
        exact ⟨rfl, unhide HB⟩

end Go.Proofs.YtklkacmeopfmhaaGreat.Pth

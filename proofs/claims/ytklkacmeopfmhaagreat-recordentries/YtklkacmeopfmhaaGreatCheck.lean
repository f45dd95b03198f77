/-
  What Check answers, the program's and the document's: why a list is no vector.
-/
import Derived.Test.YtklkacmeopfmhaaGreatRow
namespace Go.Proofs.YtklkacmeopfmhaaGreat
open Go.RowKit

/-- The peer ahead of a place. -/
def prevP (ds : List Vc.D) : Nat → Int
  | 0 => -1
  | k + 1 => (ds.getD k (0, 0)).1

theorem chk_end (ds : List Vc.D) (p : Int) : Vc.chk p (ds.drop ds.length) = 0 := by rw [List.drop_length]; rfl
theorem chk_step (ds : List Vc.D) (k : Nat) (d : Vc.D) (h : ds[k]? = some d) : Vc.chk (prevP ds k) (ds.drop k) = if Vc.dotErr d ≠ 0 then Vc.dotErr d else if d.1 ≤ prevP ds k then 8 else Vc.chk (prevP ds (k + 1)) (ds.drop (k + 1)) := by
  have hk := (List.getElem?_eq_some_iff.1 h).1
  rw [List.drop_eq_getElem_cons hk]
  have e : ds[k] = d := (List.getElem?_eq_some_iff.1 h).2
  rw [e]
  have e2 : prevP ds (k + 1) = d.1 := by simp [prevP, List.getD, h]
  rw [e2]
  rfl
theorem prev_at (ds : List Vc.D) (k : Nat) (d : Vc.D) (h : ds[k]? = some d) : prevP ds (k + 1) = d.1 := by simp [prevP, List.getD, h]

set_option maxRecDepth 100000 in
set_option maxHeartbeats 1000000 in
theorem check_any (a : Option Addr) (cap : Nat) (ds : List Vc.D) (hl : ds.length ≤ 9223372036854775807) (w : World) (h : Sl w a ds) :
    Calls Tryz.prog 59 #[.slice a ds.length cap] w fun e w' => e = .returned (.int .i64 (Vc.check ds)) ∧ Below w.heap.size w w' := by
  have HS := hide h
  have HC := hide (show Vc.check ds = Vc.chk (prevP ds 0) (ds.drop 0) from rfl)
  obtain ⟨C, hC⟩ : ∃ C, Vc.check ds = C := ⟨_, rfl⟩
  rw [hC] at HC ⊢
  clear h hC
  go_enter Tryz.func59, Tryz.ntmps59
  go_wp2_with fail
  go_loopw [8] (fun i wr => ∃ k : Nat, k ≤ ds.length ∧ i = .int .i64 k ∧ C = Vc.chk (prevP ds k) (ds.drop k) ∧ Below w.heap.size w wr) (fun i _ => ds.length - (intOf i).toNat)
  case atStart => exact ⟨0, Nat.zero_le _, rfl, unhide HC, Below.refl _ _⟩
  case round =>
    obtain ⟨k, hk, rfl, hc, hb⟩ := hrel
    have HC1 := hide hc
    have HB := hide hb
    clear hc hb HC
    by_cases hlt : k < ds.length
    · obtain ⟨d, hd⟩ : ∃ d, ds[k]? = some d := ⟨_, List.getElem?_eq_getElem hlt⟩
      obtain ⟨g, o, rfl, hg, hcell⟩ := unhide HS (by omega)
      have HG := hide hg
      have HCell := hide hcell
      have HD := hide hd
      obtain ⟨p, c⟩ := d
      have c0 : wr.cell? ⟨g, o + k * 2, none⟩ = some (.int .i64 p) := ((unhide HB).cell (p := ⟨g, o + k * 2, none⟩) hg).trans (hcell k _ hd).1
      have c1 : wr.cell? ⟨g, o + k * 2 + 1, none⟩ = some (.int .i64 c) := ((unhide HB).cell (p := ⟨g, o + k * 2 + 1, none⟩) hg).trans (hcell k _ hd).2
      clear hd hg hcell
      have KD := hide (dot_any p c)
      have HST := hide (chk_step ds k (p, c) (unhide HD))
      by_cases he : Vc.dotErr (p, c) = 0
      · have hok := (Vc.dotErr_zero (p, c)).1 he
        have hp0 : 0 ≤ p := hok.1
        clear hok
        rw [he] at KD
        rw [if_neg (by simpa using he)] at HST
        clear he
        by_cases hk0 : 0 < k
        · obtain ⟨m, hm⟩ : ∃ m, k = m + 1 := ⟨k - 1, by omega⟩
          obtain ⟨⟨p', c'⟩, hd'⟩ : ∃ d, ds[m]? = some d := ⟨_, List.getElem?_eq_getElem (by omega)⟩
          have e' : prevP ds k = p' := by rw [hm]; exact prev_at ds m _ hd'
          rw [e'] at HST
          have HM : Hid (w.cell? ⟨g, o + m * 2, none⟩ = some (.int .i64 p')) := ((unhide HCell) m _ hd').1
          have hmi : (k : Int) - 1 = (m : Int) := by omega
          have hmw : IntKind.i64.wrap ((k : Int) - 1) = (m : Int) := by rw [hmi]; exact wrap_small (by omega) (by omega)
          have hml : m < ds.length := by omega
          have hgi : (0 : Int) < (k : Int) := by omega
          have HMK : Hid (k = m + 1) := hm
          clear hd' hm
          by_cases hle : p ≤ p'
          · have HNX : Hid (C = 8) := by
              have h := unhide HST
              rw [if_pos (show (p, c).1 ≤ p' from hle)] at h
              exact hide (by rw [unhide HC1, e', h])
            clear e'
            go_wp2_with (go_at_call 77; refine (unhide KD _).mono ?_; rintro e w2 ⟨rfl, hb2⟩; have HB2 := hide ((((unhide HB).alloc (unhide HB).size _)).trans (hb2.mono (by have := (unhide HB).size; simp; omega))); have c2 : w2.cell? ⟨wr.heap.size, 0, none⟩ = some (.int .i64 p) := (hb2.cell (p := ⟨wr.heap.size, 0, none⟩) (lt_new _ _)).trans (new0 _ _ _ _); have c3 := ((unhide HB2).cell (p := ⟨g, o + m * 2, none⟩) (unhide HG)).trans (unhide HM); clear hb2 c0 c1)
            go_quiet (fail)
            go_wp2_with fail
            go_ret
            exact ⟨ret_int (unhide HNX).symm, below_drewN (unhide HB2) _⟩
          · have HNX : Hid (C = Vc.chk (prevP ds (k + 1)) (ds.drop (k + 1))) := by
              have h := unhide HST
              rw [if_neg (show ¬ (p, c).1 ≤ p' from hle)] at h
              exact hide (by rw [unhide HC1, e', h])
            clear e'
            go_wp2_with (go_at_call 77; refine (unhide KD _).mono ?_; rintro e w2 ⟨rfl, hb2⟩; have HB2 := hide ((((unhide HB).alloc (unhide HB).size _)).trans (hb2.mono (by have := (unhide HB).size; simp; omega))); have c2 : w2.cell? ⟨wr.heap.size, 0, none⟩ = some (.int .i64 p) := (hb2.cell (p := ⟨wr.heap.size, 0, none⟩) (lt_new _ _)).trans (new0 _ _ _ _); have c3 := ((unhide HB2).cell (p := ⟨g, o + m * 2, none⟩) (unhide HG)).trans (unhide HM); clear hb2 c0 c1)
            go_quiet (fail)
            go_wp2_with fail
            go_roundw
            case rel => exact ⟨k + 1, by omega, by go_num, unhide HNX, below_drewN (unhide HB2) _⟩
            case measure => simp [intOf]; omega
        · have HNX : Hid (C = Vc.chk (prevP ds (k + 1)) (ds.drop (k + 1))) := by
            have h := unhide HST
            have e : prevP ds k = -1 := by rw [show k = 0 by omega]; rfl
            rw [e, if_neg (show ¬ (p, c).1 ≤ -1 by show ¬ p ≤ -1; omega)] at h
            rw [unhide HC1, e]
            exact h
          have hgd : decide (0 < (k : Int)) = false := decide_eq_false (by omega)
          go_wp2_with (go_at_call 77; refine (unhide KD _).mono ?_; rintro e w2 ⟨rfl, hb2⟩; have HB2 := hide ((((unhide HB).alloc (unhide HB).size _)).trans (hb2.mono (by have := (unhide HB).size; simp; omega))); clear hb2 c0 c1)
          go_quiet (fail)
          go_wp2_with fail
          go_roundw
          case rel => exact ⟨k + 1, by omega, by go_num, unhide HNX, below_drewN (unhide HB2) _⟩
          case measure => simp [intOf]; omega
      · have HNX : Hid (C = Vc.dotErr (p, c)) := by
          have h := unhide HST
          rw [if_pos (by simpa using he)] at h
          exact hide (by rw [unhide HC1, h])
        have heb : (Vc.dotErr (p, c) != 0) = true := bne_iff_ne.2 he
        generalize Vc.dotErr (p, c) = E at *
        clear he
        go_wp2_with (go_at_call 77; refine (unhide KD _).mono ?_; rintro e w2 ⟨rfl, hb2⟩; have HB2 := hide ((((unhide HB).alloc (unhide HB).size _)).trans (hb2.mono (by have := (unhide HB).size; simp; omega))); clear hb2 c0 c1)
        go_ret
        exact ⟨ret_int (unhide HNX).symm, unhide HB2⟩
    · obtain rfl : k = ds.length := by omega
      have HNX : Hid (C = 0) := by rw [unhide HC1]; exact chk_end ds _
      go_wp2_with fail
      go_ret
      exact ⟨ret_int (unhide HNX).symm, unhide HB⟩
set_option maxRecDepth 100000 in
set_option maxHeartbeats 1000000 in
theorem refCheck_any (a : Option Addr) (cap : Nat) (ds : List Vc.D) (hl : ds.length ≤ 9223372036854775807) (w : World) (h : Sl w a ds) :
    Calls Tryz.prog 69 #[.slice a ds.length cap] w fun e w' => e = .returned (.int .i64 (Vc.check ds)) ∧ Below w.heap.size w w' := by
  have HS := hide h
  have HC := hide (show Vc.check ds = Vc.chk (prevP ds 0) (ds.drop 0) from rfl)
  obtain ⟨C, hC⟩ : ∃ C, Vc.check ds = C := ⟨_, rfl⟩
  rw [hC] at HC ⊢
  clear h hC
  go_enter Tryz.func69, Tryz.ntmps69
  go_wp2_with fail
  go_loopw [3] (fun i wr => ∃ k : Nat, k ≤ ds.length ∧ i = .int .i64 k ∧ C = Vc.chk (prevP ds k) (ds.drop k) ∧ Below w.heap.size w wr) (fun i _ => ds.length - (intOf i).toNat)
  case atStart => exact ⟨0, Nat.zero_le _, rfl, unhide HC, Below.refl _ _⟩
  case round =>
    obtain ⟨k, hk, rfl, hc, hb⟩ := hrel
    have HC1 := hide hc
    have HB := hide hb
    clear hc hb HC
    by_cases hlt : k < ds.length
    · obtain ⟨d, hd⟩ : ∃ d, ds[k]? = some d := ⟨_, List.getElem?_eq_getElem hlt⟩
      obtain ⟨g, o, rfl, hg, hcell⟩ := unhide HS (by omega)
      have HG := hide hg
      have HCell := hide hcell
      have HD := hide hd
      obtain ⟨p, c⟩ := d
      have c0 : wr.cell? ⟨g, o + k * 2, none⟩ = some (.int .i64 p) := ((unhide HB).cell (p := ⟨g, o + k * 2, none⟩) hg).trans (hcell k _ hd).1
      have c1 : wr.cell? ⟨g, o + k * 2 + 1, none⟩ = some (.int .i64 c) := ((unhide HB).cell (p := ⟨g, o + k * 2 + 1, none⟩) hg).trans (hcell k _ hd).2
      clear hd hg hcell
      have KD := hide (refDot_any p c)
      have HST := hide (chk_step ds k (p, c) (unhide HD))
      by_cases he : Vc.dotErr (p, c) = 0
      · have hok := (Vc.dotErr_zero (p, c)).1 he
        have hp0 : 0 ≤ p := hok.1
        clear hok
        rw [he] at KD
        rw [if_neg (by simpa using he)] at HST
        clear he
        by_cases hk0 : 0 < k
        · obtain ⟨m, hm⟩ : ∃ m, k = m + 1 := ⟨k - 1, by omega⟩
          obtain ⟨⟨p', c'⟩, hd'⟩ : ∃ d, ds[m]? = some d := ⟨_, List.getElem?_eq_getElem (by omega)⟩
          have e' : prevP ds k = p' := by rw [hm]; exact prev_at ds m _ hd'
          rw [e'] at HST
          have HM : Hid (w.cell? ⟨g, o + m * 2, none⟩ = some (.int .i64 p')) := ((unhide HCell) m _ hd').1
          have HK : Hid (w.cell? ⟨g, o + k * 2, none⟩ = some (.int .i64 p)) := ((unhide HCell) k _ (unhide HD)).1
          have hmi : (k : Int) - 1 = (m : Int) := by omega
          have hmw : IntKind.i64.wrap ((k : Int) - 1) = (m : Int) := by rw [hmi]; exact wrap_small (by omega) (by omega)
          have hml : m < ds.length := by omega
          have hgi : (0 : Int) < (k : Int) := by omega
          have HMK : Hid (k = m + 1) := hm
          clear hd' hm
          by_cases hle : p ≤ p'
          · have HNX : Hid (C = 8) := by
              have h := unhide HST
              rw [if_pos (show (p, c).1 ≤ p' from hle)] at h
              exact hide (by rw [unhide HC1, e', h])
            clear e'
            go_wp2_with (go_at_call 85; refine (unhide KD _).mono ?_; rintro e w2 ⟨rfl, hb2⟩; have HB2 := hide (below_grow (unhide HB) (Nat.le_refl _) hb2); have c2 := ((unhide HB2).cell (p := ⟨g, o + k * 2, none⟩) (unhide HG)).trans (unhide HK); have c3 := ((unhide HB2).cell (p := ⟨g, o + m * 2, none⟩) (unhide HG)).trans (unhide HM); clear hb2 c0 c1)
            go_quiet (fail)
            go_wp2_with fail
            go_ret
            exact ⟨ret_int (unhide HNX).symm, below_drewN (unhide HB2) _⟩
          · have HNX : Hid (C = Vc.chk (prevP ds (k + 1)) (ds.drop (k + 1))) := by
              have h := unhide HST
              rw [if_neg (show ¬ (p, c).1 ≤ p' from hle)] at h
              exact hide (by rw [unhide HC1, e', h])
            clear e'
            go_wp2_with (go_at_call 85; refine (unhide KD _).mono ?_; rintro e w2 ⟨rfl, hb2⟩; have HB2 := hide (below_grow (unhide HB) (Nat.le_refl _) hb2); have c2 := ((unhide HB2).cell (p := ⟨g, o + k * 2, none⟩) (unhide HG)).trans (unhide HK); have c3 := ((unhide HB2).cell (p := ⟨g, o + m * 2, none⟩) (unhide HG)).trans (unhide HM); clear hb2 c0 c1)
            go_quiet (fail)
            go_wp2_with fail
            go_roundw
            case rel => exact ⟨k + 1, by omega, by go_num, unhide HNX, below_drewN (unhide HB2) _⟩
            case measure => simp [intOf]; omega
        · have HNX : Hid (C = Vc.chk (prevP ds (k + 1)) (ds.drop (k + 1))) := by
            have h := unhide HST
            have e : prevP ds k = -1 := by rw [show k = 0 by omega]; rfl
            rw [e, if_neg (show ¬ (p, c).1 ≤ -1 by show ¬ p ≤ -1; omega)] at h
            rw [unhide HC1, e]
            exact h
          have hgd : decide (0 < (k : Int)) = false := decide_eq_false (by omega)
          go_wp2_with (go_at_call 85; refine (unhide KD _).mono ?_; rintro e w2 ⟨rfl, hb2⟩; have HB2 := hide (below_grow (unhide HB) (Nat.le_refl _) hb2); clear hb2 c0 c1)
          go_quiet (fail)
          go_wp2_with fail
          go_roundw
          case rel => exact ⟨k + 1, by omega, by go_num, unhide HNX, below_drewN (unhide HB2) _⟩
          case measure => simp [intOf]; omega
      · have HNX : Hid (C = Vc.dotErr (p, c)) := by
          have h := unhide HST
          rw [if_pos (by simpa using he)] at h
          exact hide (by rw [unhide HC1, h])
        have heb : (Vc.dotErr (p, c) != 0) = true := bne_iff_ne.2 he
        generalize Vc.dotErr (p, c) = E at *
        clear he
        go_wp2_with (go_at_call 85; refine (unhide KD _).mono ?_; rintro e w2 ⟨rfl, hb2⟩; have HB2 := hide (below_grow (unhide HB) (Nat.le_refl _) hb2); clear hb2 c0 c1)
        go_ret
        exact ⟨ret_int (unhide HNX).symm, unhide HB2⟩
    · obtain rfl : k = ds.length := by omega
      have HNX : Hid (C = 0) := by rw [unhide HC1]; exact chk_end ds _
      go_wp2_with fail
      go_ret
      exact ⟨ret_int (unhide HNX).symm, unhide HB⟩
end Go.Proofs.YtklkacmeopfmhaaGreat

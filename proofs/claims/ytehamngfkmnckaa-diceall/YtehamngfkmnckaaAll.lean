/-
  All orders come of some draw: the law's walk.
-/
import Derived.Test.YtehamngfkmnckaaOnce
namespace Go.Proofs.Ytehamngfkmnckaa
open Go.RowKit

/-- How far the law has come. -/
structure Far (l : List Int) (j A U : Nat) (g : List Bool) (done : List Nat) : Prop where
  len : g.length = l.length
  lefts : Dc.lefts g = l.length - j
  dlen : done.length = j
  picks : done ++ Dc.picks g ((Dc.ksOf l).drop j) = Dc.picks (List.replicate l.length false) (Dc.ksOf l)
  code : A + U * Dc.code ((Dc.ksOf l).drop j) = Dc.code (Dc.ksOf l)
  lt : A < U
  le : U ≤ 12 ^ j
theorem Far.start (l : List Int) : Far l 0 0 1 (List.replicate l.length false) [] :=
  ⟨by simp, by rw [Dc.lefts_none]; rfl, rfl, by rw [List.drop_zero]; rfl, by rw [List.drop_zero]; omega, by omega, by simp⟩
theorem Far.step {l : List Int} {j A U : Nat} {g : List Bool} {done : List Nat} (h : Far l j A U g done) (hl : l.length ≤ 12) {x : Int} (hx : l[j]? = some x) {K : Nat} (hK : K = drawN x % (l.length - j)) :
    K < Dc.lefts g ∧ Far l (j + 1) (A + K * U) (U * (l.length - j)) (g.set (Dc.pickAt g K) true) (done ++ [Dc.pickAt g K]) := by
  have hj := (List.getElem?_eq_some_iff.1 hx).1
  have hk : K < l.length - j := by rw [hK]; exact Nat.mod_lt _ (by omega)
  have hkl : K < Dc.lefts g := by rw [h.lefts]; exact hk
  have e := Dc.ksOf_at hx
  rw [show (x % 18446744073709551616).toNat % (l.length - j) = K by rw [hK]; rfl] at e
  have hc := h.code
  rw [e, Dc.code] at hc
  have hlen : ((Dc.ksOf l).drop (j + 1)).length + 1 = l.length - j := by rw [List.length_drop, Dc.ksOf_len]; omega
  rw [hlen, Nat.mul_add] at hc
  refine ⟨hkl, ⟨by rw [List.length_set]; exact h.len, ?_, by rw [List.length_append, h.dlen]; rfl, ?_, ?_, ?_, ?_⟩⟩
  · have h1 := Dc.lefts_set (Dc.pick_false g K hkl)
    have h2 := h.lefts
    omega
  · have h1 := h.picks
    rw [e, Dc.picks] at h1
    rw [List.append_assoc]
    exact h1
  · rw [← hc, Nat.mul_comm U K, Nat.mul_assoc, Nat.add_assoc]
  · have h1 := h.lt
    have h2 : K * U + U ≤ U * (l.length - j) := by
      have := Nat.mul_le_mul_right U (show K + 1 ≤ l.length - j by omega)
      rw [Nat.add_mul, Nat.one_mul, Nat.mul_comm (l.length - j)] at this
      exact this
    omega
  · rw [Nat.pow_succ]
    exact Nat.mul_le_mul h.le (by omega)
theorem Far.done {l : List Int} {A U : Nat} {g : List Bool} {done : List Nat} (h : Far l l.length A U g done) : Dc.order A l.length = done := by
  have h1 := h.picks
  have h2 := h.code
  rw [List.drop_of_length_le (by rw [Dc.ksOf_len]; exact Nat.le_refl _)] at h1 h2
  rw [Dc.picks, List.append_nil] at h1
  rw [Dc.code, Nat.mul_zero, Nat.add_zero] at h2
  rw [h1, h2, Dc.order_code]
theorem left_is (D n j : Nat) (hj : j < n) (h : n ≤ 12) : wrap64 ((D : Int) % ((n : Int) - (j : Int))) = ((D % (n - j) : Nat) : Int) := by
  rw [show (n : Int) - (j : Int) = ((n - j : Nat) : Int) by omega]
  exact mod_is D (n - j) (by omega) (by omega)
theorem unit_is (U n j : Nat) (hj : j < n) (h : U * (n - j) < 107374182400000) : wrap64 ((U : Int) * ((n : Int) - (j : Int))) = ((U * (n - j) : Nat) : Int) := by
  rw [show (n : Int) - (j : Int) = ((n - j : Nat) : Int) by omega, ← Int.natCast_mul]
  generalize U * (n - j) = x at h
  simp only [wrap64]
  omega
theorem draw_is (A K U : Nat) (h : A + K * U < 107374182400000) : wrap64 ((A : Int) + wrap64 ((K : Int) * (U : Int))) = ((A + K * U : Nat) : Int) := by
  rw [← Int.natCast_mul, Int.natCast_add]
  generalize K * U = x at h
  simp only [wrap64]
  omega
theorem want_set {done : List Nat} {n j : Nat} (hd : done.length = j) (hj : j < n) (q : Nat) : (nums (ints done ++ List.replicate (n - j) 0)).set j (.int .i64 q) = nums (ints (done ++ [q]) ++ List.replicate (n - (j + 1)) 0) := by
  rw [nums_set, List.set_append, if_neg (by rw [ints_len]; omega), ints_len, hd, Nat.sub_self, show n - j = n - (j + 1) + 1 by omega, List.replicate_succ, List.set_cons_zero, ints_append, List.append_assoc]
  rfl
theorem drawN_nat {A : Nat} (h : A < 107374182400000) : drawN (A : Int) = A := by unfold drawN; omega

set_option maxRecDepth 100000 in
set_option maxHeartbeats 1000000 in
theorem all_any (P : Prg) (a : Option Addr) (cap : Nat) (l : List Int) (w : World) (hs : Sn w a l) (hlc : l.length ≤ 9223372036854775807) : Calls Try.prog 6 #[.slice a l.length cap] w fun e w' => e = .returned (.bool true) ∧ Below w.heap.size w w' := by
  have K5 := hide fun W => awake_any P W
  by_cases hl : 12 < l.length
  · have d1 : decide ((12 : Int) < (l.length : Int)) = true := decide_eq_true (by omega)
    clear P hs
    go_enter Try.func6, Try.ntmps6
    go_wp2_with fail
    refine (unhide K5 _).mono ?_
    rintro e w3 ⟨rfl, hb⟩
    have HE := hide hb
    clear hb
    go_wp2_with fail
    go_ret
    exact ⟨rfl, unhide HE⟩
  · have d1 : decide ((12 : Int) < (l.length : Int)) = false := decide_eq_false (by omega)
    have HP := hide P
    have HS := hide hs
    obtain ⟨n, hn⟩ : ∃ n, l.length = n := ⟨_, rfl⟩
    have hn12 : n ≤ 12 := by omega
    have HN := hide hn
    have HF := hide (Far.start l)
    rw [hn] at d1 ⊢
    obtain ⟨w1, hmk1, hrm1, hbm1⟩ := make_bools n (by omega) w
    obtain ⟨w2, hmk2, hrm2, hbm2⟩ := make_ints n (by omega) w1
    have HB2 := hide (below_grow hbm1 (Nat.le_refl _) hbm2)
    have HR1 := hide (hrm1.after hbm2)
    have HR2 := hide hrm2
    have HNE : Hid (w.heap.size < w1.heap.size) := hide hrm1.lt
    clear P hs hl hlc hn hrm1 hrm2 hbm1 hbm2
    go_enter Try.func6, Try.ntmps6
    go_wp2_with fail
    go_loopw [6, 7, 8, 9, 10] (fun dr un i _ _ wr => ∃ (j A U : Nat) (g : List Bool) (done : List Nat), j ≤ n ∧ A < 107374182400000 ∧ U < 107374182400000 ∧ dr = .int .i64 A ∧ un = .int .i64 U ∧ i = .int .i64 j ∧ Hid (Far l j A U g done) ∧ Hid (VRow wr w.heap.size 4 (bools g) ∧ VRow wr w1.heap.size 3 (nums (ints done ++ List.replicate (n - j) 0)) ∧ Below w.heap.size w wr)) (fun _ _ i _ _ _ => n - (intOf i).toNat)
    case atStart => exact ⟨0, 0, 1, _, [], Nat.zero_le _, by omega, by omega, rfl, rfl, rfl, HF, hide ⟨by rw [unhide HN]; exact unhide HR1, unhide HR2, unhide HB2⟩⟩
    case round =>
      obtain ⟨j, A, U, g, done, hj, hA, hU, rfl, rfl, rfl, HG, HW⟩ := hrel
      by_cases hlt : j < n
      · have hjz : decide ((j : Int) < (n : Int)) = true := decide_eq_true (by omega)
        have hjz2 : (j : Int) < (n : Int) := by omega
        obtain ⟨x, hx⟩ : ∃ x, l[j]? = some x := ⟨_, List.getElem?_eq_getElem (by rw [unhide HN]; exact hlt)⟩
        obtain ⟨gb, o, rfl, hgb, hcell⟩ := (unhide HS).after (unhide HW).2.2 (by rw [unhide HN]; omega)
        have x0 := hcell j _ hx
        have hdr := drawN_is x
        obtain ⟨K, hK⟩ : ∃ K, drawN x % (n - j) = K := ⟨_, rfl⟩
        have hst := (unhide HG).step (by rw [unhide HN]; exact hn12) hx (K := K) (by rw [unhide HN]; exact hK.symm)
        rw [unhide HN] at hst
        have hbU : U * (n - j) < 107374182400000 := by
          have h1 := hst.2.le
          have h2 := Dc.pow12 (j + 1) (by omega)
          omega
        have hbA : A + K * U < 107374182400000 := by have := hst.2.lt; omega
        have hbK : K ≤ 12 := by rw [← hK]; have := Nat.mod_lt (drawN x) (show 0 < n - j by omega); omega
        have r1 := left_is (drawN x) n j hlt hn12
        have r2 := unit_is U n j hlt hbU
        have r3 := draw_is A K U hbA
        rw [hK] at r1
        have HST := hide hst.2
        have HPL : Hid (0 + Dc.pickAt (g.drop 0) K = Dc.pickAt g K ∧ K < Dc.lefts (g.drop 0)) := hide ⟨by simp, by rw [List.drop_zero]; exact hst.1⟩
        generalize wr = wa at HW x0 ⊢
        generalize Dc.pickAt g K = P at HST HPL
        clear hst hK
        go_wp2_with fail
        rw [r1, r3, r2]
        clear r1 r2 r3 hdr x0 hcell hgb hx
        generalize A + K * U = A2 at hbA HST ⊢
        generalize U * (n - j) = U2 at hbU HST ⊢
        go_loopw [9, 10] (fun k i wr => ∃ (c q : Nat), q ≤ n ∧ c ≤ 12 ∧ k = .int .i64 c ∧ i = .int .i64 q ∧ Hid (q + Dc.pickAt (g.drop q) c = P ∧ c < Dc.lefts (g.drop q)) ∧ wr = wa) (fun _ i _ => n - (intOf i).toNat)
        case atStart => exact ⟨K, 0, Nat.zero_le _, hbK, rfl, rfl, HPL, rfl⟩
        case round =>
          obtain ⟨c, q, hq, hc, rfl, rfl, HJ, rfl⟩ := hrel
          have HGL : Hid (g.length = n) := hide ((unhide HG).len.trans (unhide HN))
          by_cases hql : q < n
          · have hqz : decide ((q : Int) < (n : Int)) = true := decide_eq_true (by omega)
            have hqz2 : (q : Int) < (n : Int) := by omega
            obtain ⟨b, hb⟩ : ∃ b, g[q]? = some b := ⟨_, List.getElem?_eq_getElem (by rw [unhide HGL]; exact hql)⟩
            have x0 := (unhide HW).1.cell q _ (bools_at hb)
            have hpn := Dc.pick_next (g := g) (k := c) (i := q) (by rw [unhide HGL]; exact hql)
            have hln := Dc.lefts_next (g := g) (i := q) (by rw [unhide HGL]; exact hql)
            rw [hb] at hpn hln
            have HPN := hide hpn
            have HLN := hide hln
            clear hpn hln hb
            cases b with
            | true =>
              have HJ2 : Hid (q + 1 + Dc.pickAt (g.drop (q + 1)) c = P ∧ c < Dc.lefts (g.drop (q + 1))) := hide (by
                have h1 := unhide HJ; have h2 := unhide HPN; have h3 := unhide HLN
                rw [if_pos (by rfl)] at h2 h3
                omega)
              go_wp2_with fail
              go_roundw
              case rel => exact ⟨c, q + 1, by omega, hc, by rfl, by go_num, HJ2, by trivial⟩
              case measure => simp [intOf]; omega
            | false =>
              by_cases hc0 : c = 0
              · subst hc0
                have HJP : Hid (P = q) := hide (by
                  have h1 := unhide HJ; have h2 := unhide HPN
                  rw [if_neg (by simp), if_pos rfl] at h2
                  omega)
                have hwl : (nums (ints done ++ List.replicate (n - j) 0)).length = n := by rw [nums, List.length_map, List.length_append, ints_len, (unhide HG).dlen, List.length_replicate]; omega
                obtain ⟨v0, hv0⟩ : ∃ v, (nums (ints done ++ List.replicate (n - j) 0))[j]? = some v := ⟨_, List.getElem?_eq_getElem (by rw [hwl]; exact hlt)⟩
                have y0 := (unhide HW).2.1.cell j _ hv0
                have fy := (unhide HW).2.1.frozen j
                have HW1 := hide ((unhide HW).1.setNe (show w.heap.size ≠ w1.heap.size by have := unhide HNE; omega) j (.int .i64 q))
                have HW2 : Hid (VRow (wr.setCell ⟨w1.heap.size, j, none⟩ (.int .i64 q)) w1.heap.size 3 (nums (ints (done ++ [q]) ++ List.replicate (n - (j + 1)) 0))) := hide (by rw [← want_set (unhide HG).dlen hlt]; exact (unhide HW).2.1.set j _)
                have x1 := (unhide HW1).cell q _ (bools_at (show g[q]? = some false from by
                  have h1 := (unhide HPN)
                  have : g[q]?.getD true = false := by
                    have hh := x0
                    have hg : (bools g)[q]? = some (.bool false) := by
                      rw [cell_of_row wr w.heap.size q (bools g).toArray 4 (0, 0) (unhide HW).1] at hh
                      simpa using hh
                    rw [bools, List.getElem?_map] at hg
                    cases e : g[q]? with
                    | none => rw [e] at hg; simp at hg
                    | some b => rw [e] at hg; simp at hg; simp [hg]
                  rw [List.getElem?_eq_getElem (by rw [unhide HGL]; exact hql)] at this ⊢
                  simpa using this))
                have f1 := (unhide HW1).frozen q
                have HWE : Hid (VRow ((wr.setCell ⟨w1.heap.size, j, none⟩ (.int .i64 q)).setCell ⟨w.heap.size, q, none⟩ (.bool true)) w.heap.size 4 (bools (g.set P true)) ∧ VRow ((wr.setCell ⟨w1.heap.size, j, none⟩ (.int .i64 q)).setCell ⟨w.heap.size, q, none⟩ (.bool true)) w1.heap.size 3 (nums (ints (done ++ [P]) ++ List.replicate (n - (j + 1)) 0)) ∧ Below w.heap.size w ((wr.setCell ⟨w1.heap.size, j, none⟩ (.int .i64 q)).setCell ⟨w.heap.size, q, none⟩ (.bool true))) := hide ⟨by rw [unhide HJP, ← bools_set]; exact (unhide HW1).set q _, by rw [unhide HJP]; exact (unhide HW2).setNe (by have := unhide HNE; omega) q _, below_set (below_set (unhide HW).2.2 (Nat.le_of_lt (unhide HNE)) _ _) (Nat.le_refl _) _ _⟩
                clear hwl hv0
                go_wp2_with fail
                go_roundw
                case rel => exact ⟨j + 1, A2, U2, g.set P true, done ++ [P], by omega, hbA, hbU, by rfl, by rfl, by go_num, HST, HWE⟩
                case measure => simp [intOf]; omega
              · have hcz : ((c : Int) == 0) = false := by simp; omega
                have HJ2 : Hid (q + 1 + Dc.pickAt (g.drop (q + 1)) (c - 1) = P ∧ c - 1 < Dc.lefts (g.drop (q + 1))) := hide (by
                  have h1 := unhide HJ; have h2 := unhide HPN; have h3 := unhide HLN
                  rw [if_neg (by simp)] at h2 h3
                  rw [if_neg hc0] at h2
                  omega)
                go_wp2_with fail
                go_roundw
                case rel => exact ⟨c - 1, q + 1, by omega, by omega, by go_num, by go_num, HJ2, by trivial⟩
                case measure => simp [intOf]; omega
          · obtain rfl : q = n := by omega
            exact absurd (unhide HJ).2 (by rw [List.drop_of_length_le (by rw [unhide HGL]; exact Nat.le_refl _)]; simp [Dc.lefts])
      · obtain rfl : j = n := by omega
        have hjz : decide ((j : Int) < (j : Int)) = false := decide_eq_false (by omega)
        have KO := hide ((unhide HP).order A j wr (by unfold I64; omega) (by unfold I64; omega))
        have hord : Dc.order A j = done := by
          have h := unhide HG
          have hn := unhide HN
          subst hn
          exact h.done
        rw [ordI_nat _ (by omega), drawN_nat hA, hord] at KO
        have HWS : Hid (Sn wr (some ⟨w1.heap.size, 0, none⟩) (ints done)) := hide (by
          have h := (unhide HW).2.1
          rw [Nat.sub_self, List.replicate_zero, List.append_nil] at h
          exact h.sn)
        have hdl : (ints done).length = j := by rw [ints_len]; exact (unhide HG).dlen
        have HB := hide (unhide HW).2.2
        generalize ints done = LI at KO HWS hdl
        clear hord HW HG
        go_wp2_with fail
        refine (unhide KO).mono ?_
        rintro e w3 ⟨r3, c3, rfl, hc3, hs3, hb3⟩
        have KS := hide (refSame_any r3 (some ⟨w1.heap.size, 0, none⟩) c3 j LI LI (by omega) (by omega) w3 hs3 ((unhide HWS).after hb3) true (by simp))
        rw [hdl] at KS ⊢
        replace HB := hide (below_grow (unhide HB) (Nat.le_refl _) hb3)
        clear hs3 hc3 hb3 KO
        go_wp2_with fail
        refine (unhide KS).mono ?_
        rintro e w4 ⟨rfl, hb⟩
        replace HB := hide (below_grow (unhide HB) (Nat.le_refl _) hb)
        clear hb KS
        go_wp2_with fail
        refine (unhide K5 _).mono ?_
        rintro e w5 ⟨rfl, hb⟩
        replace HB := hide (below_grow (unhide HB) (Nat.le_refl _) hb)
        clear hb
        go_wp2_with fail
        go_ret
        exact ⟨rfl, unhide HB⟩
end Go.Proofs.Ytehamngfkmnckaa

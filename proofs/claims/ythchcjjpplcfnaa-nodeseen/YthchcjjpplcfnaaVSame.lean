/-
  Whether two leaves are the same: the program's.
-/
import Derived.Test.YthchcjjpplcfnaaP1
import Derived.Test.YthchcjjpplcfnaaGrow
namespace Go.Proofs.Ythchcjjpplcfnaa
open Go.RowKit

set_option maxRecDepth 100000 in
set_option maxHeartbeats 1000000 in
theorem same1_any (v u : Vc.V) (r q : Option Addr) (c d : Nat) (hl : v.past.length ≤ 9223372036854775807) (w : World) (sv : Sl w r v.past) (su : Sl w q u.past) (D : Bool) (hD : D = true ↔ v = u) :
    Calls Try.prog 52 #[.agg (verL v r c).toArray, .agg (verL u q d).toArray] w fun e w' => e = .returned (.bool D) ∧ Below w.heap.size w w' := by
  rw [ver_eq] at hD
  obtain ⟨⟨p, n⟩, P, x, s⟩ := v
  obtain ⟨⟨p', n'⟩, P', x', s'⟩ := u
  unfold verL
  dsimp only at hD hl sv su ⊢
  by_cases hp : p = p'
  · subst hp
    by_cases hn : n = n'
    · subst hn

      have HB := hide ((below_alloc' (w := w) (.cells #[.int .i64 p, .int .i64 n, .slice r P.length c, .bool x, .string s] 65)).alloc (by simp) (.cells #[.int .i64 p, .int .i64 n, .slice q P'.length d, .bool x', .string s'] 65))
      have RS := hide ((VRow.new w 65 [.int .i64 p, .int .i64 n, .slice r P.length c, .bool x, .string s]).alloc (.cells #[.int .i64 p, .int .i64 n, .slice q P'.length d, .bool x', .string s'] 65))
      have RT := hide (VRow.newAt (W := w.alloc (.cells #[.int .i64 p, .int .i64 n, .slice r P.length c, .bool x, .string s] 65)) (T := 65) (n := w.heap.size + 1) (vs := [.int .i64 p, .int .i64 n, .slice q P'.length d, .bool x', .string s']) (by simp))
      have a0 := (unhide RS).cell 0 _ rfl
      have b0 := (unhide RT).cell 0 _ rfl
      have a1 := (unhide RS).cell 1 _ rfl
      have b1 := (unhide RT).cell 1 _ rfl
      have a2 := (unhide RS).cell 2 _ rfl
      have b2 := (unhide RT).cell 2 _ rfl
      have a3 := (unhide RS).cell 3 _ rfl
      have b3 := (unhide RT).cell 3 _ rfl
      have a4 := (unhide RS).cell 4 _ rfl
      have b4 := (unhide RT).cell 4 _ rfl
      clear RS RT
      have S := hide (sv.after (unhide HB))
      have T := hide (su.after (unhide HB))
      clear sv su
      by_cases hP : P = P'
      · have K := hide fun W h h' => same_any r q c d P P' hl W h h' true (by simp [hP])
        have KL := hide (show P.length = P'.length by rw [hP])
        by_cases hx : x = x'
        · subst hx
          have hxx : (x == x) = true := by simp
          by_cases hs : s = s'
          · subst hs
            obtain rfl : D = true := hD.2 ⟨rfl, rfl, rfl, hP⟩
            clear hD hP KL
            have hss : (s.toList == s.toList) = true := by simp
            go_enter Try.func52, Try.ntmps52
            go_wp2_with (go_at_call 53; refine (unhide K _ (unhide S) (unhide T)).mono ?_; rintro e w1 ⟨rfl, hb⟩; have HB1 := hide (below_grow (unhide HB) (Nat.le_refl _) hb); have c3 := (hb.cell (p := ⟨w.heap.size, 3, none⟩) (by simp; omega)).trans a3; have c4 := (hb.cell (p := ⟨w.heap.size, 4, none⟩) (by simp; omega)).trans a4; have e3 := (hb.cell (p := ⟨w.heap.size + 1, 3, none⟩) (by simp)).trans b3; have e4 := (hb.cell (p := ⟨w.heap.size + 1, 4, none⟩) (by simp)).trans b4; clear hb a0 a1 a2 a3 a4 b0 b1 b2 b3 b4)
            go_ret
            exact ⟨rfl, unhide HB1⟩
          · obtain rfl : D = false := by
              cases D with
              | false => rfl
              | true => exact absurd (hD.1 rfl).2.2.1 hs
            clear hD hP KL
            have hss : (s.toList == s'.toList) = false := (toList_eq s s').trans (decide_eq_false hs)
            go_enter Try.func52, Try.ntmps52
            go_wp2_with (go_at_call 53; refine (unhide K _ (unhide S) (unhide T)).mono ?_; rintro e w1 ⟨rfl, hb⟩; have HB1 := hide (below_grow (unhide HB) (Nat.le_refl _) hb); have c3 := (hb.cell (p := ⟨w.heap.size, 3, none⟩) (by simp; omega)).trans a3; have c4 := (hb.cell (p := ⟨w.heap.size, 4, none⟩) (by simp; omega)).trans a4; have e3 := (hb.cell (p := ⟨w.heap.size + 1, 3, none⟩) (by simp)).trans b3; have e4 := (hb.cell (p := ⟨w.heap.size + 1, 4, none⟩) (by simp)).trans b4; clear hb a0 a1 a2 a3 a4 b0 b1 b2 b3 b4)
            go_ret
            exact ⟨rfl, unhide HB1⟩
        · obtain rfl : D = false := by
            cases D with
            | false => rfl
            | true => exact absurd (hD.1 rfl).2.1 hx
          clear hD hP KL
          have hxx : (x == x') = false := by simpa using hx
          go_enter Try.func52, Try.ntmps52
          go_wp2_with (go_at_call 53; refine (unhide K _ (unhide S) (unhide T)).mono ?_; rintro e w1 ⟨rfl, hb⟩; have HB1 := hide (below_grow (unhide HB) (Nat.le_refl _) hb); have c3 := (hb.cell (p := ⟨w.heap.size, 3, none⟩) (by simp; omega)).trans a3; have c4 := (hb.cell (p := ⟨w.heap.size, 4, none⟩) (by simp; omega)).trans a4; have e3 := (hb.cell (p := ⟨w.heap.size + 1, 3, none⟩) (by simp)).trans b3; have e4 := (hb.cell (p := ⟨w.heap.size + 1, 4, none⟩) (by simp)).trans b4; clear hb a0 a1 a2 a3 a4 b0 b1 b2 b3 b4)
          go_ret
          exact ⟨rfl, unhide HB1⟩
      · have K := hide fun W h h' => same_any r q c d P P' hl W h h' false (by simp [hP])
        obtain rfl : D = false := by
          cases D with
          | false => rfl
          | true => exact absurd (hD.1 rfl).2.2.2 hP
        clear hD hP
        go_enter Try.func52, Try.ntmps52
        go_wp2_with (go_at_call 53; refine (unhide K _ (unhide S) (unhide T)).mono ?_; rintro e w1 ⟨rfl, hb⟩; have HB1 := hide (below_grow (unhide HB) (Nat.le_refl _) hb); clear hb a0 a1 a2 a3 a4 b0 b1 b2 b3 b4)
        go_ret
        exact ⟨rfl, unhide HB1⟩
    · obtain rfl : D = false := by
        cases D with
        | false => rfl
        | true => exact absurd (hD.1 rfl).1 (fun e => hn (by injection e))
      clear hD sv su

      have HB := hide ((below_alloc' (w := w) (.cells #[.int .i64 p, .int .i64 n, .slice r P.length c, .bool x, .string s] 65)).alloc (by simp) (.cells #[.int .i64 p, .int .i64 n', .slice q P'.length d, .bool x', .string s'] 65))
      have RS := hide ((VRow.new w 65 [.int .i64 p, .int .i64 n, .slice r P.length c, .bool x, .string s]).alloc (.cells #[.int .i64 p, .int .i64 n', .slice q P'.length d, .bool x', .string s'] 65))
      have RT := hide (VRow.newAt (W := w.alloc (.cells #[.int .i64 p, .int .i64 n, .slice r P.length c, .bool x, .string s] 65)) (T := 65) (n := w.heap.size + 1) (vs := [.int .i64 p, .int .i64 n', .slice q P'.length d, .bool x', .string s']) (by simp))
      have a0 := (unhide RS).cell 0 _ rfl
      have b0 := (unhide RT).cell 0 _ rfl
      have a1 := (unhide RS).cell 1 _ rfl
      have b1 := (unhide RT).cell 1 _ rfl
      have a2 := (unhide RS).cell 2 _ rfl
      have b2 := (unhide RT).cell 2 _ rfl
      have a3 := (unhide RS).cell 3 _ rfl
      have b3 := (unhide RT).cell 3 _ rfl
      have a4 := (unhide RS).cell 4 _ rfl
      have b4 := (unhide RT).cell 4 _ rfl
      clear RS RT
      go_enter Try.func52, Try.ntmps52
      go_wp2_with fail
      go_ret
      exact ⟨rfl, unhide HB⟩
  · obtain rfl : D = false := by
      cases D with
      | false => rfl
      | true => exact absurd (hD.1 rfl).1 (fun e => hp (by injection e))
    clear hD sv su

    have HB := hide ((below_alloc' (w := w) (.cells #[.int .i64 p, .int .i64 n, .slice r P.length c, .bool x, .string s] 65)).alloc (by simp) (.cells #[.int .i64 p', .int .i64 n', .slice q P'.length d, .bool x', .string s'] 65))
    have RS := hide ((VRow.new w 65 [.int .i64 p, .int .i64 n, .slice r P.length c, .bool x, .string s]).alloc (.cells #[.int .i64 p', .int .i64 n', .slice q P'.length d, .bool x', .string s'] 65))
    have RT := hide (VRow.newAt (W := w.alloc (.cells #[.int .i64 p, .int .i64 n, .slice r P.length c, .bool x, .string s] 65)) (T := 65) (n := w.heap.size + 1) (vs := [.int .i64 p', .int .i64 n', .slice q P'.length d, .bool x', .string s']) (by simp))
    have a0 := (unhide RS).cell 0 _ rfl
    have b0 := (unhide RT).cell 0 _ rfl
    have a1 := (unhide RS).cell 1 _ rfl
    have b1 := (unhide RT).cell 1 _ rfl
    have a2 := (unhide RS).cell 2 _ rfl
    have b2 := (unhide RT).cell 2 _ rfl
    have a3 := (unhide RS).cell 3 _ rfl
    have b3 := (unhide RT).cell 3 _ rfl
    have a4 := (unhide RS).cell 4 _ rfl
    have b4 := (unhide RT).cell 4 _ rfl
    clear RS RT
    go_enter Try.func52, Try.ntmps52
    go_wp2_with fail
    go_ret
    exact ⟨rfl, unhide HB⟩

set_option maxRecDepth 100000 in
set_option maxHeartbeats 1000000 in
theorem equalF_any (a b : Option Addr) (ca cb : Nat) (us vs : List Vc.V) (hf : Few us) (hg : Few vs) (w : World) (ha : SV w a us) (hb : SV w b vs) (D : Bool) (hD : D = true ↔ us = vs) :
    Calls Try.prog 51 #[.slice a us.length ca, .slice b vs.length cb, .func (.func 52) #[] #[]] w fun e w' => e = .returned (.bool D) ∧ Below w.heap.size w w' := by
  have HA := hide ha
  have HB := hide hb
  have HF := hide hf
  have HG := hide hg
  have HD := hide hD
  have hl := hf.1
  have hl2 := hg.1
  clear ha hb hf hg hD
  by_cases hlen : us.length = vs.length
  · have hbe : ((us.length : Int) != (vs.length : Int)) = false := by simp [hlen]
    have HLEN := hide hlen
    clear hlen
    go_enter Try.func51, Try.ntmps51
    go_wp2_with fail
    go_loopw [17] (fun i wr => ∃ k : Nat, k ≤ us.length ∧ i = .int .i64 k ∧ us.take k = vs.take k ∧ Below w.heap.size w wr) (fun i _ => us.length - (intOf i).toNat)
    case atStart => exact ⟨0, Nat.zero_le _, rfl, rfl, Below.refl _ _⟩
    case round =>
      obtain ⟨k, hk, rfl, heq, hb⟩ := hrel
      have HEQ := hide heq
      have HBr := hide hb
      have S := (unhide HA).after hb
      have T := (unhide HB).after hb
      clear heq hb
      by_cases hlt : k < us.length
      · have hlt2 : k < vs.length := by have := unhide HLEN; omega
        obtain ⟨x, hx⟩ : ∃ d, us[k]? = some d := ⟨_, List.getElem?_eq_getElem hlt⟩
        obtain ⟨y, hy⟩ : ∃ d, vs[k]? = some d := ⟨_, List.getElem?_eq_getElem hlt2⟩
        obtain ⟨g, o, rfl, hg, hcell⟩ := S (by omega)
        obtain ⟨g', o', rfl, hg', hcell'⟩ := T (by omega)
        obtain ⟨q, d, x0, x1, x2, x3, x4, h5, h6⟩ := hcell k x hx
        obtain ⟨q', d', h0', h1', h2', h3', h4', h5', h6'⟩ := hcell' k y hy
        have H6 := hide h6
        have H6' := hide h6'
        have K := hide fun E hE W h h' => same1_any x y q q' d d' ((unhide HF).at hx) W h h' E hE
        unfold verL at K
        have HX := hide hx
        have HY := hide hy
        have Y0 := hide h0'
        have Y1 := hide h1'
        have Y2 := hide h2'
        have Y3 := hide h3'
        have Y4 := hide h4'
        have HG' := hide hg'
        clear hcell hcell' hx hy h5 h6 h0' h1' h2' h3' h4' h5' h6' hg hg'
        go_wp2_with (first
          | (refine store_row (by rfl) 65 _ _ (by rfl) wr.heap.size (verL x q d) (by rfl) (by rfl) 65 zero65 (VRow.newAt rfl) 5 size65 rfl rfl (verL_one _ _ _) ?_; intro wz ho hr; have HZ := hide ((below_alloc' (w := wr) (.cells zero65.toArray 65)).trans (ho.below (Nat.le_refl _))); have RZ := hide hr; clear ho hr x0 x1 x2 x3 x4; have y0 := ((unhide HZ).cell (p := ⟨g', o' + k * 5, none⟩) (unhide HG')).trans (unhide Y0); have y1 := ((unhide HZ).cell (p := ⟨g', o' + k * 5 + 1, none⟩) (unhide HG')).trans (unhide Y1); have y2 := ((unhide HZ).cell (p := ⟨g', o' + k * 5 + 2, none⟩) (unhide HG')).trans (unhide Y2); have y3 := ((unhide HZ).cell (p := ⟨g', o' + k * 5 + 3, none⟩) (unhide HG')).trans (unhide Y3); have y4 := ((unhide HZ).cell (p := ⟨g', o' + k * 5 + 4, none⟩) (unhide HG')).trans (unhide Y4))
          | (refine store_row (by rfl) 65 _ _ (by rfl) wz.heap.size (verL y q' d') (by rfl) (by rfl) 65 zero65 (VRow.newAt rfl) 5 size65 rfl rfl (verL_one _ _ _) ?_; intro wy ho hr; have HY2 := hide ((below_alloc' (w := wz) (.cells zero65.toArray 65)).trans (ho.below (Nat.le_refl _))); have RY := hide hr; clear ho hr y0 y1 y2 y3 y4; have RX := hide ((unhide RZ).after (unhide HY2)); have z0 := (unhide RX).cell 0 _ rfl; have z1 := (unhide RX).cell 1 _ rfl; have z2 := (unhide RX).cell 2 _ rfl; have z3 := (unhide RX).cell 3 _ rfl; have z4 := (unhide RX).cell 4 _ rfl; have t0 := (unhide RY).cell 0 _ rfl; have t1 := (unhide RY).cell 1 _ rfl; have t2 := (unhide RY).cell 2 _ rfl; have t3 := (unhide RY).cell 3 _ rfl; have t4 := (unhide RY).cell 4 _ rfl))
        have HBy := hide (below_grow (unhide HZ) (Nat.le_refl _) (unhide HY2))
        by_cases hxy : x = y
        · refine (unhide K true (by simp [hxy]) _ ((unhide H6).after (unhide HBy)) ((unhide H6').after (unhide HBy))).mono ?_
          rintro e w2 ⟨rfl, hb2⟩
          have HB2 := hide (below_grow (below_grow (unhide HBr) (Nat.le_refl _) (unhide HBy)) (Nat.le_refl _) hb2)
          have HEQ2 : Hid (us.take (k + 1) = vs.take (k + 1)) := hide (by rw [take_snocA (unhide HX), take_snocA (unhide HY), unhide HEQ, hxy])
          clear hb2 z0 z1 z2 z3 z4 t0 t1 t2 t3 t4 hxy K
          go_wp2_with fail
          go_roundw
          case rel => exact ⟨k + 1, by omega, by go_num, unhide HEQ2, unhide HB2⟩
          case measure => simp [intOf]; omega
        · refine (unhide K false (by simp [hxy]) _ ((unhide H6).after (unhide HBy)) ((unhide H6').after (unhide HBy))).mono ?_
          rintro e w2 ⟨rfl, hb2⟩
          have HB2 := hide (below_grow (below_grow (unhide HBr) (Nat.le_refl _) (unhide HBy)) (Nat.le_refl _) hb2)
          obtain rfl : D = false := by
            cases D with
            | false => rfl
            | true =>
              have e := (unhide HD).1 rfl
              have hx := unhide HX
              rw [e, unhide HY] at hx
              injection hx with hx
              exact absurd hx.symm hxy
          clear hb2 z0 z1 z2 z3 z4 t0 t1 t2 t3 t4 hxy K
          go_wp2_with fail
          go_ret
          exact ⟨rfl, unhide HB2⟩
      · obtain rfl : k = us.length := by omega
        obtain rfl : D = true := (unhide HD).2 (by have h := unhide HEQ; rw [List.take_length, unhide HLEN, List.take_length] at h; exact h)
        go_wp2_with fail
        go_ret
        exact ⟨rfl, unhide HBr⟩
  · have hbe : ((us.length : Int) != (vs.length : Int)) = true := by simp; omega
    obtain rfl : D = false := by
      cases D with
      | false => rfl
      | true => exact absurd (by rw [(unhide HD).1 rfl]) hlen
    go_enter Try.func51, Try.ntmps51
    go_wp2_with fail
    go_ret
    exact ⟨rfl, Below.refl _ _⟩

set_option maxRecDepth 100000 in
set_option maxHeartbeats 400000 in
theorem sameL_any (a b : Option Addr) (ca cb : Nat) (us vs : List Vc.V) (hf : Few us) (hg : Few vs) (w : World) (ha : SV w a us) (hb : SV w b vs) (D : Bool) (hD : D = true ↔ us = vs) :
    Calls Try.prog 27 #[.slice a us.length ca, .slice b vs.length cb] w fun e w' => e = .returned (.bool D) ∧ Below w.heap.size w w' := by
  have K := hide (equalF_any a b ca cb us vs hf hg w ha hb D hD)
  clear ha hb hD
  go_enter Try.func27, Try.ntmps27
  go_wp2_with fail
  refine (unhide K).mono ?_
  rintro e w1 ⟨rfl, hb⟩
  have HB := hide hb
  clear hb
  go_wp2_with fail
  go_ret
  exact ⟨rfl, unhide HB⟩
end Go.Proofs.Ythchcjjpplcfnaa

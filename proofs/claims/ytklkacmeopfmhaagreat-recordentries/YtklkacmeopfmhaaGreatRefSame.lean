/-
  Which of two versions wins, whether two are the same, and two lists of them: the document's.
-/
import Derived.Test.YtklkacmeopfmhaaGreatRefLeaf
import Derived.Test.YtklkacmeopfmhaaGreatOwnV
import Derived.Lib.Strings
import Derived.Test.YtklkacmeopfmhaaGreatGrow
namespace Go.Proofs.YtklkacmeopfmhaaGreat
open Go.RowKit

theorem data_inj (a b : ByteArray) (h : a.data.toList = b.data.toList) : a = b := ByteArray.ext (Array.toList_inj.1 h)
theorem toList_eq (a b : ByteArray) : (a.toList == b.toList) = decide (a = b) := by
  rw [Bool.eq_iff_iff, beq_iff_eq, decide_eq_true_eq, Lib.toList_data, Lib.toList_data]
  exact ⟨data_inj a b, fun h => by rw [h]⟩
theorem ver_eq {v u : Vc.V} : v = u ↔ v.dot = u.dot ∧ v.dead = u.dead ∧ v.data = u.data ∧ v.past = u.past := by
  constructor
  · rintro rfl; exact ⟨rfl, rfl, rfl, rfl⟩
  · rintro ⟨h1, h2, h3, h4⟩
    cases v
    cases u
    simp at *
    exact ⟨h1, h4, h2, h3⟩

set_option maxRecDepth 100000 in
set_option maxHeartbeats 1000000 in
theorem refSameV_any (v u : Vc.V) (r q : Option Addr) (c d : Nat) (hl : v.past.length ≤ 9223372036854775807) (w : World) (sv : Sl w r v.past) (su : Sl w q u.past) (D : Bool) (hD : D = true ↔ v = u) :
    Calls Tryz.prog 32 #[.agg (verL v r c).toArray, .agg (verL u q d).toArray] w fun e w' => e = .returned (.bool D) ∧ Below w.heap.size w w' := by
  rw [ver_eq] at hD
  obtain ⟨⟨p, n⟩, P, x, s⟩ := v
  obtain ⟨⟨p', n'⟩, P', x', s'⟩ := u
  unfold verL
  dsimp only at hD hl sv su ⊢
  by_cases hp : p = p'
  · subst hp
    by_cases hn : n = n'
    · subst hn
      by_cases hx : x = x'
      · subst hx
        have hxx : (x == x) = true := by simp
        by_cases hs : s = s'
        · subst hs
          have hDp : D = true ↔ P = P' := hD.trans ⟨fun h => h.2.2.2, fun h => ⟨rfl, rfl, rfl, h⟩⟩
          clear hD
          have HB := hide ((below_alloc' (w := w) (.cells #[.int .i64 p, .int .i64 n, .slice r P.length c, .bool x, .string s] 56)).alloc (by simp) (.cells #[.int .i64 p, .int .i64 n, .slice q P'.length d, .bool x, .string s] 56))
          have RS := hide ((VRow.new w 56 [.int .i64 p, .int .i64 n, .slice r P.length c, .bool x, .string s]).alloc (.cells #[.int .i64 p, .int .i64 n, .slice q P'.length d, .bool x, .string s] 56))
          have RT := hide (VRow.newAt (W := w.alloc (.cells #[.int .i64 p, .int .i64 n, .slice r P.length c, .bool x, .string s] 56)) (T := 56) (n := w.heap.size + 1) (vs := [.int .i64 p, .int .i64 n, .slice q P'.length d, .bool x, .string s]) (by simp))
          have a0 := (unhide RS).cell 0 _ rfl
          have b0 := (unhide RT).cell 0 _ rfl
          have a1 := (unhide RS).cell 1 _ rfl
          have b1 := (unhide RT).cell 1 _ rfl
          have a2 := (unhide RS).cell 2 _ rfl
          have b2 := (unhide RT).cell 2 _ rfl
          have a3 := (unhide RS).cell 3 _ rfl
          have b3 := (unhide RT).cell 3 _ rfl
          have a4 := (unhide RS).cell 4 _ rfl
          have b4 := (unhide RT).cell 4 _ rfl
          clear RS RT
          have S := hide (sv.after (unhide HB))
          have T := hide (su.after (unhide HB))
          have K := hide fun W h h' => refSame_any r q c d P P' hl W h h' D hDp
          clear sv su hDp
          go_enter Tryz.func32, Tryz.ntmps32
          go_wp2_with fail
          refine (unhide K _ (unhide S) (unhide T)).mono ?_
          rintro e w1 ⟨rfl, hb⟩
          have HB1 := hide (below_grow (unhide HB) (Nat.le_refl _) hb)
          clear hb
          go_wp2_with fail
          go_ret
          exact ⟨rfl, unhide HB1⟩
        · obtain rfl : D = false := by
            cases D with
            | false => rfl
            | true => exact absurd (hD.1 rfl).2.2.1 hs
          clear hD sv su
          have HB := hide ((below_alloc' (w := w) (.cells #[.int .i64 p, .int .i64 n, .slice r P.length c, .bool x, .string s] 56)).alloc (by simp) (.cells #[.int .i64 p, .int .i64 n, .slice q P'.length d, .bool x, .string s'] 56))
          have RS := hide ((VRow.new w 56 [.int .i64 p, .int .i64 n, .slice r P.length c, .bool x, .string s]).alloc (.cells #[.int .i64 p, .int .i64 n, .slice q P'.length d, .bool x, .string s'] 56))
          have RT := hide (VRow.newAt (W := w.alloc (.cells #[.int .i64 p, .int .i64 n, .slice r P.length c, .bool x, .string s] 56)) (T := 56) (n := w.heap.size + 1) (vs := [.int .i64 p, .int .i64 n, .slice q P'.length d, .bool x, .string s']) (by simp))
          have a0 := (unhide RS).cell 0 _ rfl
          have b0 := (unhide RT).cell 0 _ rfl
          have a1 := (unhide RS).cell 1 _ rfl
          have b1 := (unhide RT).cell 1 _ rfl
          have a2 := (unhide RS).cell 2 _ rfl
          have b2 := (unhide RT).cell 2 _ rfl
          have a3 := (unhide RS).cell 3 _ rfl
          have b3 := (unhide RT).cell 3 _ rfl
          have a4 := (unhide RS).cell 4 _ rfl
          have b4 := (unhide RT).cell 4 _ rfl
          clear RS RT
          have hss : (s.toList == s'.toList) = false := (toList_eq s s').trans (decide_eq_false hs)
          go_enter Tryz.func32, Tryz.ntmps32
          go_wp2_with fail
          go_ret
          exact ⟨rfl, unhide HB⟩
      · obtain rfl : D = false := by
          cases D with
          | false => rfl
          | true => exact absurd (hD.1 rfl).2.1 hx
        clear hD sv su
        have HB := hide ((below_alloc' (w := w) (.cells #[.int .i64 p, .int .i64 n, .slice r P.length c, .bool x, .string s] 56)).alloc (by simp) (.cells #[.int .i64 p, .int .i64 n, .slice q P'.length d, .bool x', .string s'] 56))
        have RS := hide ((VRow.new w 56 [.int .i64 p, .int .i64 n, .slice r P.length c, .bool x, .string s]).alloc (.cells #[.int .i64 p, .int .i64 n, .slice q P'.length d, .bool x', .string s'] 56))
        have RT := hide (VRow.newAt (W := w.alloc (.cells #[.int .i64 p, .int .i64 n, .slice r P.length c, .bool x, .string s] 56)) (T := 56) (n := w.heap.size + 1) (vs := [.int .i64 p, .int .i64 n, .slice q P'.length d, .bool x', .string s']) (by simp))
        have a0 := (unhide RS).cell 0 _ rfl
        have b0 := (unhide RT).cell 0 _ rfl
        have a1 := (unhide RS).cell 1 _ rfl
        have b1 := (unhide RT).cell 1 _ rfl
        have a2 := (unhide RS).cell 2 _ rfl
        have b2 := (unhide RT).cell 2 _ rfl
        have a3 := (unhide RS).cell 3 _ rfl
        have b3 := (unhide RT).cell 3 _ rfl
        have a4 := (unhide RS).cell 4 _ rfl
        have b4 := (unhide RT).cell 4 _ rfl
        clear RS RT
        have hxx : (x == x') = false := by simpa using hx
        go_enter Tryz.func32, Tryz.ntmps32
        go_wp2_with fail
        go_ret
        exact ⟨rfl, unhide HB⟩
    · obtain rfl : D = false := by
        cases D with
        | false => rfl
        | true => exact absurd (hD.1 rfl).1 (fun e => hn (by injection e))
      clear hD sv su
      have HB := hide ((below_alloc' (w := w) (.cells #[.int .i64 p, .int .i64 n, .slice r P.length c, .bool x, .string s] 56)).alloc (by simp) (.cells #[.int .i64 p, .int .i64 n', .slice q P'.length d, .bool x', .string s'] 56))
      have RS := hide ((VRow.new w 56 [.int .i64 p, .int .i64 n, .slice r P.length c, .bool x, .string s]).alloc (.cells #[.int .i64 p, .int .i64 n', .slice q P'.length d, .bool x', .string s'] 56))
      have RT := hide (VRow.newAt (W := w.alloc (.cells #[.int .i64 p, .int .i64 n, .slice r P.length c, .bool x, .string s] 56)) (T := 56) (n := w.heap.size + 1) (vs := [.int .i64 p, .int .i64 n', .slice q P'.length d, .bool x', .string s']) (by simp))
      have a0 := (unhide RS).cell 0 _ rfl
      have b0 := (unhide RT).cell 0 _ rfl
      have a1 := (unhide RS).cell 1 _ rfl
      have b1 := (unhide RT).cell 1 _ rfl
      have a2 := (unhide RS).cell 2 _ rfl
      have b2 := (unhide RT).cell 2 _ rfl
      have a3 := (unhide RS).cell 3 _ rfl
      have b3 := (unhide RT).cell 3 _ rfl
      have a4 := (unhide RS).cell 4 _ rfl
      have b4 := (unhide RT).cell 4 _ rfl
      clear RS RT
      go_enter Tryz.func32, Tryz.ntmps32
      go_wp2_with fail
      go_ret
      exact ⟨rfl, unhide HB⟩
  · obtain rfl : D = false := by
      cases D with
      | false => rfl
      | true => exact absurd (hD.1 rfl).1 (fun e => hp (by injection e))
    clear hD sv su
    have HB := hide ((below_alloc' (w := w) (.cells #[.int .i64 p, .int .i64 n, .slice r P.length c, .bool x, .string s] 56)).alloc (by simp) (.cells #[.int .i64 p', .int .i64 n', .slice q P'.length d, .bool x', .string s'] 56))
    have RS := hide ((VRow.new w 56 [.int .i64 p, .int .i64 n, .slice r P.length c, .bool x, .string s]).alloc (.cells #[.int .i64 p', .int .i64 n', .slice q P'.length d, .bool x', .string s'] 56))
    have RT := hide (VRow.newAt (W := w.alloc (.cells #[.int .i64 p, .int .i64 n, .slice r P.length c, .bool x, .string s] 56)) (T := 56) (n := w.heap.size + 1) (vs := [.int .i64 p', .int .i64 n', .slice q P'.length d, .bool x', .string s']) (by simp))
    have a0 := (unhide RS).cell 0 _ rfl
    have b0 := (unhide RT).cell 0 _ rfl
    have a1 := (unhide RS).cell 1 _ rfl
    have b1 := (unhide RT).cell 1 _ rfl
    have a2 := (unhide RS).cell 2 _ rfl
    have b2 := (unhide RT).cell 2 _ rfl
    have a3 := (unhide RS).cell 3 _ rfl
    have b3 := (unhide RT).cell 3 _ rfl
    have a4 := (unhide RS).cell 4 _ rfl
    have b4 := (unhide RT).cell 4 _ rfl
    clear RS RT
    go_enter Tryz.func32, Tryz.ntmps32
    go_wp2_with fail
    go_ret
    exact ⟨rfl, unhide HB⟩

set_option maxRecDepth 100000 in
set_option maxHeartbeats 1000000 in
theorem refSameVs_any (a b : Option Addr) (ca cb : Nat) (us vs : List Vc.V) (hf : Few us) (hg : Few vs) (w : World) (ha : SV w a us) (hb : SV w b vs) (D : Bool) (hD : D = true ↔ us = vs) :
    Calls Tryz.prog 13 #[.slice a us.length ca, .slice b vs.length cb] w fun e w' => e = .returned (.bool D) ∧ Below w.heap.size w w' := by
  have HA := hide ha
  have HB := hide hb
  have HF := hide hf
  have HG := hide hg
  have HD := hide hD
  have hl := hf.1
  have hl2 := hg.1
  clear ha hb hf hg hD
  by_cases hlen : us.length = vs.length
  · have hbe : ((us.length : Int) != (vs.length : Int)) = false := by simp [hlen]
    have HLEN := hide hlen
    clear hlen
    go_enter Tryz.func13, Tryz.ntmps13
    go_wp2_with fail
    go_loopw [5] (fun i wr => ∃ k : Nat, k ≤ us.length ∧ i = .int .i64 k ∧ us.take k = vs.take k ∧ Below w.heap.size w wr) (fun i _ => us.length - (intOf i).toNat)
    case atStart => exact ⟨0, Nat.zero_le _, rfl, rfl, Below.refl _ _⟩
    case round =>
      obtain ⟨k, hk, rfl, heq, hb⟩ := hrel
      have HEQ := hide heq
      have HBr := hide hb
      have S := (unhide HA).after hb
      have T := (unhide HB).after hb
      clear heq hb
      by_cases hlt : k < us.length
      · have hlt2 : k < vs.length := by have := unhide HLEN; omega
        obtain ⟨x, hx⟩ : ∃ d, us[k]? = some d := ⟨_, List.getElem?_eq_getElem hlt⟩
        obtain ⟨y, hy⟩ : ∃ d, vs[k]? = some d := ⟨_, List.getElem?_eq_getElem hlt2⟩
        obtain ⟨g, o, rfl, hg, hcell⟩ := S (by omega)
        obtain ⟨g', o', rfl, hg', hcell'⟩ := T (by omega)
        obtain ⟨q, d, h0, h1, h2, h3, h4, h5, h6⟩ := hcell k x hx
        obtain ⟨q', d', h0', h1', h2', h3', h4', h5', h6'⟩ := hcell' k y hy
        have x0 := cell_regrown h0
        have x1 := cell_regrown h1
        have x2 := cell_regrown h2
        have x3 := cell_regrown h3
        have x4 := cell_regrown h4
        have y0 := cell_regrown h0'
        have y1 := cell_regrown h1'
        have y2 := cell_regrown h2'
        have y3 := cell_regrown h3'
        have y4 := cell_regrown h4'
        have H6 := hide h6
        have H6' := hide h6'
        by_cases hxy : x = y
        · have K := hide fun W h h' => refSameV_any x y q q' d d' ((unhide HF).at hx) W h h' true (by simp [hxy])
          unfold verL at K
          have HEQ2 : Hid (us.take (k + 1) = vs.take (k + 1)) := hide (by rw [take_snocA hx, take_snocA hy, unhide HEQ, hxy])
          clear hcell hcell' hx hy h0 h1 h2 h3 h4 h5 h6 h0' h1' h2' h3' h4' h5' h6' hxy
          go_wp2_with fail
          refine wp_region_quiet_below (by kernel_rfl) (by kernel_rfl) ?_
          repeat (quiet_step (first | (go_at_call 32; exact Calls.regrown_of (unhide K _ ((unhide H6).after (below_regrown _ _ _)) ((unhide H6').after (below_regrown _ _ _))))))
          refine wpQuiet_nil ?_
          intro _ hw'
          obtain ⟨⟨dq, osq⟩, hw''⟩ := hw'
          subst hw''
          go_wp2_with fail
          go_roundw
          case rel => exact ⟨k + 1, by omega, by go_num, unhide HEQ2, below_grow (unhide HBr) (Nat.le_refl _) (below_regrown _ _ _)⟩
          case measure => simp [intOf]; omega
        · have K := hide fun W h h' => refSameV_any x y q q' d d' ((unhide HF).at hx) W h h' false (by simp [hxy])
          unfold verL at K
          obtain rfl : D = false := by
            cases D with
            | false => rfl
            | true =>
              have e := (unhide HD).1 rfl
              rw [e, hy] at hx
              injection hx with hx
              exact absurd hx.symm hxy
          clear hcell hcell' hx hy h0 h1 h2 h3 h4 h5 h6 h0' h1' h2' h3' h4' h5' h6' hxy
          go_wp2_with fail
          refine wp_region_quiet_below (by kernel_rfl) (by kernel_rfl) ?_
          repeat (quiet_step (first | (go_at_call 32; exact Calls.regrown_of (unhide K _ ((unhide H6).after (below_regrown _ _ _)) ((unhide H6').after (below_regrown _ _ _))))))
          refine wpQuiet_nil ?_
          intro _ hw'
          obtain ⟨⟨dq, osq⟩, hw''⟩ := hw'
          subst hw''
          go_wp2_with fail
          go_ret
          exact ⟨rfl, below_grow (unhide HBr) (Nat.le_refl _) (below_regrown _ _ _)⟩
      · obtain rfl : k = us.length := by omega
        obtain rfl : D = true := (unhide HD).2 (by have h := unhide HEQ; rw [List.take_length, unhide HLEN, List.take_length] at h; exact h)
        go_wp2_with fail
        go_ret
        exact ⟨rfl, unhide HBr⟩
  · have hbe : ((us.length : Int) != (vs.length : Int)) = true := by simp; omega
    obtain rfl : D = false := by
      cases D with
      | false => rfl
      | true => exact absurd (by rw [(unhide HD).1 rfl]) hlen
    go_enter Tryz.func13, Tryz.ntmps13
    go_wp2_with fail
    go_ret
    exact ⟨rfl, Below.refl _ _⟩
end Go.Proofs.YtklkacmeopfmhaaGreat

namespace Go.Proofs.YtklkacmeopfmhaaGreat
open Go.RowKit

def zeroV : Vc.V := ⟨(0, 0), [], false, ⟨#[]⟩⟩
def zero56 : List Value := [.int .i64 0, .int .i64 0, .slice none 0 0, .bool false, .string ⟨#[]⟩]
theorem size56 : (Tryz.prog.info? 56).map (·.size) = some 5 := by kernel_rfl
theorem Sl.onlyNe {w w' : World} {D : Nat} {r : Option Addr} {ds : List Vc.D} (h : Sl w r ds) (ho : Only D w w') (hne : ∀ ad, r = some ad → 0 < ds.length → ad.block ≠ D) : Sl w' r ds := fun h0 => by
  obtain ⟨g, o, e, hg, hc⟩ := h h0
  have hn : g ≠ D := hne _ e h0
  have e1 : ∀ k, w'.cell? ⟨g, k, Option.none⟩ = w.cell? ⟨g, k, Option.none⟩ := fun k => World.cell?_of_block (w := w) (ho.block g hn)
  refine ⟨g, o, e, by rw [ho.size]; exact hg, fun j d hj => ?_⟩
  rw [e1, e1]
  exact hc j d hj
theorem verL_one (v : Vc.V) (r : Option Addr) (c : Nat) : ∀ x ∈ verL v r c, x.oneCell' = true := by simp [verL, Value.oneCell']

end Go.Proofs.YtklkacmeopfmhaaGreat

namespace Go.Proofs.YtklkacmeopfmhaaGreat
open Go.RowKit

def MadeV (O : Nat → Prop) (w : World) (vs : List Vc.V) (e : Ending) (w' : World) : Prop := ∃ r cap, e = .returned (.slice r vs.length cap) ∧ vs.length ≤ cap ∧ SV w' r vs ∧ Prov O w' r vs ∧ Below w.heap.size w w'
def MadeVE (O : Nat → Prop) (w : World) (x : List Vc.V × Int) (e : Ending) (w' : World) : Prop := ∃ r cap, e = .returned (.tuple #[.slice r x.1.length cap, .int .i64 x.2]) ∧ x.1.length ≤ cap ∧ SV w' r x.1 ∧ Prov O w' r x.1 ∧ Below w.heap.size w w'
def All : Nat → Prop := fun _ => True
theorem prov_all (W : World) (a : Option Addr) (vs : List Vc.V) : Prov All W a vs := Prov.any W a vs
theorem one_sv {W : World} {D T : Nat} {v : Vc.V} {r : Option Addr} {c : Nat} (h : VRow W D T (verL v r c)) (hc : v.past.length ≤ c) (hs : Sl W r v.past) : SV W (some ⟨D, 0, none⟩) [v] := fun _ => by
  refine ⟨D, 0, rfl, h.lt, fun j u hj => ?_⟩
  have hj0 : j = 0 := by have := (List.getElem?_eq_some_iff.1 hj).1; simp at this; omega
  subst hj0
  simp at hj
  subst hj
  exact ⟨r, c, h.cell 0 _ rfl, h.cell 1 _ rfl, h.cell 2 _ rfl, h.cell 3 _ rfl, h.cell 4 _ rfl, hc, hs⟩

end Go.Proofs.YtklkacmeopfmhaaGreat

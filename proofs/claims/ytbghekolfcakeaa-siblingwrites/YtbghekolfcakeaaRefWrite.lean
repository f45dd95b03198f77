/-
  What Cover, Live, Write and Erase answer: the document's.
-/
import Derived.Test.YtbghekolfcakeaaRefLeaf
import Derived.Test.YtbghekolfcakeaaOwnV
namespace Go.Proofs.Ytbghekolfcakeaa
open Go.RowKit

def MadeV (O : Nat → Prop) (w : World) (vs : List Vc.V) (e : Ending) (w' : World) : Prop := ∃ r cap, e = .returned (.slice r vs.length cap) ∧ vs.length ≤ cap ∧ SV w' r vs ∧ Prov O w' r vs ∧ Below w.heap.size w w'
def MadeVE (O : Nat → Prop) (w : World) (x : List Vc.V × Int) (e : Ending) (w' : World) : Prop := ∃ r cap, e = .returned (.tuple #[.slice r x.1.length cap, .int .i64 x.2]) ∧ x.1.length ≤ cap ∧ SV w' r x.1 ∧ Prov O w' r x.1 ∧ Below w.heap.size w w'
def All : Nat → Prop := fun _ => True
theorem prov_all (W : World) (a : Option Addr) (vs : List Vc.V) : Prov All W a vs := Prov.any W a vs
theorem one_sv {W : World} {D T : Nat} {v : Vc.V} {r : Option Addr} {c : Nat} (h : VRow W D T (verL v r c)) (hc : v.past.length ≤ c) (hs : Sl W r v.past) : SV W (some ⟨D, 0, none⟩) [v] := fun _ => by
  refine ⟨D, 0, rfl, h.lt, fun j u hj => ?_⟩
  have hj0 : j = 0 := by have := (List.getElem?_eq_some_iff.1 hj).1; simp at this; omega
  subst hj0
  simp at hj
  subst hj
  exact ⟨r, c, h.cell 0 _ rfl, h.cell 1 _ rfl, h.cell 2 _ rfl, h.cell 3 _ rfl, h.cell 4 _ rfl, hc, hs⟩

set_option maxRecDepth 100000 in
set_option maxHeartbeats 1000000 in
theorem refCover_any (a : Option Addr) (cap : Nat) (vs : List Vc.V) (hf : Few vs) (w : World) (h : SV w a vs) :
    Calls Try.prog 19 #[.slice a vs.length cap] w (Made w (Vc.coverL vs)) := by
  have HS := hide h
  have HF := hide hf
  have hl := hf.1
  have KC := hide fun W h => refCheckLeaf_any a cap vs hf W h
  clear h hf
  by_cases hz : Vc.checkLeaf vs = 0
  · rw [show Vc.coverL vs = Vc.coverF vs by unfold Vc.coverL; rw [if_pos hz]]
    rw [hz] at KC
    clear hz
    go_enter Try.func19, Try.ntmps19
    go_wp2_with fail
    refine (unhide KC _ (unhide HS)).mono ?_
    rintro e w1 ⟨rfl, hb⟩
    have HB := hide hb
    clear hb
    go_wp2_with fail
    go_loopw [3, 4] (fun l i wr => ∃ (k : Nat) (r : Option Addr) (c : Nat) (cur : List Vc.D), k ≤ vs.length ∧ i = .int .i64 k ∧ l = .slice r cur.length c ∧ cur.length ≤ c ∧ cur.length ≤ 64 ∧ cur = Vc.coverF (vs.take k) ∧ Sl wr r cur ∧ Below w.heap.size w wr) (fun _ i _ => vs.length - (intOf i).toNat)
    case atStart => exact ⟨0, none, 0, [], Nat.zero_le _, rfl, rfl, Nat.le_refl _, by simp, rfl, Sl.none _ _, unhide HB⟩
    case round =>
      obtain ⟨k, r, c, cur, hk, rfl, rfl, hcc, hc64, hcur, hsl, hb⟩ := hrel
      have HCUR := hide hcur
      have HSL := hide hsl
      have HBr := hide hb
      have S := hide ((unhide HS).after hb)
      clear hcur hsl hb HB
      by_cases hlt : k < vs.length
      · obtain ⟨v, hx⟩ : ∃ d, vs[k]? = some d := ⟨_, List.getElem?_eq_getElem hlt⟩
        obtain ⟨g, o, rfl, hg, hcell⟩ := unhide S (by omega)
        obtain ⟨q, d, x0, x1, x2, x3, x4, h5, h6⟩ := hcell k v hx
        have HG := hide hg
        have K1 := hide fun W h h' => refJoin_any r q c d cur v.past (by omega) ((unhide HF).at hx) W h h'
        have K2 := hide fun r' c' W h => refWith_any r' c' (Vc.joins cur v.past) (by have := Vc.joins_len cur v.past; omega) v.dot.1 v.dot.2 W h
        have HNX : Hid (Vc.joins (Vc.joins cur v.past) [(v.dot.1, v.dot.2)] = Vc.coverF (vs.take (k + 1))) := hide (by rw [take_snocA hx, Vc.coverF_snoc, ← unhide HCUR]; rfl)
        have h64 := Vc.joins_len (Vc.joins cur v.past) [(v.dot.1, v.dot.2)]
        have hj64 := Vc.joins_len cur v.past
        have H6 := hide h6
        generalize Vc.joins (Vc.joins cur v.past) [(v.dot.1, v.dot.2)] = nxt at K2 HNX h64
        generalize Vc.joins cur v.past = mid at K1 K2 hj64
        clear hx hg hcell h5 h6 x3 x4
        go_wp2_with fail
        refine (unhide K1 _ (unhide HSL) (unhide H6)).mono ?_
        rintro e w2 ⟨r2, c2, rfl, _, hs2, hb2⟩
        have HB2 := hide (below_grow (unhide HBr) (Nat.le_refl _) hb2)
        have y0 := (hb2.cell (p := ⟨g, o + k * 5, none⟩) (unhide HG)).trans x0
        have y1 := (hb2.cell (p := ⟨g, o + k * 5 + 1, none⟩) (unhide HG)).trans x1
        have HS2 := hide hs2
        clear hb2 hs2 x0 x1 x2
        go_wp2_with fail
        refine (unhide K2 r2 c2 _ (unhide HS2)).mono ?_
        rintro e w3 ⟨r3, c3, rfl, hc3, hs3, hb3⟩
        have HB3 := hide (below_grow (unhide HB2) (Nat.le_refl _) hb3)
        have HS3 := hide hs3
        clear hb3 hs3 y0 y1
        go_wp2_with fail
        go_roundw
        case rel => exact ⟨k + 1, r3, c3, nxt, by omega, by go_num, rfl, hc3, h64, unhide HNX, unhide HS3, unhide HB3⟩
        case measure => simp [intOf]; omega
      · obtain rfl : k = vs.length := by omega
        have hcur := unhide HCUR
        rw [List.take_length] at hcur
        subst hcur
        clear HCUR
        go_wp2_with fail
        go_ret
        exact ⟨r, c, rfl, hcc, unhide HSL, unhide HBr⟩
  · rw [show Vc.coverL vs = [] by unfold Vc.coverL; rw [if_neg hz]]
    have hzb : (Vc.checkLeaf vs != 0) = true := bne_iff_ne.2 hz
    generalize Vc.checkLeaf vs = X at KC hzb hz
    clear hz
    go_enter Try.func19, Try.ntmps19
    go_wp2_with fail
    refine (unhide KC _ (unhide HS)).mono ?_
    rintro e w1 ⟨rfl, hb⟩
    have HB := hide hb
    clear hb
    go_wp2_with fail
    go_ret
    exact ⟨none, 0, rfl, Nat.le_refl _, Sl.none _ _, unhide HB⟩

set_option maxRecDepth 100000 in
set_option maxHeartbeats 1000000 in
theorem refOver_any (a : Option Addr) (cap : Nat) (vs : List Vc.V) (hf : Few vs) (p n : Int) (dead : Bool) (data : ByteArray) (w : World) (h : SV w a vs) :
    Calls Try.prog 51 #[.slice a vs.length cap, .agg #[.int .i64 p, .int .i64 n], .bool dead, .string data] w (MadeVE All w (Vc.overF vs (p, n) dead data)) := by
  have HB := hide (below_alloc' (w := w) (.cells #[.int .i64 p, .int .i64 n] 24))
  have RD := hide (VRow.new w 24 [.int .i64 p, .int .i64 n])
  have S := hide (h.after (unhide HB))
  have KC := hide fun W h => refCover_any a cap vs hf W h
  have h64 := Vc.coverL_len vs
  have KH := hide fun r c W h => refHas_any r c (Vc.coverL vs) (by omega) p n W h
  rw [show has (Vc.coverL vs) (p, n) = Vc.hasV (Vc.coverL vs) (p, n) from rfl] at KH
  obtain ⟨R, hR⟩ : ∃ R, Vc.overF vs (p, n) dead data = R := ⟨_, rfl⟩
  rw [hR]
  unfold Vc.overF at hR
  have hl := hf.1
  generalize Vc.coverL vs = C at KC KH hR h64
  generalize Vc.hasV C (p, n) = X at KH hR
  clear h hf
  go_enter Try.func51, Try.ntmps51
  go_wp2_with fail
  generalize w.alloc (.cells #[.int .i64 p, .int .i64 n] 24) = w0 at HB RD S ⊢
  refine (unhide KC _ (unhide S)).mono ?_
  rintro e w1 ⟨r1, c1, rfl, hc1, hs1, hb⟩
  replace HB := hide (below_grow (unhide HB) (Nat.le_refl _) hb)
  replace RD := hide ((unhide RD).after hb)
  have S1 := hide hs1
  clear hb hs1 S
  have d0 := (unhide RD).cell 0 _ rfl
  have d1 := (unhide RD).cell 1 _ rfl
  go_wp2_with fail
  refine (unhide KH r1 c1 _ (unhide S1)).mono ?_
  rintro e w2 ⟨rfl, hb⟩
  replace HB := hide (below_grow (unhide HB) (Nat.le_refl _) hb)
  replace RD := hide ((unhide RD).after hb)
  replace S1 := hide ((unhide S1).after hb)
  clear hb d0 d1
  have d0 := (unhide RD).cell 0 _ rfl
  have d1 := (unhide RD).cell 1 _ rfl
  cases X with
  | true =>
    rw [if_pos rfl] at hR
    subst hR
    go_wp2_with fail
    go_ret2
    exact ⟨none, 0, rfl, Nat.le_refl _, SV.none _ _, prov_all _ _ _, unhide HB⟩
  | false =>
    rw [if_neg (by simp)] at hR
    subst hR
    go_wp2_with fail
    go_ret2
    have hr := VRow.new w2 27 (verL ⟨(p, n), C, dead, data⟩ r1 c1)
    exact ⟨some ⟨w2.heap.size, 0, none⟩, 1, rfl, Nat.le_refl _, one_sv hr hc1 ((unhide S1).after (below_alloc' _)), prov_all _ _ _, (unhide HB).alloc (unhide HB).size _⟩

set_option maxRecDepth 100000 in
set_option maxHeartbeats 1000000 in
theorem refLive_any (O : Nat → Prop) (a : Option Addr) (cap : Nat) (vs : List Vc.V) (hf : Few vs) (w : World) (hO : ∀ g, w.heap.size ≤ g → O g) (h : SV w a vs) (hp : Prov O w a vs) :
    Calls Try.prog 29 #[.slice a vs.length cap] w (MadeV O w (Vc.live vs)) := by
  have HP := hide hp
  have HOO := hide hO
  clear hp hO
  have HS := hide h
  have hl := hf.1
  obtain ⟨F, hF⟩ : ∃ F : Vc.V → Bool, (fun v => !v.dead) = F := ⟨_, rfl⟩
  have HF : Hid (∀ v, F v = !v.dead) := hide (fun v => by rw [← hF])
  rw [show Vc.live vs = vs.filter F by rw [← hF]; rfl]
  clear h hf hF
  go_enter Try.func29, Try.ntmps29
  go_wp2_with fail
  go_loopw [3, 4] (fun l i wr => ∃ (k : Nat), k ≤ vs.length ∧ i = .int .i64 k ∧ OV O wr w.heap.size l ((vs.take k).filter F) ∧ Below w.heap.size w wr) (fun _ i _ => vs.length - (intOf i).toNat)
  case atStart => exact ⟨0, Nat.zero_le _, rfl, OV.nil _ _ _, Below.refl _ _⟩
  case round =>
    obtain ⟨k, hk, rfl, hov, hb⟩ := hrel
    have HO := hide hov
    have HB := hide hb
    have S := (unhide HS).after hb
    have hsz := hb.size
    have hfl : ((vs.take k).filter F).length ≤ 100000 := Nat.le_trans (List.length_filter_le _ _) (by rw [List.length_take]; omega)
    by_cases hlt : k < vs.length
    · obtain ⟨v, hx⟩ : ∃ d, vs[k]? = some d := ⟨_, List.getElem?_eq_getElem hlt⟩
      obtain ⟨g0, o0, e0, hg0, hcell0⟩ := unhide HS (by omega)
      obtain ⟨g, o, rfl, hg, hcell⟩ := S (by omega)
      obtain ⟨q, d, x0, x1, x2, x3, x4, h5, h6⟩ := hcell k v hx
      have HAP : Hid (Apart O u3.ownBlock q v.past) := hide (by
        injection e0 with e0
        injection e0 with e1 e2
        subst e1
        subst e2
        obtain ⟨q', d', _, _, y2, _, _, _, y6⟩ := hcell0 k v hx
        rw [hb.cell (by exact hg0), y2] at x2
        injection x2 with x2
        injection x2 with x2 _ _
        subst x2
        exact y6.apart (fun g e => (hov.lt g e).1) ((unhide HP (by omega) _ _ rfl).2 k v _ d' hx y2))
      have HFL := hide (show (vs.take (k + 1)).filter F = ((vs.take k).filter F) ++ ([v].filter F) by rw [take_snocA hx, List.filter_append])
      generalize ((vs.take k).filter F) = L at HO HFL hfl
      have H6 := hide h6
      clear hx hcell hcell0 hg hg0 e0 h6 hov hb
      by_cases hdd : v.dead = true
      · rw [show [v].filter F = [] by simp [unhide HF, hdd], List.append_nil] at HFL
        rw [hdd] at x3
        go_wp2_with fail
        go_roundw
        case rel => exact ⟨k + 1, by omega, by go_num, by rw [unhide HFL]; exact unhide HO, unhide HB⟩
        case measure => simp [intOf]; omega
      · rw [Bool.not_eq_true] at hdd
        rw [show [v].filter F = [v] by simp [unhide HF, hdd]] at HFL
        have x3' := x3
        rw [hdd] at x3'
        clear x3
        have HV : Hid (VRow (wr.alloc (.cells (verL v q d).toArray 27)) wr.heap.size 27 (verL v q d)) := hide (VRow.new _ _ _)
        have HBA := hide (below_alloc' (w := wr) (.cells (verL v q d).toArray 27))
        rw [show verL v q d = [.int .i64 v.dot.1, .int .i64 v.dot.2, .slice q v.past.length d, .bool false, .string v.data] by unfold verL; rw [hdd]] at HV HBA
        go_wp2_with (at_builtin; refine append_sv (by rfl) _ _ (by rfl) w.heap.size _ L (by rfl) ((unhide HO).after (unhide HBA)) _ _ [v] (by rfl) (one_svn (by unfold verL; rw [hdd]; exact unhide HV) h5 ((unhide H6).after (unhide HBA)) (unhide HAP)) (by simp; omega) (by simp; omega) ?_; intro v9 w9 hown9 hb9 _ _; have HO9 := hide hown9; have HB9 := hide (((unhide HB).alloc hsz _).trans hb9); clear hown9 hb9)
        go_roundw
        case rel => exact ⟨k + 1, by omega, by go_num, by rw [unhide HFL]; exact unhide HO9, unhide HB9⟩
        case measure => simp [intOf]; omega
    · obtain rfl : k = vs.length := by omega
      rw [List.take_length] at HO
      clear hov
      obtain ⟨r, c, rfl, hc, hs, hpr⟩ := (unhide HO).sv
      have HPR := hide (hpr (unhide HOO))
      clear hpr
      go_wp2_with fail
      go_ret
      exact ⟨r, c, rfl, hc, hs, unhide HPR, unhide HB⟩
end Go.Proofs.Ytbghekolfcakeaa

/-
  Plain facts: a tree's entries, set one behind the other from any of them on, come to the same tree. Conditions: those that each theorem names.
-/
import Derived.Test.YtebjlmnhpfoglaaGreatDoorB08
import Derived.Test.YtebjlmnhpfoglaaGreatDoorB25
namespace Go.Proofs.YtebjlmnhpfoglaaGreatDoor
open Go.RowKit

def rotT (t : List En) (c : Nat) : Nat → List En
  | 0 => []
  | i + 1 => match t[(c + i) % t.length]? with
    | some x => putT x.1 x.2 (rotT t c i)
    | none => rotT t c i
theorem rot_step {t : List En} {c i : Nat} {x : En} (h : t[(c + i) % t.length]? = some x) : rotT t c (i + 1) = putT x.1 x.2 (rotT t c i) := by
  show (match t[(c + i) % t.length]? with | some x => putT x.1 x.2 (rotT t c i) | none => rotT t c i) = _
  rw [h]
theorem rot_mem {t : List En} (ht : Tr t) (c : Nat) : ∀ i, i ≤ t.length → Srt (rotT t c i) ∧ (∀ y, y ∈ rotT t c i ↔ ∃ j, j < i ∧ t[(c + j) % t.length]? = some y) ∧ (rotT t c i).length ≤ i
  | 0, _ => ⟨List.Pairwise.nil, fun y => ⟨fun h => (by cases h), fun ⟨j, hj, _⟩ => absurd hj (Nat.not_lt_zero _)⟩, Nat.le_refl _⟩
  | i + 1, hi => by
    obtain ⟨h1, h2, h3⟩ := rot_mem ht c i (by omega)
    obtain ⟨x, hx⟩ : ∃ x, t[(c + i) % t.length]? = some x := ⟨_, List.getElem?_eq_getElem (Nat.mod_lt _ (by omega))⟩
    have hxm := List.mem_of_getElem? hx
    rw [rot_step hx]
    refine ⟨srt_put _ _ h1, fun y => ?_, by have := len_put x.1 x.2 h1; omega⟩
    rw [mem_put h1]
    constructor
    · rintro (⟨rfl, _⟩ | ⟨hy, _⟩)
      · exact ⟨i, Nat.lt_succ_self _, hx⟩
      · obtain ⟨j, hj, h⟩ := (h2 y).1 hy
        exact ⟨j, by omega, h⟩
    · rintro ⟨j, hj, h⟩
      by_cases e : y.1 = x.1
      · have : y = x := ht.srt.one y (List.mem_of_getElem? h) x hxm e
        exact .inl ⟨this, (ht.leaf x hxm).1⟩
      · have hji : j ≠ i := fun e2 => by
          subst e2
          rw [hx] at h
          injection h with h
          exact e (by rw [h])
        exact .inr ⟨(h2 y).2 ⟨j, by omega, h⟩, e⟩
theorem rot_set {t : List En} (ht : Tr t) (c : Nat) {i : Nat} (hi : i < t.length) {x : En} (hx : t[(c + i) % t.length]? = some x) : setT (rotT t c i) x.1 x.2 = (rotT t c (i + 1), 0) := by
  obtain ⟨h1, _, h3⟩ := rot_mem ht c i (by omega)
  have hxm := List.mem_of_getElem? hx
  have hf := ht.few
  rw [rot_step hx]
  exact setT_fine (setE_fine (ht.path x hxm) (ht.leaf x hxm).2) (by have := len_put x.1 x.2 h1; omega)
theorem rot_all {t : List En} (ht : Tr t) (c : Nat) : rotT t c t.length = t := by
  obtain ⟨h1, h2, _⟩ := rot_mem ht c t.length (Nat.le_refl _)
  refine h1.ext ht.srt fun y => ?_
  rw [h2]
  constructor
  · rintro ⟨j, _, h⟩
    exact List.mem_of_getElem? h
  · intro hy
    obtain ⟨m, hm, rfl⟩ := List.getElem_of_mem hy
    have hn : 0 < t.length := by omega
    refine ⟨(m + (t.length - c % t.length)) % t.length, Nat.mod_lt _ hn, ?_⟩
    have e : (c + (m + (t.length - c % t.length)) % t.length) % t.length = m := by
      have h4 := Nat.div_add_mod c t.length
      have h5 := Nat.mod_lt c hn
      rw [Nat.add_mod_mod]
      have h6 : c + (m + (t.length - c % t.length)) = m + t.length * (c / t.length + 1) := by
        rw [Nat.mul_add, Nat.mul_one]
        omega
      rw [h6, Nat.add_mul_mod_self_left, Nat.mod_eq_of_lt hm]
    rw [e, List.getElem?_eq_getElem hm]
/-- A path that a tree hasn't, set and taken away again. -/
theorem set_take {t : List En} (ht : Tr t) {p : ByteArray} {l : List Vc.V} (hp : getT t p = []) (h : (setT t p l).2 = 0) : setT (setT t p l).1 p [] = (t, 0) := by
  obtain ⟨h1, h2, h3⟩ := setT_zero h
  have hn : ∀ x ∈ t, x.1 ≠ p := fun x hx e => by
    have := getT_mem ht.srt hx
    rw [e, hp] at this
    exact (ht.leaf x hx).1 (by rw [← this]; rfl)
  have h4 := put_take (l := l) ht.srt hn
  rw [h3]
  have hf := ht.few
  have := setT_fine (t := putT p l t) (p := p) (l := []) (setE_fine (setE_zero h1).1 ((Vc.checkLeaf_zero _).2 Vc.leaf_nil)) (by rw [h4]; exact hf)
  rw [h4] at this
  exact this
end Go.Proofs.YtebjlmnhpfoglaaGreatDoor

/-
  Plain facts: a tree of 128 paths, one more, one less. Conditions: those that each theorem names.
-/

namespace Go.Proofs.YtebjlmnhpfoglaaGreatDoor
open Go.RowKit

def mostL (i : Nat) : List UInt8 := [100, UInt8.ofNat (97 + i / 26), 47, UInt8.ofNat (97 + i % 26)]
def mostP (i : Nat) : ByteArray := str (mostL i)
def mostT (l : List Vc.V) : Nat → List En
  | 0 => []
  | i + 1 => putT (mostP i) l (mostT l i)
theorem most_path : ∀ i, i < 128 → Pth.Pt.isPath (mostL i) = true := by decide +kernel
theorem most_ne : ∀ i, i < 128 → ∀ j, j < i → mostL j ≠ mostL i := by decide +kernel
theorem most_ne' {i j : Nat} (hi : i < 128) (hj : j < i) : mostP j ≠ mostP i := fun e => most_ne i hi j hj (by
  have := congrArg (fun s : ByteArray => s.data.toList) e
  simpa [mostP, str_data] using this)
theorem most_mem {l : List Vc.V} (hl : l.length ≠ 0) : ∀ i, i ≤ 128 → Srt (mostT l i) ∧ (∀ y, y ∈ mostT l i ↔ ∃ j, j < i ∧ y = (mostP j, l)) ∧ (mostT l i).length = i
  | 0, _ => ⟨List.Pairwise.nil, fun y => ⟨fun h => (by cases h), fun ⟨j, hj, _⟩ => absurd hj (Nat.not_lt_zero _)⟩, rfl⟩
  | i + 1, hi => by
    obtain ⟨h1, h2, h3⟩ := most_mem hl i (by omega)
    have hn : ∀ x ∈ mostT l i, x.1 ≠ mostP i := fun x hx => by
      obtain ⟨j, hj, rfl⟩ := (h2 x).1 hx
      exact most_ne' (by omega) hj
    refine ⟨srt_put _ _ h1, fun y => ?_, by show (putT (mostP i) l (mostT l i)).length = i + 1; rw [len_put_new h1 hl hn, h3]⟩
    show y ∈ putT (mostP i) l (mostT l i) ↔ _
    rw [mem_put h1]
    constructor
    · rintro (⟨rfl, _⟩ | ⟨hy, _⟩)
      · exact ⟨i, Nat.lt_succ_self _, rfl⟩
      · obtain ⟨j, hj, h⟩ := (h2 y).1 hy
        exact ⟨j, by omega, h⟩
    · rintro ⟨j, hj, rfl⟩
      by_cases e : j = i
      · subst e
        exact .inl ⟨rfl, hl⟩
      · exact .inr ⟨(h2 _).2 ⟨j, by omega, rfl⟩, most_ne' (by omega) (by omega)⟩
theorem most_tr {l : List Vc.V} (hl : l.length ≠ 0) (hc : Vc.checkLeaf l = 0) {i : Nat} (hi : i ≤ 128) : Tr (mostT l i) := by
  obtain ⟨h1, h2, h3⟩ := most_mem hl i hi
  refine ⟨h1, fun x hx => ?_, fun x hx => ?_, by omega⟩
  · obtain ⟨j, hj, rfl⟩ := (h2 x).1 hx
    show Pth.Pt.isPath (mostP j).data.toList = true
    unfold mostP
    rw [str_data]
    exact most_path j (by omega)
  · obtain ⟨j, hj, rfl⟩ := (h2 x).1 hx
    exact ⟨hl, hc⟩
theorem most_set {l : List Vc.V} (hl : l.length ≠ 0) (hc : Vc.checkLeaf l = 0) {i : Nat} (hi : i < 128) : setT (mostT l i) (mostP i) l = (mostT l (i + 1), 0) := by
  obtain ⟨_, _, h3⟩ := most_mem hl (i + 1) (by omega)
  refine setT_fine (setE_fine ?_ hc) (by show (mostT l (i + 1)).length ≤ 128; omega)
  unfold mostP
  rw [str_data]
  exact most_path i hi
/-- One more. -/
theorem most_more {l : List Vc.V} (hl : l.length ≠ 0) {p : ByteArray} {r : List UInt8} (hp : p.data.toList = 120 :: r) : (setT (mostT l 128) p l).2 = if setE p l ≠ 0 then setE p l else 4 := by
  obtain ⟨h1, h2, h3⟩ := most_mem hl 128 (Nat.le_refl _)
  have hn : ∀ x ∈ mostT l 128, x.1 ≠ p := fun x hx e => by
    obtain ⟨j, _, rfl⟩ := (h2 x).1 hx
    have : (mostP j).data.toList = p.data.toList := by rw [← e]
    rw [hp, mostP, str_data] at this
    injection this with h
    exact absurd h (by decide)
  have h4 := len_put_new h1 hl hn
  unfold setT
  split
  · rfl
  · rw [if_pos (by omega)]
/-- One less. -/
theorem len_less {t : List En} (h : Srt t) {x : En} (hx : x ∈ t) (hl : x.2.length ≠ 0) : (putT x.1 [] t).length + 1 = t.length := by
  have h1 := srt_put x.1 [] h
  have hn : ∀ y ∈ putT x.1 [] t, y.1 ≠ x.1 := fun y hy => by
    rcases (mem_put h y).1 hy with ⟨_, h0⟩ | ⟨_, h0⟩
    · exact absurd rfl h0
    · exact h0
  have h2 := len_put_new (l := x.2) h1 hl hn
  have h3 : putT x.1 x.2 (putT x.1 [] t) = t := by
    refine (srt_put _ _ h1).ext h fun y => ?_
    rw [mem_put h1, mem_put h]
    constructor
    · rintro (⟨rfl, _⟩ | ⟨⟨_, h0⟩ | ⟨hy, _⟩, _⟩)
      · exact hx
      · exact absurd rfl h0
      · exact hy
    · intro hy
      by_cases e : y.1 = x.1
      · exact .inl ⟨h.one y hy x hx e, hl⟩
      · exact .inr ⟨.inr ⟨hy, e⟩, e⟩
  rw [h3] at h2
  exact h2.symm
end Go.Proofs.YtebjlmnhpfoglaaGreatDoor

/-
  The walk of the statement on a tree of 128 paths. Conditions: those that each theorem names.
-/

namespace Go.Proofs.YtebjlmnhpfoglaaGreatDoor
open Go.RowKit

def mostV : Vc.V := { dot := (0, 1), past := [], dead := false, data := ⟨#[]⟩ }
theorem most_leaf : Vc.checkLeaf [mostV] = 0 := by decide +kernel
theorem most_few : Few [mostV] := ⟨by decide, fun v hv => by rw [List.mem_singleton.1 hv]; decide⟩

theorem most_less {l : List Vc.V} (hl : l.length ≠ 0) {i : Nat} (h0 : 0 < i) (hi : i ≤ 128) : (putT (mostP 0) [] (mostT l i)).length + 1 = (mostT l i).length := by
  obtain ⟨h1, h2, _⟩ := most_mem hl i hi
  exact len_less (x := (mostP 0, l)) h1 ((h2 _).2 ⟨0, h0, rfl⟩) hl

structure StMo (w : World) (q r : Option Addr) (T : List En) (W : World) : Prop where
  b : Below w.heap.size w W
  e : Env W
  t : TrAt W q T
  s : SV W r [mostV]
theorem StMo.after {w W W' : World} {q r : Option Addr} {T : List En} (h : StMo w q r T W) (hb : Below W.heap.size W W') : StMo w q r T W' := ⟨below_grow h.b (Nat.le_refl _) hb, h.e.below hb, h.t.after hb, h.s.after hb⟩

set_option maxRecDepth 100000 in
set_option maxHeartbeats 1000000 in
theorem most_walk (p : ByteArray) (hp : p.size ≤ 9223372036854775807) (w : World) (hE : Env w) :
    Calls Tryz.prog 8 #[.string p] w fun e w' => e = .returned (.bool true) ∧ Below w.heap.size w w' := by
  have HE := hide hE
  have HP := hide hp
  obtain ⟨w1, hw1⟩ : ∃ w1, w.alloc (.cells #[.slice none 0 0] 27) = w1 := ⟨_, rfl⟩
  have HB1 : Hid (Below w.heap.size w w1) := hide (hw1 ▸ below_alloc' (w := w) (.cells #[.slice none 0 0] 27))
  have HT1 : Hid (TrAt w1 (some ⟨w.heap.size, 0, none⟩) []) := hide (hw1 ▸ (.inr ⟨w.heap.size, none, 0, rfl, (VRow.new w 27 [.slice none 0 0]).lt, (VRow.new w 27 [.slice none 0 0]).cell 0 _ rfl, Nat.le_refl _, EL.none _ _⟩))
  have HA := hide (below_alloc' (w := w1) (.cells (verL mostV none 0).toArray 64))
  have HV := hide (VRow.new w1 64 (verL mostV none 0))
  have HS := hide (show StMo w (some ⟨w.heap.size, 0, none⟩) (some ⟨w1.heap.size, 0, none⟩) [] (w1.alloc (.cells (verL mostV none 0).toArray 64)) from ⟨below_grow (unhide HB1) (Nat.le_refl _) (unhide HA), ((unhide HE).below (unhide HB1)).below (unhide HA), (unhide HT1).after (unhide HA), one_sv (unhide HV) (Nat.le_refl _) (Sl.none _ _)⟩)
  clear hE hp HA HV HT1
  unfold verL mostV at HS
  go_enter Tryz.func8, Tryz.ntmps8
  go_wp2_with fail
  go_loopw [3, 5] (fun t i wr => ∃ (k : Nat) (q : Option Addr), k ≤ 128 ∧ i = .int .i64 k ∧ t = .pointer q ∧ StMo w q (some ⟨w1.heap.size, 0, none⟩) (mostT [mostV] k) wr) (fun _ i _ => 128 - (intOf i).toNat)
  case atStart => exact ⟨0, _, Nat.zero_le _, rfl, rfl, unhide HS⟩
  case round =>
    obtain ⟨k, q, hk, rfl, rfl, hst⟩ := hrel
    have HP0 := hide hst
    clear hst HS
    by_cases hlt : k < 128
    · obtain ⟨x1, hx1⟩ : ∃ x, UInt8.ofNat (97 + k / 26) = x := ⟨_, rfl⟩
      obtain ⟨x2, hx2⟩ : ∃ x, UInt8.ofNat (97 + k % 26) = x := ⟨_, rfl⟩
      have y1 : (x1.toNat : Int) = 97 + (k : Int) / 26 := by rw [← hx1, Cnt.u8_lt (by omega)]; omega
      have y2 : (x2.toNat : Int) = 97 + (k : Int) % 26 := by rw [← hx2, Cnt.u8_lt (by omega)]; omega
      have HX : Hid (mostP k = str [100, x1, 47, x2]) := hide (by rw [← hx1, ← hx2]; rfl)
      have hc1 := run_string_one x1 _ y1 wr.heap.size (wr.alloc (.cells #[.int .u8 (97 + (k : Int) / 26)] 5)) ((VRow.new wr 5 [.int .u8 (97 + (k : Int) / 26)]).cell 0 _ rfl)
      have HB1 := hide (below_alloc' (w := wr) (.cells #[.int .u8 (97 + (k : Int) / 26)] 5))
      obtain ⟨wa, hwa⟩ : ∃ wa, wr.alloc (.cells #[.int .u8 (97 + (k : Int) / 26)] 5) = wa := ⟨_, rfl⟩
      have hsz : wa.heap.size = wr.heap.size + 1 := by rw [← hwa]; exact Array.size_push _
      have hc2 := run_string_one x2 _ y2 wa.heap.size (wa.alloc (.cells #[.int .u8 (97 + (k : Int) % 26)] 5)) ((VRow.new wa 5 [.int .u8 (97 + (k : Int) % 26)]).cell 0 _ rfl)
      have HB2 := hide (below_alloc' (w := wa) (.cells #[.int .u8 (97 + (k : Int) % 26)] 5))
      rw [hwa] at hc1 HB1
      rw [hsz] at hc2
      clear hx1 hx2 y1 y2
      have HE4 : Hid ((⟨#[100]⟩ ++ ⟨#[x1]⟩ ++ ⟨#[47]⟩ ++ ⟨#[x2]⟩ : ByteArray) = mostP k) := hide (by rw [unhide HX]; exact (by rw [show (⟨#[100]⟩ : ByteArray) = str [100] from rfl, show (⟨#[x1]⟩ : ByteArray) = str [x1] from rfl, show (⟨#[47]⟩ : ByteArray) = str [47] from rfl, show (⟨#[x2]⟩ : ByteArray) = str [x2] from rfl, str_append, str_append, str_append]; rfl))
      have HZ : Hid ((mostP k).size ≤ 100000) := hide (by rw [unhide HX]; show 4 ≤ 100000; omega)
      have HPb := hide (((unhide HP0).after (unhide HB1)).after (unhide HB2))
      have KS := hide (treeSet_any q (mostT [mostV] k) (most_tr (by decide) most_leaf hk) (mostP k) (unhide HZ) (some ⟨w1.heap.size, 0, none⟩) 1 [mostV] most_few _ (unhide HPb).t (unhide HPb).s)
      rw [most_set (by decide) most_leaf hlt] at KS
      clear HX HZ
      go_wp2_with fail
      rw [unhide HE4]
      refine (unhide KS).mono ?_
      rintro e w2 ⟨q2, rfl, ht2, _, hb2⟩
      have HP2 : Hid (StMo w q2 (some ⟨w1.heap.size, 0, none⟩) (mostT [mostV] (k + 1)) w2) := hide ⟨below_grow (unhide HPb).b (Nat.le_refl _) hb2, (unhide HPb).e.below hb2, ht2, (unhide HPb).s.after hb2⟩
      clear ht2 hb2 KS HPb HB1 HB2 HE4
      go_wp2_with fail
      go_roundw
      case rel => exact ⟨k + 1, q2, by omega, by go_num, rfl, unhide HP2⟩
      case measure => simp [intOf]; omega
    · obtain rfl : k = 128 := by omega
      have KA := hide fun W (h : Env W) => awakeT_any W h
      clear hlt hk
      by_cases hbig : 11 < p.size
      · have hbd : decide ((11 : Int) < ((p.size : Nat) : Int)) = true := decide_eq_true (by omega)
        go_wp2_with fail
        refine (unhide KA wr (unhide HP0).e).mono ?_
        rintro e w2 ⟨rfl, hb⟩
        have HB2 := hide (below_grow (unhide HP0).b (Nat.le_refl _) hb)
        clear hb
        go_wp2_with fail
        refine bodyPost_ret (results_tmp rfl _ _ _) rfl ⟨rfl, unhide HB2⟩
      · have hbd : decide ((11 : Int) < ((p.size : Nat) : Int)) = false := decide_eq_false (by omega)
        have hcat : ¬ (ByteArray.size ⟨#[120]⟩ + p.size > 9223372036854775807) := by rw [show ByteArray.size ⟨#[120]⟩ = 1 from rfl]; omega
        have HL := hide ((most_mem (l := [mostV]) (by decide) 128 (Nat.le_refl _)).2.2)
        have HTR := hide (most_tr (l := [mostV]) (by decide) most_leaf (i := 128) (Nat.le_refl _))
        have hdat : (⟨#[120]⟩ ++ p : ByteArray).data.toList = 120 :: p.data.toList := by simp
        have hsz : (⟨#[120]⟩ ++ p : ByteArray).size ≤ 12 := by rw [ByteArray.size_append, show ByteArray.size ⟨#[120]⟩ = 1 from rfl]; omega
        have HMORE := hide (most_more (l := [mostV]) (by decide) hdat)
        have HLESS := hide (most_less (l := [mostV]) (by decide) (i := 128) (by omega) (Nat.le_refl _))
        have HE2 : Hid (setT (mostT [mostV] 128) ⟨#[100, 97, 47, 97]⟩ [] = (putT (mostP 0) [] (mostT [mostV] 128), 0)) := hide (setT_fine (setE_fine (by decide +kernel) (by decide +kernel)) (by have h1 := unhide HLESS; have h2 := unhide HL; show (putT (mostP 0) [] (mostT [mostV] 128)).length ≤ 128; omega))
        generalize mostT [mostV] 128 = T at *
        obtain ⟨s, hs⟩ : ∃ s, (⟨#[120]⟩ ++ p : ByteArray) = s := ⟨_, rfl⟩
        have HSS := hide hs
        rw [hs] at HMORE hdat hsz
        clear hs
        have HEE : Hid ((setT T s [mostV]).2 = 1 ∨ (setT T s [mostV]).2 = 4) := hide (by
          rw [unhide HMORE]
          unfold setE pchkE Pth.Pt.check
          rw [most_leaf, if_neg (show ¬ 51 < s.data.toList.length by simpa using (by omega : ¬ 51 < s.size))]
          split <;> simp_all)
        have HSZ := hide hsz
        have hU : (putT (mostP 0) [] T).length = 127 := by have h1 := unhide HLESS; have h2 := unhide HL; omega
        have HTU : Hid (Tr (putT (mostP 0) [] T)) := hide (by have h := (unhide HTR).set (p := ⟨#[100, 97, 47, 97]⟩) (l := []) (by rw [unhide HE2]); rw [unhide HE2] at h; exact h)
        generalize putT (mostP 0) [] T = U at *
        have HU := hide hU
        clear hdat hsz HMORE hU HLESS
        have KS := hide fun W (h : StMo w q (some ⟨w1.heap.size, 0, none⟩) T W) => treeSet_any q T (unhide HTR) s (by have := unhide HSZ; omega) (some ⟨w1.heap.size, 0, none⟩) 1 [mostV] most_few W h.t h.s
        have KD := hide fun W (h : StMo w q (some ⟨w1.heap.size, 0, none⟩) T W) => treeSet_any q T (unhide HTR) ⟨#[100, 97, 47, 97]⟩ (by decide) none 0 [] ⟨by decide, fun v hv => by cases hv⟩ W h.t (fun h0 => absurd h0 (Nat.lt_irrefl _))
        rw [unhide HE2] at KD
        have KL := hide fun W (h : StMo w q (some ⟨w1.heap.size, 0, none⟩) T W) => len_any q T W h.t
        rw [unhide HL] at KL
        generalize setT T s [mostV] = ST at KS HEE
        clear HE2
        go_wp2_with fail
        rw [unhide HSS]
        refine (unhide KS _ (unhide HP0)).mono ?_
        rintro e w2 ⟨q2, rfl, _, _, hb⟩
        have HP2 := hide ((unhide HP0).after hb)
        clear hb KS
        go_wp2_with fail
        refine (unhide KD _ (unhide HP2)).mono ?_
        rintro e w3 ⟨q3, rfl, ht3, _, hb⟩
        have HP3 := hide ((unhide HP2).after hb)
        have KLU := hide (len_any q3 U w3 ht3)
        rw [unhide HU] at KLU
        clear hb KD ht3
        obtain ⟨E, hE⟩ : ∃ E, ST.2 = E := ⟨_, rfl⟩
        have hEE : E = 1 ∨ E = 4 := by rw [← hE]; exact unhide HEE
        clear HEE
        rcases hEE with rfl | rfl
        all_goals
          go_wp2_with fail
          refine (unhide KL _ (unhide HP3)).mono ?_
          rintro e w0 ⟨rfl, hw⟩
          have hw' := hw.symm
          subst hw'
          clear hw
          go_wp2_with fail
          refine (unhide KLU).mono ?_
          rintro e w0 ⟨rfl, hw⟩
          have hw' := hw.symm
          subst hw'
          clear hw
          go_wp2_with fail
          refine (unhide KA _ (unhide HP3).e).mono ?_
          rintro e w4 ⟨rfl, hb⟩
          have HB4 := hide (below_grow (unhide HP3).b (Nat.le_refl _) hb)
          clear hb
          go_wp2_with fail
          refine bodyPost_ret (results_tmp rfl _ _ _) rfl ⟨by first | rfl | simp, unhide HB4⟩
end Go.Proofs.YtebjlmnhpfoglaaGreatDoor

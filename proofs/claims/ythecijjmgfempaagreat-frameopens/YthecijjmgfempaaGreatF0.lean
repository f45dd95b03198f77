/-
  The library's strings.CutPrefix: a text without what must stand ahead of it. Conditions: none but lengths.
-/
import Derived.Test.YthecijjmgfempaaGreatGrow
import Derived.Lib.Strings
import Derived.Test.YthecijjmgfempaaGreatX1
import Derived.Test.YthecijjmgfempaaGreatZMath
namespace Go.Proofs.YthecijjmgfempaaGreat
open Go.RowKit

theorem pre_take (p l : List UInt8) : (l.take p.length == p) = p.isPrefixOf l := by
  rw [Bool.eq_iff_iff, List.isPrefixOf_iff_prefix, List.prefix_iff_eq_take, beq_iff_eq]
  exact ⟨fun h => h.symm, fun h => h.symm⟩
theorem pre_short {p l : List UInt8} (h : l.length < p.length) : p.isPrefixOf l = false := by
  cases hb : p.isPrefixOf l with
  | false => rfl
  | true =>
    have := (List.isPrefixOf_iff_prefix.1 hb).length_le
    omega
set_option maxRecDepth 100000 in
set_option maxHeartbeats 400000 in
theorem hasPrefix_any (s p : ByteArray) (w : World) :
    Calls Tryz.prog 77 #[.string s, .string p] w fun e w' => e = .returned (.bool (p.data.toList.isPrefixOf s.data.toList)) ∧ w' = w := by
  by_cases h : p.size ≤ s.size
  · have he : ((s.extract 0 p.size).toList == p.toList) = p.data.toList.isPrefixOf s.data.toList := by
      rw [Lib.toList_data, Lib.toList_data, ← pre_take]
      simp
    rw [← he]
    clear he
    go_enter Tryz.func77, Tryz.ntmps77
    go_wp2_with fail
    go_ret
    exact ⟨rfl, rfl⟩
  · rw [pre_short (by simp; omega)]
    go_enter Tryz.func77, Tryz.ntmps77
    go_wp2_with fail
    go_ret
    exact ⟨rfl, rfl⟩
set_option maxRecDepth 100000 in
set_option maxHeartbeats 400000 in
theorem cut66_yes (s p : ByteArray) (h : p.data.toList.isPrefixOf s.data.toList = true) (w : World) :
    Calls Tryz.prog 66 #[.string s, .string p] w fun e w' => e = .returned (.tuple #[.string (s.extract p.size s.size), .bool true]) ∧ w' = w := by
  have hl : p.size ≤ s.size := by
    have := (List.isPrefixOf_iff_prefix.1 h).length_le
    simpa using this
  have HK := hide (hasPrefix_any s p w)
  rw [h] at HK
  clear h
  go_enter Tryz.func66, Tryz.ntmps66
  go_wp2_with fail
  refine (unhide HK).mono ?_
  rintro e w1 ⟨rfl, rfl⟩
  go_wp2_with fail
  go_ret2
  exact ⟨rfl, rfl⟩
set_option maxRecDepth 100000 in
set_option maxHeartbeats 400000 in
theorem cut66_no (s p : ByteArray) (h : p.data.toList.isPrefixOf s.data.toList = false) (w : World) :
    Calls Tryz.prog 66 #[.string s, .string p] w fun e w' => e = .returned (.tuple #[.string s, .bool false]) ∧ w' = w := by
  have HK := hide (hasPrefix_any s p w)
  rw [h] at HK
  clear h
  go_enter Tryz.func66, Tryz.ntmps66
  go_wp2_with fail
  refine (unhide HK).mono ?_
  rintro e w1 ⟨rfl, rfl⟩
  go_wp2_with fail
  go_ret2
  exact ⟨rfl, rfl⟩
set_option maxRecDepth 100000 in
set_option maxHeartbeats 400000 in
theorem cut_yes (s p : ByteArray) (h : p.data.toList.isPrefixOf s.data.toList = true) (w : World) :
    Calls Tryz.prog 47 #[.string s, .string p] w fun e w' => e = .returned (.tuple #[.string (s.extract p.size s.size), .bool true]) ∧ w' = w := by
  have HK := hide (cut66_yes s p h w)
  clear h
  go_enter Tryz.func47, Tryz.ntmps47
  go_wp2_with fail
  refine (unhide HK).mono ?_
  rintro e w1 ⟨rfl, rfl⟩
  go_wp2_with fail
  go_ret2
  exact ⟨rfl, rfl⟩
set_option maxRecDepth 100000 in
set_option maxHeartbeats 400000 in
theorem cut_no (s p : ByteArray) (h : p.data.toList.isPrefixOf s.data.toList = false) (w : World) :
    Calls Tryz.prog 47 #[.string s, .string p] w fun e w' => e = .returned (.tuple #[.string s, .bool false]) ∧ w' = w := by
  have HK := hide (cut66_no s p h w)
  clear h
  go_enter Tryz.func47, Tryz.ntmps47
  go_wp2_with fail
  refine (unhide HK).mono ?_
  rintro e w1 ⟨rfl, rfl⟩
  go_wp2_with fail
  go_ret2
  exact ⟨rfl, rfl⟩
end Go.Proofs.YthecijjmgfempaaGreat

namespace Go.Proofs.YthecijjmgfempaaGreat
open Go.RowKit

/-- The text of a frame's message, and what is wrong with it. -/
def textF (l : List UInt8) : List UInt8 × Int := ((rText (l, 0) 131072).1, rDone (rText (l, 0) 131072).2)
/-- The bytes ahead of a right sum. -/
def Right (l : List UInt8) : Prop := 4 ≤ l.length ∧ l.drop (l.length - 4) = Cr.Crc.le 4 (Cr.Crc.sum (l.take (l.length - 4)))
instance (l : List UInt8) : Decidable (Right l) := by unfold Right; infer_instance
/-- What a text is the frame of: from each step on. -/
def fr5 (l : List UInt8) : Msg × Int := if (textF l).2 ≠ 0 then (zeroM, (textF l).2) else readM ((textF l).1, 0)
def fr4 (l : List UInt8) : Msg × Int := if [1].isPrefixOf l then fr5 (l.drop 1) else (zeroM, 15)
def fr3 (l : List UInt8) : Msg × Int := if [104, 115].isPrefixOf l then fr4 (l.drop 2) else (zeroM, 7)
def fr2 (l : List UInt8) : Msg × Int := if l.length < 3 then (zeroM, 5) else fr3 l
def fr1 (l : List UInt8) : Msg × Int := if Right l then fr2 (l.take (l.length - 4)) else (zeroM, 9)
def openF (l : List UInt8) : Msg × Int := if 131072 < l.length then (zeroM, 2) else fr1 l
theorem readM_bad (st : St) : (readM st).2 ≠ 0 → (readM st).1 = zeroM := by
  unfold readM
  split
  · intro _; rfl
  · intro h; exact absurd rfl h
theorem readM_few (st : St) : FewM (readM st).1 := by
  unfold readM
  split
  · exact zero_few 0 0 0 0
  · exact rMsg_few st
theorem openF_few (l : List UInt8) : FewM (openF l).1 := by
  have z := zero_few 0 0 0 0
  unfold openF fr1 fr2 fr3 fr4 fr5
  repeat' split
  all_goals first | exact z | exact readM_few _

theorem str_ex (s : ByteArray) (k : Nat) : s.extract k s.size = str (s.data.toList.drop k) := by
  apply data_inj
  rw [str_data, ← Lib.toList_data, Lib.extract_toList, List.take_of_length_le (by simp)]
theorem str_ex0 (s : ByteArray) (k : Nat) : s.extract 0 k = str (s.data.toList.take k) := by
  apply data_inj
  rw [str_data]
  simp

theorem crcOpen_any (l : List UInt8) (hl : l.length ≤ 40000000) (w : World) :
    Calls Tryz.prog 28 #[.string (str l)] w fun e w' => e = .returned (.tuple #[.string (str (if Right l then l.take (l.length - 4) else [])), .bool (decide (Right l))]) ∧ Below w.heap.size w w' := by
  have hs : (str l).size = l.length := str_size l
  by_cases h4 : 4 ≤ l.length
  · by_cases hq : Cr.Sealed (str l).data.toList (l.length - 4)
    · have hr : Right l := ⟨h4, by have h := hq; rw [str_data] at h; exact h⟩
      rw [if_pos hr, decide_eq_true hr]
      have h := Cr.Open_yes (str l) (l.length - 4) (by omega) (by omega) hq w
      rw [str_ex0, str_data] at h
      exact h
    · have hr : ¬ Right l := fun h => hq (by have h2 := h.2; unfold Cr.Sealed; rw [str_data]; exact h2)
      rw [if_neg hr, decide_eq_false hr]
      exact Cr.Open_no (str l) (l.length - 4) (by omega) (by omega) hq w
  · have hr : ¬ Right l := fun h => h4 h.1
    rw [if_neg hr, decide_eq_false hr]
    exact (Cr.Open_short (str l) (by omega) w).mono fun e w' h => ⟨h.1, by rw [h.2]; exact Below.refl _ _⟩
theorem refCrcOpen_any (l : List UInt8) (hl : l.length ≤ 40000000) (w : World) :
    Calls Tryz.prog 19 #[.string (str l)] w fun e w' => e = .returned (.tuple #[.string (str (if Right l then l.take (l.length - 4) else [])), .bool (decide (Right l))]) ∧ Below w.heap.size w w' := by
  have hs : (str l).size = l.length := str_size l
  by_cases h4 : 4 ≤ l.length
  · by_cases hq : Cr.Sealed (str l).data.toList (l.length - 4)
    · have hr : Right l := ⟨h4, by have h := hq; rw [str_data] at h; exact h⟩
      rw [if_pos hr, decide_eq_true hr]
      have h := Cr.refOpen_yes (str l) (l.length - 4) (by omega) (by omega) hq w
      rw [str_ex0, str_data] at h
      exact h
    · have hr : ¬ Right l := fun h => hq (by have h2 := h.2; unfold Cr.Sealed; rw [str_data]; exact h2)
      rw [if_neg hr, decide_eq_false hr]
      exact Cr.refOpen_no (str l) (l.length - 4) (by omega) (by omega) hq w
  · have hr : ¬ Right l := fun h => h4 h.1
    rw [if_neg hr, decide_eq_false hr]
    exact (Cr.refOpen_short (str l) (by omega) w).mono fun e w' h => ⟨h.1, by rw [h.2]; exact Below.refl _ _⟩
end Go.Proofs.YthecijjmgfempaaGreat

namespace Go.Proofs.YthecijjmgfempaaGreat
open Go.RowKit

/-- The cells of an opening: what is left, and the message that was found. -/
def oL (l : List UInt8) (m : Msg) (a : Option Addr) (c : Nat) (b : Option Addr) (d : Nat) : List Value := .string (str l) :: mL m a c b d
abbrev oZ (l : List UInt8) : List Value := oL l zeroM none 0 none 0
def StepMade (o : Nat) (w : World) (l : List UInt8) (r : Int) (e : Ending) (w' : World) : Prop := e = .returned (.int .i64 r) ∧ VRow w' o 44 (oZ l) ∧ Beside (· = o) w w'
section
variable {w : World} {o : Nat} {l : List UInt8}
set_option maxRecDepth 100000 in
set_option maxHeartbeats 400000 in
theorem fits_any (h : VRow w o 44 (oZ l)) : Calls Tryz.prog 12 #[.pointer (some ⟨o, 0, none⟩)] w (StepMade o w l (if 131072 < l.length then 2 else 0)) := by
  have HH := hide h
  have x0 := h.cell 0 _ rfl
  have hz := str_size l
  clear h
  by_cases hb : 131072 < l.length
  · rw [if_pos hb]
    go_enter Tryz.func12, Tryz.ntmps12
    go_wp2_with fail
    go_ret
    exact ⟨rfl, unhide HH, Beside.refl _ _⟩
  · rw [if_neg hb]
    go_enter Tryz.func12, Tryz.ntmps12
    go_wp2_with fail
    go_ret
    exact ⟨rfl, unhide HH, Beside.refl _ _⟩
set_option maxRecDepth 100000 in
set_option maxHeartbeats 400000 in
theorem hasHead_any (h : VRow w o 44 (oZ l)) : Calls Tryz.prog 14 #[.pointer (some ⟨o, 0, none⟩)] w (StepMade o w l (if l.length < 3 then 5 else 0)) := by
  have HH := hide h
  have x0 := h.cell 0 _ rfl
  have hz := str_size l
  clear h
  by_cases hb : l.length < 3
  · rw [if_pos hb]
    go_enter Tryz.func14, Tryz.ntmps14
    go_wp2_with fail
    go_ret
    exact ⟨rfl, unhide HH, Beside.refl _ _⟩
  · rw [if_neg hb]
    go_enter Tryz.func14, Tryz.ntmps14
    go_wp2_with fail
    go_ret
    exact ⟨rfl, unhide HH, Beside.refl _ _⟩
theorem left_set {k : Nat} (h : VRow w o 44 (oZ l)) (l' : List UInt8) (hk : k = 0) : VRow (w.setCell ⟨o, k, none⟩ (.string (str l'))) o 44 (oZ l') := by
  subst hk
  exact h.set 0 (.string (str l'))
set_option maxRecDepth 100000 in
set_option maxHeartbeats 400000 in
theorem takeSum_any (h : VRow w o 44 (oZ l)) (hl : l.length ≤ 40000000) : Calls Tryz.prog 13 #[.pointer (some ⟨o, 0, none⟩)] w (StepMade o w (if Right l then l.take (l.length - 4) else l) (if Right l then 0 else 9)) := by
  have HH := hide h
  have x0 := h.cell 0 _ rfl
  have HK := hide (crcOpen_any l hl w)
  clear h hl
  by_cases hb : Right l
  · rw [if_pos hb, decide_eq_true hb] at HK
    rw [if_pos hb, if_pos hb]
    clear hb
    go_enter Tryz.func13, Tryz.ntmps13
    go_wp2_with fail
    refine (unhide HK).mono ?_
    rintro e w1 ⟨rfl, hb⟩
    have HH1 := hide ((unhide HH).after hb)
    have x1 := (unhide HH1).cell 0 _ rfl
    have f1 := (unhide HH1).frozen 0
    have HB := hide hb
    clear hb x0
    go_wp2_with fail
    go_ret
    exact ⟨rfl, left_set (unhide HH1) _ rfl, (beside_of (unhide HB)).trans (beside_set o 0 w1 _)⟩
  · rw [if_neg hb, decide_eq_false hb] at HK
    rw [if_neg hb, if_neg hb]
    clear hb
    go_enter Tryz.func13, Tryz.ntmps13
    go_wp2_with fail
    refine (unhide HK).mono ?_
    rintro e w1 ⟨rfl, hb⟩
    have HB := hide hb
    clear hb x0
    go_wp2_with fail
    go_ret
    exact ⟨rfl, (unhide HH).after (unhide HB), beside_of (unhide HB)⟩
set_option maxRecDepth 100000 in
set_option maxHeartbeats 400000 in
theorem cutStep_any (h : VRow w o 44 (oZ l)) (p : List UInt8) (x : Int) : Calls Tryz.prog 29 #[.pointer (some ⟨o, 0, none⟩), .string (str p), .int .i64 x] w (StepMade o w (if p.isPrefixOf l then l.drop p.length else l) (if p.isPrefixOf l then 0 else x)) := by
  have HH := hide h
  have x0 := h.cell 0 _ rfl
  have f0 := h.frozen 0
  clear h
  by_cases hb : p.isPrefixOf l = true
  · have hc := cut_yes (str l) (str p) (by rw [str_data, str_data]; exact hb) w
    rw [str_ex, str_data, str_size] at hc
    have HK := hide hc
    rw [if_pos hb, if_pos hb]
    clear hb hc
    go_enter Tryz.func29, Tryz.ntmps29
    go_wp2_with fail
    refine (unhide HK).mono ?_
    rintro e w1 ⟨rfl, rfl⟩
    go_wp2_with fail
    go_ret
    exact ⟨rfl, left_set (unhide HH) _ rfl, beside_set o 0 _ _⟩
  · have HK := hide (cut_no (str l) (str p) (by rw [str_data, str_data]; exact Bool.eq_false_iff.2 hb) w)
    rw [if_neg hb, if_neg hb]
    clear hb
    go_enter Tryz.func29, Tryz.ntmps29
    go_wp2_with fail
    refine (unhide HK).mono ?_
    rintro e w1 ⟨rfl, rfl⟩
    go_wp2_with fail
    go_ret
    exact ⟨rfl, unhide HH, Beside.refl _ _⟩
set_option maxRecDepth 100000 in
set_option maxHeartbeats 400000 in
theorem takeLetters_any (h : VRow w o 44 (oZ l)) : Calls Tryz.prog 15 #[.pointer (some ⟨o, 0, none⟩)] w (StepMade o w (if [104, 115].isPrefixOf l then l.drop 2 else l) (if [104, 115].isPrefixOf l then 0 else 7)) := by
  have HK : Hid (Calls Tryz.prog 29 #[.pointer (some ⟨o, 0, none⟩), .string ⟨#[104, 115]⟩, .int .i64 7] w (StepMade o w (if [104, 115].isPrefixOf l then l.drop 2 else l) (if [104, 115].isPrefixOf l then 0 else 7))) := hide (cutStep_any h [104, 115] 7)
  clear h
  generalize (if [104, 115].isPrefixOf l then l.drop 2 else l) = l' at HK ⊢
  generalize (if [104, 115].isPrefixOf l then (0 : Int) else 7) = r at HK ⊢
  go_enter Tryz.func15, Tryz.ntmps15
  go_wp2_with fail
  refine (unhide HK).mono ?_
  rintro e w1 ⟨rfl, hr, hb⟩
  have HR := hide hr
  have HB := hide hb
  clear hr hb
  go_wp2_with fail
  go_ret
  exact ⟨rfl, unhide HR, unhide HB⟩
set_option maxRecDepth 100000 in
set_option maxHeartbeats 400000 in
theorem takeKind_any (h : VRow w o 44 (oZ l)) : Calls Tryz.prog 16 #[.pointer (some ⟨o, 0, none⟩)] w (StepMade o w (if [1].isPrefixOf l then l.drop 1 else l) (if [1].isPrefixOf l then 0 else 15)) := by
  have HK : Hid (Calls Tryz.prog 29 #[.pointer (some ⟨o, 0, none⟩), .string ⟨#[1]⟩, .int .i64 15] w (StepMade o w (if [1].isPrefixOf l then l.drop 1 else l) (if [1].isPrefixOf l then 0 else 15))) := hide (cutStep_any h [1] 15)
  clear h
  generalize (if [1].isPrefixOf l then l.drop 1 else l) = l' at HK ⊢
  generalize (if [1].isPrefixOf l then (0 : Int) else 15) = r at HK ⊢
  go_enter Tryz.func16, Tryz.ntmps16
  go_wp2_with fail
  refine (unhide HK).mono ?_
  rintro e w1 ⟨rfl, hr, hb⟩
  have HR := hide hr
  have HB := hide hb
  clear hr hb
  go_wp2_with fail
  go_ret
  exact ⟨rfl, unhide HR, unhide HB⟩
set_option maxRecDepth 100000 in
set_option maxHeartbeats 400000 in
theorem takeText_any (h : VRow w o 44 (oZ l)) (hl : l.length ≤ 40000000) : Calls Tryz.prog 17 #[.pointer (some ⟨o, 0, none⟩)] w (StepMade o w (textF l).1 (textF l).2) := by
  have HH := hide h
  have HL := hide h.lt
  have x0 := h.cell 0 _ rfl
  have HK := hide (rnew_d (str l) w)
  rw [str_data] at HK
  have HLL : Hid (((l, 0) : St).1.length ≤ 50000000) := hide (by show l.length ≤ _; omega)
  unfold textF
  dsimp only
  clear h hl
  go_enter Tryz.func17, Tryz.ntmps17
  go_wp2_with fail
  refine (unhide HK).mono ?_
  rintro e w1 ⟨rfl, hd, hb⟩
  have HH1 := hide ((unhide HH).after hb)
  have HB := hide hb
  have KT := hide (rtext_d hd (unhide HLL) 131072)
  clear hd hb x0
  go_wp2_with fail
  refine (unhide KT).mono ?_
  rintro e w2 ⟨rfl, hd, hb⟩
  have HD := hide hd
  have HH2 := hide ((unhide HH1).beside hb (by have h9 : o < w.heap.size := unhide HL; omega))
  have HB2 := hide ((unhide HB).trans (hb.below (unhide HB).size (by rintro g rfl; exact Nat.le_refl _)))
  have x2 := (unhide HH2).cell 0 _ rfl
  have f2 := (unhide HH2).frozen 0
  have KD := hide fun (v : Value) => rdone_at (st := (rText (l, 0) 131072).2) (w := w2.setCell ⟨o, 0, none⟩ v) (VRow.setNe (unhide HD) (B := o) (by have h9 : o < w.heap.size := unhide HL; omega) 0 v)
  clear hd hb
  go_wp2_with fail
  refine (unhide KD _).mono ?_
  rintro e w3 ⟨rfl, rfl⟩
  go_wp2_with fail
  go_ret
  exact ⟨rfl, left_set (unhide HH2) _ rfl, (beside_of (unhide HB2)).trans (beside_set o 0 w2 _)⟩
def FoundMade (o : Nat) (w : World) (l : List UInt8) (x : Msg × Int) (e : Ending) (w' : World) : Prop :=
  ∃ a c b d, e = .returned (.int .i64 x.2) ∧ VRow w' o 44 (oL l x.1 a c b d) ∧ Fresh w.heap.size a x.1.ctx ∧ RProv (fun g => w.heap.size ≤ g) w' b x.1.rows ∧ Sl w' a x.1.ctx ∧ RL w' b x.1.rows ∧ Beside (· = o) w w'
theorem store_found {ops : Array Oper} {rest : List Oper} {op : Oper} {A : Act} {Q : Exit → Act → World → Prop} (hgd : op.guard = none) (x y : Operand) (ho : op.op = .store 28 x y)
    (B : Nat) (hx : A.eval x = .pointer (some ⟨B, 1, none⟩)) (vs : List Value) (hy : A.eval y = .agg vs.toArray) (hn : vs.length = 41) (h1 : ∀ v ∈ vs, v.oneCell' = true) {z : Value} {us : List Value} (hr : VRow w B 44 (z :: us)) (hm : us.length = 41)
    (h : ∀ w', VRow w' B 44 (z :: vs) → Beside (· = B) w w' → wpList Tryz.prog ops Q rest (A.put op.dst undef) w') : wpList Tryz.prog ops Q (op :: rest) A w := by
  refine wpList_store_mid hgd 28 x y ho B 1 _ hx hy ?_ (by rw [sizeM]; simp [hn]) (all_oneCell_toArray h1) ?_
  · have ht : w.there B 1 41 := fun j hj => by
      refine ⟨?_, hr.frozen (1 + j)⟩
      obtain ⟨v, hv⟩ : ∃ v, us[j]? = some v := ⟨_, List.getElem?_eq_getElem (by omega)⟩
      rw [hr.cell (1 + j) v (by rw [Nat.add_comm]; exact hv)]
      rfl
    simpa [hn] using ht
  · have h2 := vrow_setCells (T := 44) (B := B) vs [z] us [] w (by omega) (by simpa using hr)
    simp only [List.append_nil, List.singleton_append, List.length_singleton] at h2
    exact h _ h2.1 h2.2
set_option maxRecDepth 100000 in
set_option maxHeartbeats 400000 in
theorem readMessage_any (h : VRow w o 44 (oZ l)) (hl : l.length ≤ 40000000) : Calls Tryz.prog 18 #[.pointer (some ⟨o, 0, none⟩)] w (FoundMade o w l (readM (l, 0))) := by
  have HH := hide h
  have HL := hide h.lt
  have x0 := h.cell 0 _ rfl
  have HK := hide (read_any (str l) (by rw [str_size]; exact hl) w)
  rw [str_data] at HK
  have HF := hide (readM_few (l, 0))
  generalize readM (l, 0) = X at HK HF ⊢
  obtain ⟨m, E⟩ := X
  clear h hl
  go_enter Tryz.func18, Tryz.ntmps18
  go_wp2_with fail
  refine (unhide HK).mono ?_
  rintro e w1 ⟨a, c, b, d, rfl, h1, h2, h3, h4, hb⟩
  dsimp only at h1 h2 h3 h4 ⊢
  have HH1 := hide ((unhide HH).after hb)
  have HX1 := hide h1
  have HX2 := hide h2
  have HX3 := hide h3
  have HX4 := hide h4
  have HB := hide hb
  have HLN := hide (mL_len (unhide HF).root a c b d)
  have HO := hide (mL_one m a c b d)
  clear h1 h2 h3 h4 hb x0
  go_wp2_with ((with_reducible refine atS27 ?_); (refine store_found (by rfl) (.tmp 13) (.tmp 10) (by rfl) o (by rfl) (mL m a c b d) (by rfl) (unhide HLN) (unhide HO) (unhide HH1) mZ_len ?_); intro w2 hv hq; have HV := hide hv; have HQ := hide hq; clear hv hq)
  go_ret
  have hlt : o < w.heap.size := unhide HL
  exact ⟨a, c, b, d, rfl, unhide HV, unhide HX1, (unhide HX2).beside (unhide HX4) (unhide HQ) (by omega), (unhide HX3).beside (unhide HQ) ((unhide HX1).ne hlt), (unhide HX4).beside (unhide HX2) (unhide HQ) (by omega), (beside_of (unhide HB)).trans (unhide HQ)⟩
end
end Go.Proofs.YthecijjmgfempaaGreat

namespace Go.Proofs.YthecijjmgfempaaGreat
open Go.RowKit

def frs : Nat → List UInt8 → Msg × Int
  | 0 => openF
  | 1 => fr1
  | 2 => fr2
  | 3 => fr3
  | 4 => fr4
  | 5 => fr5
  | _ => fun l => readM (l, 0)
/-- What an opening has come to, ahead of its step j. -/
def At (O n : Nat) (A : Msg × Int) (j : Nat) (W : World) : Prop :=
  (j ≤ 6 ∧ ∃ l, frs j l = A ∧ l.length ≤ 40000000 ∧ VRow W O 44 (oZ l)) ∨ (j = 7 ∧ A.2 = 0 ∧ ∃ l a c b d, VRow W O 44 (oL l A.1 a c b d) ∧ Fresh n a A.1.ctx ∧ RProv (fun g => n ≤ g) W b A.1.rows ∧ Sl W a A.1.ctx ∧ RL W b A.1.rows)
def Next (O n : Nat) (A : Msg × Int) (j : Nat) (w : World) (e : Ending) (w' : World) : Prop :=
  ∃ r : Int, e = .returned (.int .i64 r) ∧ Beside (· = O) w w' ∧ (r ≠ 0 → A = (zeroM, r)) ∧ (r = 0 → At O n A (j + 1) w')
section
variable {O n j : Nat} {A : Msg × Int} {w : World}
theorem next_of {l l' : List UInt8} {r : Int} (hj : j ≤ 5) (hl : l'.length ≤ 40000000) (hA : frs j l = A) (hs : frs j l = if r ≠ 0 then (zeroM, r) else frs (j + 1) l') (e : Ending) (w' : World) (h : StepMade O w l' r e w') : Next O n A j w e w' := by
  obtain ⟨he, hv, hb⟩ := h
  refine ⟨r, he, hb, fun h => ?_, fun h => Or.inl ⟨by omega, l', ?_, hl, hv⟩⟩
  · rw [← hA, hs, if_pos h]
  · rw [← hA, hs, if_neg (by simp [h])]
theorem textF_len (l : List UInt8) : (textF l).1.length ≤ 131072 := rText_most (l, 0) 131072 (by omega)
theorem step_next (hj : j ≤ 6) (hn : n ≤ w.heap.size) (h : At O n A j w) : Calls Tryz.prog (12 + j) #[.pointer (some ⟨O, 0, none⟩)] w (Next O n A j w) := by
  rcases h with ⟨_, l, hA, hl, hv⟩ | ⟨h7, _⟩
  · have hc : j = 0 ∨ j = 1 ∨ j = 2 ∨ j = 3 ∨ j = 4 ∨ j = 5 ∨ j = 6 := by omega
    rcases hc with rfl | rfl | rfl | rfl | rfl | rfl | rfl
    · refine (fits_any hv).mono (next_of (by omega) hl hA ?_)
      by_cases c : 131072 < l.length <;> simp [frs, openF, c]
    · refine (takeSum_any hv hl).mono (next_of (by omega) ?_ hA ?_)
      · split
        · rw [List.length_take]; omega
        · exact hl
      · by_cases c : Right l <;> simp [frs, fr1, c]
    · refine (hasHead_any hv).mono (next_of (by omega) hl hA ?_)
      by_cases c : l.length < 3 <;> simp [frs, fr2, c]
    · refine (takeLetters_any hv).mono (next_of (by omega) ?_ hA ?_)
      · split
        · rw [List.length_drop]; omega
        · exact hl
      · by_cases c : [104, 115].isPrefixOf l = true
        · simp only [frs, fr3, if_pos c]; rfl
        · simp only [frs, fr3, if_neg c]; rfl
    · refine (takeKind_any hv).mono (next_of (by omega) ?_ hA ?_)
      · split
        · rw [List.length_drop]; omega
        · exact hl
      · by_cases c : [1].isPrefixOf l = true
        · simp only [frs, fr4, if_pos c]; rfl
        · simp only [frs, fr4, if_neg c]; rfl
    · refine (takeText_any hv hl).mono (next_of (by omega) ?_ hA rfl)
      have := textF_len l
      omega
    · refine (readMessage_any hv hl).mono ?_
      rintro e w' ⟨a, c, b, d, rfl, h1, h2, h3, h4, h5, h6⟩
      have hA' : readM (l, 0) = A := hA
      rw [hA'] at h1 h2 h3 h4 h5
      rw [hA']
      refine ⟨A.2, rfl, h6, fun h => ?_, fun h => Or.inr ⟨rfl, h, l, a, c, b, d, h1, h2.weak hn, h3.weak (fun g hg => Nat.le_trans hn hg), h4, h5⟩⟩
      have h8 := readM_bad (l, 0) (by rw [hA']; exact h)
      rw [hA'] at h8
      rw [← h8]
  · omega
end
theorem size44 : (Tryz.prog.info? 44).map (·.size) = some 42 := by kernel_rfl
theorem oZ_len (l : List UInt8) : (oZ l).length = 42 := rfl
theorem at44 {ops : Array Oper} {d : Option Tmp} {x y : Operand} {ty : TypeId} {pos : String} {af : Array Edge} {g : Option (Nat × Bool)} {rest : List Oper} {a : Act} {w : World} {Q : Exit → Act → World → Prop} (h : wpList Tryz.prog ops Q ({dst := d, op := .store 44 x y, type := ty, pos := pos, after := af, guard := g} :: rest) a w) : wpList Tryz.prog ops Q ({dst := d, op := .store 44 x y, type := ty, pos := pos, after := af, guard := g} :: rest) a w := h
theorem load_found {ops : Array Oper} {rest : List Oper} {op : Oper} {a : Act} {w : World} {Q : Exit → Act → World → Prop} (hgd : op.guard = none) (x : Operand) (ho : op.op = .load 28 x)
    (B : Nat) (hx : a.eval x = .pointer (some ⟨B, 1, none⟩)) {z : Value} (vs : List Value) (hr : VRow w B 44 (z :: vs)) (hn : vs.length = 41)
    (h : wpList Tryz.prog ops Q rest (a.put op.dst (.agg vs.toArray)) w) : wpList Tryz.prog ops Q (op :: rest) a w :=
  wpList_load_mid hgd 28 x ho B 1 hx _ _ (fun j v hv => hr.cell (1 + j) v (by rw [Nat.add_comm]; exact hv)) Tryz.underlying28 rfl (by rw [sizeM, hn]) h
theorem results_msg7 (tmps : Array Value) (w : World) (g : Nat) (vs : List Value) (v : Value) (hp : tmps.getD 2 undef = .pointer (some ⟨g, 0, none⟩)) (hq : tmps.getD 3 undef = v) (hr : VRow w g 28 vs) (hn : vs.length = 41) :
    (results Tryz.f7 tmps).run Tryz.prog w = .ok (.tuple #[.agg vs.toArray, v]) w := by
  have hp' : tmps[2]?.getD undef = .pointer (some ⟨g, 0, none⟩) := by simpa using hp
  have hq' : tmps[3]?.getD undef = v := by simpa using hq
  have hl := run_loadVar_row (P := Tryz.prog) w g 28 28 vs.toArray (0, 0) _ hr Tryz.underlying28 rfl (by rw [sizeM]; simp [hn])
  simp [results, hp', hq', asAddr, hl]
end Go.Proofs.YthecijjmgfempaaGreat

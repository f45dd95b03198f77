/-
  The steps of an opening: what each answers, and what it leaves.
-/
import Derived.Test.YthecijjmgfempaaGreatF1
import Derived.Test.YthecijjmgfempaaGreatF0
namespace Go.Proofs.YthecijjmgfempaaGreat
open Go.RowKit

/-- The cells of an opening: what is left, and the message that was found. -/
def oL (l : List UInt8) (m : Msg) (a : Option Addr) (c : Nat) (b : Option Addr) (d : Nat) : List Value := .string (str l) :: mL m a c b d
abbrev oZ (l : List UInt8) : List Value := oL l zeroM none 0 none 0
def StepMade (o : Nat) (w : World) (l : List UInt8) (r : Int) (e : Ending) (w' : World) : Prop := e = .returned (.int .i64 r) ∧ VRow w' o 44 (oZ l) ∧ Beside (· = o) w w'
section
variable {w : World} {o : Nat} {l : List UInt8}
set_option maxRecDepth 100000 in
set_option maxHeartbeats 400000 in
theorem fits_any (h : VRow w o 44 (oZ l)) : Calls Tryz.prog 12 #[.pointer (some ⟨o, 0, none⟩)] w (StepMade o w l (if 131072 < l.length then 2 else 0)) := by
  have HH := hide h
  have x0 := h.cell 0 _ rfl
  have hz := str_size l
  clear h
  by_cases hb : 131072 < l.length
  · rw [if_pos hb]
    go_enter Tryz.func12, Tryz.ntmps12
    go_wp2_with fail
    go_ret
    exact ⟨rfl, unhide HH, Beside.refl _ _⟩
  · rw [if_neg hb]
    go_enter Tryz.func12, Tryz.ntmps12
    go_wp2_with fail
    go_ret
    exact ⟨rfl, unhide HH, Beside.refl _ _⟩
set_option maxRecDepth 100000 in
set_option maxHeartbeats 400000 in
theorem hasHead_any (h : VRow w o 44 (oZ l)) : Calls Tryz.prog 14 #[.pointer (some ⟨o, 0, none⟩)] w (StepMade o w l (if l.length < 3 then 5 else 0)) := by
  have HH := hide h
  have x0 := h.cell 0 _ rfl
  have hz := str_size l
  clear h
  by_cases hb : l.length < 3
  · rw [if_pos hb]
    go_enter Tryz.func14, Tryz.ntmps14
    go_wp2_with fail
    go_ret
    exact ⟨rfl, unhide HH, Beside.refl _ _⟩
  · rw [if_neg hb]
    go_enter Tryz.func14, Tryz.ntmps14
    go_wp2_with fail
    go_ret
    exact ⟨rfl, unhide HH, Beside.refl _ _⟩
theorem left_set {k : Nat} (h : VRow w o 44 (oZ l)) (l' : List UInt8) (hk : k = 0) : VRow (w.setCell ⟨o, k, none⟩ (.string (str l'))) o 44 (oZ l') := by
  subst hk
  exact h.set 0 (.string (str l'))
set_option maxRecDepth 100000 in
set_option maxHeartbeats 400000 in
theorem takeSum_any (h : VRow w o 44 (oZ l)) (hl : l.length ≤ 40000000) : Calls Tryz.prog 13 #[.pointer (some ⟨o, 0, none⟩)] w (StepMade o w (if Right l then l.take (l.length - 4) else l) (if Right l then 0 else 9)) := by
  have HH := hide h
  have x0 := h.cell 0 _ rfl
  have HK := hide (crcOpen_any l hl w)
  clear h hl
  by_cases hb : Right l
  · rw [if_pos hb, decide_eq_true hb] at HK
    rw [if_pos hb, if_pos hb]
    clear hb
    go_enter Tryz.func13, Tryz.ntmps13
    go_wp2_with fail
    refine (unhide HK).mono ?_
    rintro e w1 ⟨rfl, hb⟩
    have HH1 := hide ((unhide HH).after hb)
    have x1 := (unhide HH1).cell 0 _ rfl
    have f1 := (unhide HH1).frozen 0
    have HB := hide hb
    clear hb x0
    go_wp2_with fail
    go_ret
    exact ⟨rfl, left_set (unhide HH1) _ rfl, (beside_of (unhide HB)).trans (beside_set o 0 w1 _)⟩
  · rw [if_neg hb, decide_eq_false hb] at HK
    rw [if_neg hb, if_neg hb]
    clear hb
    go_enter Tryz.func13, Tryz.ntmps13
    go_wp2_with fail
    refine (unhide HK).mono ?_
    rintro e w1 ⟨rfl, hb⟩
    have HB := hide hb
    clear hb x0
    go_wp2_with fail
    go_ret
    exact ⟨rfl, (unhide HH).after (unhide HB), beside_of (unhide HB)⟩
set_option maxRecDepth 100000 in
set_option maxHeartbeats 400000 in
theorem cutStep_any (h : VRow w o 44 (oZ l)) (p : List UInt8) (x : Int) : Calls Tryz.prog 29 #[.pointer (some ⟨o, 0, none⟩), .string (str p), .int .i64 x] w (StepMade o w (if p.isPrefixOf l then l.drop p.length else l) (if p.isPrefixOf l then 0 else x)) := by
  have HH := hide h
  have x0 := h.cell 0 _ rfl
  have f0 := h.frozen 0
  clear h
  by_cases hb : p.isPrefixOf l = true
  · have hc := cut_yes (str l) (str p) (by rw [str_data, str_data]; exact hb) w
    rw [str_ex, str_data, str_size] at hc
    have HK := hide hc
    rw [if_pos hb, if_pos hb]
    clear hb hc
    go_enter Tryz.func29, Tryz.ntmps29
    go_wp2_with fail
    refine (unhide HK).mono ?_
    rintro e w1 ⟨rfl, rfl⟩
    go_wp2_with fail
    go_ret
    exact ⟨rfl, left_set (unhide HH) _ rfl, beside_set o 0 _ _⟩
  · have HK := hide (cut_no (str l) (str p) (by rw [str_data, str_data]; exact Bool.eq_false_iff.2 hb) w)
    rw [if_neg hb, if_neg hb]
    clear hb
    go_enter Tryz.func29, Tryz.ntmps29
    go_wp2_with fail
    refine (unhide HK).mono ?_
    rintro e w1 ⟨rfl, rfl⟩
    go_wp2_with fail
    go_ret
    exact ⟨rfl, unhide HH, Beside.refl _ _⟩
set_option maxRecDepth 100000 in
set_option maxHeartbeats 400000 in
theorem takeLetters_any (h : VRow w o 44 (oZ l)) : Calls Tryz.prog 15 #[.pointer (some ⟨o, 0, none⟩)] w (StepMade o w (if [104, 115].isPrefixOf l then l.drop 2 else l) (if [104, 115].isPrefixOf l then 0 else 7)) := by
  have HK : Hid (Calls Tryz.prog 29 #[.pointer (some ⟨o, 0, none⟩), .string ⟨#[104, 115]⟩, .int .i64 7] w (StepMade o w (if [104, 115].isPrefixOf l then l.drop 2 else l) (if [104, 115].isPrefixOf l then 0 else 7))) := hide (cutStep_any h [104, 115] 7)
  clear h
  generalize (if [104, 115].isPrefixOf l then l.drop 2 else l) = l' at HK ⊢
  generalize (if [104, 115].isPrefixOf l then (0 : Int) else 7) = r at HK ⊢
  go_enter Tryz.func15, Tryz.ntmps15
  go_wp2_with fail
  refine (unhide HK).mono ?_
  rintro e w1 ⟨rfl, hr, hb⟩
  have HR := hide hr
  have HB := hide hb
  clear hr hb
  go_wp2_with fail
  go_ret
  exact ⟨rfl, unhide HR, unhide HB⟩
set_option maxRecDepth 100000 in
set_option maxHeartbeats 400000 in
theorem takeKind_any (h : VRow w o 44 (oZ l)) : Calls Tryz.prog 16 #[.pointer (some ⟨o, 0, none⟩)] w (StepMade o w (if [1].isPrefixOf l then l.drop 1 else l) (if [1].isPrefixOf l then 0 else 15)) := by
  have HK : Hid (Calls Tryz.prog 29 #[.pointer (some ⟨o, 0, none⟩), .string ⟨#[1]⟩, .int .i64 15] w (StepMade o w (if [1].isPrefixOf l then l.drop 1 else l) (if [1].isPrefixOf l then 0 else 15))) := hide (cutStep_any h [1] 15)
  clear h
  generalize (if [1].isPrefixOf l then l.drop 1 else l) = l' at HK ⊢
  generalize (if [1].isPrefixOf l then (0 : Int) else 15) = r at HK ⊢
  go_enter Tryz.func16, Tryz.ntmps16
  go_wp2_with fail
  refine (unhide HK).mono ?_
  rintro e w1 ⟨rfl, hr, hb⟩
  have HR := hide hr
  have HB := hide hb
  clear hr hb
  go_wp2_with fail
  go_ret
  exact ⟨rfl, unhide HR, unhide HB⟩
set_option maxRecDepth 100000 in
set_option maxHeartbeats 400000 in
theorem takeText_any (h : VRow w o 44 (oZ l)) (hl : l.length ≤ 40000000) : Calls Tryz.prog 17 #[.pointer (some ⟨o, 0, none⟩)] w (StepMade o w (textF l).1 (textF l).2) := by
  have HH := hide h
  have HL := hide h.lt
  have x0 := h.cell 0 _ rfl
  have HK := hide (rnew_d (str l) w)
  rw [str_data] at HK
  have HLL : Hid (((l, 0) : St).1.length ≤ 50000000) := hide (by show l.length ≤ _; omega)
  unfold textF
  dsimp only
  clear h hl
  go_enter Tryz.func17, Tryz.ntmps17
  go_wp2_with fail
  refine (unhide HK).mono ?_
  rintro e w1 ⟨rfl, hd, hb⟩
  have HH1 := hide ((unhide HH).after hb)
  have HB := hide hb
  have KT := hide (rtext_d hd (unhide HLL) 131072)
  clear hd hb x0
  go_wp2_with fail
  refine (unhide KT).mono ?_
  rintro e w2 ⟨rfl, hd, hb⟩
  have HD := hide hd
  have HH2 := hide ((unhide HH1).beside hb (by have h9 : o < w.heap.size := unhide HL; omega))
  have HB2 := hide ((unhide HB).trans (hb.below (unhide HB).size (by rintro g rfl; exact Nat.le_refl _)))
  have x2 := (unhide HH2).cell 0 _ rfl
  have f2 := (unhide HH2).frozen 0
  have KD := hide fun (v : Value) => rdone_at (st := (rText (l, 0) 131072).2) (w := w2.setCell ⟨o, 0, none⟩ v) (VRow.setNe (unhide HD) (B := o) (by have h9 : o < w.heap.size := unhide HL; omega) 0 v)
  clear hd hb
  go_wp2_with fail
  refine (unhide KD _).mono ?_
  rintro e w3 ⟨rfl, rfl⟩
  go_wp2_with fail
  go_ret
  exact ⟨rfl, left_set (unhide HH2) _ rfl, (beside_of (unhide HB2)).trans (beside_set o 0 w2 _)⟩
def FoundMade (o : Nat) (w : World) (l : List UInt8) (x : Msg × Int) (e : Ending) (w' : World) : Prop :=
  ∃ a c b d, e = .returned (.int .i64 x.2) ∧ VRow w' o 44 (oL l x.1 a c b d) ∧ Fresh w.heap.size a x.1.ctx ∧ RProv (fun g => w.heap.size ≤ g) w' b x.1.rows ∧ Sl w' a x.1.ctx ∧ RL w' b x.1.rows ∧ Beside (· = o) w w'
theorem store_found {ops : Array Oper} {rest : List Oper} {op : Oper} {A : Act} {Q : Exit → Act → World → Prop} (hgd : op.guard = none) (x y : Operand) (ho : op.op = .store 28 x y)
    (B : Nat) (hx : A.eval x = .pointer (some ⟨B, 1, none⟩)) (vs : List Value) (hy : A.eval y = .agg vs.toArray) (hn : vs.length = 41) (h1 : ∀ v ∈ vs, v.oneCell' = true) {z : Value} {us : List Value} (hr : VRow w B 44 (z :: us)) (hm : us.length = 41)
    (h : ∀ w', VRow w' B 44 (z :: vs) → Beside (· = B) w w' → wpList Tryz.prog ops Q rest (A.put op.dst undef) w') : wpList Tryz.prog ops Q (op :: rest) A w := by
  refine wpList_store_mid hgd 28 x y ho B 1 _ hx hy ?_ (by rw [sizeM]; simp [hn]) (all_oneCell_toArray h1) ?_
  · have ht : w.there B 1 41 := fun j hj => by
      refine ⟨?_, hr.frozen (1 + j)⟩
      obtain ⟨v, hv⟩ : ∃ v, us[j]? = some v := ⟨_, List.getElem?_eq_getElem (by omega)⟩
      rw [hr.cell (1 + j) v (by rw [Nat.add_comm]; exact hv)]
      rfl
    simpa [hn] using ht
  · have h2 := vrow_setCells (T := 44) (B := B) vs [z] us [] w (by omega) (by simpa using hr)
    simp only [List.append_nil, List.singleton_append, List.length_singleton] at h2
    exact h _ h2.1 h2.2
set_option maxRecDepth 100000 in
set_option maxHeartbeats 400000 in
theorem readMessage_any (h : VRow w o 44 (oZ l)) (hl : l.length ≤ 40000000) : Calls Tryz.prog 18 #[.pointer (some ⟨o, 0, none⟩)] w (FoundMade o w l (readM (l, 0))) := by
  have HH := hide h
  have HL := hide h.lt
  have x0 := h.cell 0 _ rfl
  have HK := hide (read_any (str l) (by rw [str_size]; exact hl) w)
  rw [str_data] at HK
  have HF := hide (readM_few (l, 0))
  generalize readM (l, 0) = X at HK HF ⊢
  obtain ⟨m, E⟩ := X
  clear h hl
  go_enter Tryz.func18, Tryz.ntmps18
  go_wp2_with fail
  refine (unhide HK).mono ?_
  rintro e w1 ⟨a, c, b, d, rfl, h1, h2, h3, h4, hb⟩
  dsimp only at h1 h2 h3 h4 ⊢
  have HH1 := hide ((unhide HH).after hb)
  have HX1 := hide h1
  have HX2 := hide h2
  have HX3 := hide h3
  have HX4 := hide h4
  have HB := hide hb
  have HLN := hide (mL_len (unhide HF).root a c b d)
  have HO := hide (mL_one m a c b d)
  clear h1 h2 h3 h4 hb x0
  go_wp2_with ((with_reducible refine atS27 ?_); (refine store_found (by rfl) (.tmp 13) (.tmp 10) (by rfl) o (by rfl) (mL m a c b d) (by rfl) (unhide HLN) (unhide HO) (unhide HH1) mZ_len ?_); intro w2 hv hq; have HV := hide hv; have HQ := hide hq; clear hv hq)
  go_ret
  have hlt : o < w.heap.size := unhide HL
  exact ⟨a, c, b, d, rfl, unhide HV, unhide HX1, (unhide HX2).beside (unhide HX4) (unhide HQ) (by omega), (unhide HX3).beside (unhide HQ) ((unhide HX1).ne hlt), (unhide HX4).beside (unhide HX2) (unhide HQ) (by omega), (beside_of (unhide HB)).trans (unhide HQ)⟩
end
end Go.Proofs.YthecijjmgfempaaGreat

/-
  The program's Reader: New, Fail, Err, Left and Done, and the generic take of numbers, texts and flags. Conditions: those that each theorem names.
-/
import Derived.Test.YtklkacmeopfmhaaGreatCP2
namespace Go.Proofs.YtklkacmeopfmhaaGreat
open Go.RowKit

/-- A Reader in its block. -/
abbrev RdAt (w : World) (q : Nat) (st : St) : Prop := VRow w q 63 [.string (str st.1), .int .i64 st.2]
def Rd (w : World) (p : Addr) (st : St) (own : Nat → Prop) : Prop := ∃ q, p = ⟨q, 0, none⟩ ∧ RdAt w q st ∧ ∀ g, own g ↔ g = q
theorem rd_lt {w : World} {p : Addr} {st : St} {own : Nat → Prop} (h : Rd w p st own) : ∀ g, own g → g < w.heap.size := by
  obtain ⟨q, rfl, h1, ho⟩ := h
  intro g hg
  rw [(ho g).1 hg]
  exact h1.lt
theorem rd_keep {w w' : World} {p : Addr} {st : St} {own : Nat → Prop} (h : Rd w p st own) (_ : w.heap.size ≤ w'.heap.size) (hk : ∀ g, own g → w'.heap[g]? = w.heap[g]?) : Rd w' p st own := by
  obtain ⟨q, rfl, h1, ho⟩ := h
  exact ⟨q, rfl, (hk q ((ho q).2 rfl)).trans h1, ho⟩
theorem rd_after {w w' : World} {p : Addr} {st : St} {own : Nat → Prop} (h : Rd w p st own) (hb : Below w.heap.size w w') : Rd w' p st own := rd_keep h hb.size fun g hg => hb.block g (rd_lt h g hg)

set_option maxRecDepth 100000 in
theorem rnew_any (s : ByteArray) (w : World) : Calls Tryz.prog 10 #[.string s] w fun e w' => ∃ p own, e = .returned (.pointer (some p)) ∧ Rd w' p (s.data.toList, 0) own ∧ (∀ g, own g → w.heap.size ≤ g) ∧ Below w.heap.size w w' := by
  go_enter Tryz.func10, Tryz.ntmps10
  go_wp2_with fail
  go_ret
  refine ⟨⟨w.heap.size, 0, none⟩, fun g => g = w.heap.size, rfl, ⟨w.heap.size, rfl, ?_, fun g => Iff.rfl⟩, fun g hg => Nat.le_of_eq hg.symm, below_alloc' _⟩
  show VRow _ _ _ [.string (str s.data.toList), .int .i64 0]
  rw [str_of]
  exact VRow.new w 63 [.string s, .int .i64 0]

set_option maxRecDepth 100000 in
theorem rerr_at {w : World} {q : Nat} {st : St} (h : RdAt w q st) : Calls Tryz.prog 14 #[.pointer (some ⟨q, 0, none⟩)] w fun x w' => x = .returned (.int .i64 st.2) ∧ w' = w := by
  have c1 := h.cell 1 _ rfl
  clear h
  go_enter Tryz.func14, Tryz.ntmps14
  go_wp2_with fail
  go_ret
  exact ⟨rfl, rfl⟩
set_option maxRecDepth 100000 in
theorem rerr_nil (w : World) : Calls Tryz.prog 14 #[.pointer none] w fun x w' => x = .returned (.int .i64 13) ∧ w' = w := by
  go_enter Tryz.func14, Tryz.ntmps14
  go_wp2_with fail
  go_ret
  exact ⟨rfl, rfl⟩
set_option maxRecDepth 100000 in
theorem rleft_at {w : World} {q : Nat} {st : St} (h : RdAt w q st) : Calls Tryz.prog 15 #[.pointer (some ⟨q, 0, none⟩)] w fun x w' => x = .returned (.int .i64 st.1.length) ∧ w' = w := by
  have c0 := h.cell 0 _ rfl
  have hsz := str_size st.1
  generalize str st.1 = S at c0 hsz
  rw [← hsz]
  clear h hsz
  go_enter Tryz.func15, Tryz.ntmps15
  go_wp2_with fail
  go_ret
  exact ⟨rfl, rfl⟩
set_option maxRecDepth 100000 in
theorem rleft_nil (w : World) : Calls Tryz.prog 15 #[.pointer none] w fun x w' => x = .returned (.int .i64 0) ∧ w' = w := by
  go_enter Tryz.func15, Tryz.ntmps15
  go_wp2_with fail
  go_ret
  exact ⟨rfl, rfl⟩

set_option maxRecDepth 100000 in
set_option maxHeartbeats 400000 in
theorem rfail_any {w : World} {p : Addr} {st : St} {own : Nat → Prop} (h : Rd w p st own) (x : Int) :
    Calls Tryz.prog 27 #[.pointer (some p), .int .i64 x] w (Turned Rd own p w (fail st x) (.tuple #[])) := by
  have HW := hide h
  obtain ⟨b, e⟩ := st
  obtain ⟨q, rfl, h1, ho⟩ := h
  have K := hide (rerr_at h1)
  have f1 := h1.frozen 1
  have c1 := h1.cell 1 _ rfl
  have HA := hide h1
  dsimp only at K c1
  clear h1
  by_cases he : e = 0
  · subst he
    rw [show fail (b, 0) x = (b, x) from rfl]
    go_enter Tryz.func27, Tryz.ntmps27
    go_wp2_with (go_at_call 14; refine (unhide K).mono ?_; rintro y w1 ⟨rfl, rfl⟩)
    go_end0
    refine ⟨own, rfl, ⟨q, rfl, (unhide HA).set 1 (.int .i64 x), ho⟩, fun g hg => .inl hg, ?_⟩
    refine ⟨rfl, rfl, rfl, by simp, fun k hk hk2 => ?_⟩
    rw [heap_setCell_other _ ⟨q, 1, none⟩ k _ (fun h => hk2 ((ho k).2 h))]
  · rw [show fail (b, e) x = (b, e) from if_neg he]
    have hne : (e == 0) = false := by simp [he]
    go_enter Tryz.func27, Tryz.ntmps27
    go_wp2_with (go_at_call 14; refine (unhide K).mono ?_; rintro y w1 ⟨rfl, rfl⟩)
    go_end0
    exact turned_refl (unhide HW) (Below.refl _ _)
set_option maxRecDepth 100000 in
theorem rfail_nil (x : Int) (w : World) : Calls Tryz.prog 27 #[.pointer none, .int .i64 x] w (Told w (.tuple #[])) := by
  have K := hide (rerr_nil w)
  obtain ⟨e0, he0⟩ : ∃ e0 : Int, e0 = 13 := ⟨_, rfl⟩
  rw [← he0] at K
  have hne : (e0 == 0) = false := by rw [he0]; rfl
  clear he0
  go_enter Tryz.func27, Tryz.ntmps27
  go_wp2_with (go_at_call 14; refine (unhide K).mono ?_; rintro y w1 ⟨rfl, rfl⟩)
  go_end0
  exact ⟨rfl, Below.refl _ _⟩

/-- What is left behind a piece of k bytes, or what was wrong with it. -/
def cut (st : St) (k : Nat) (x : Int) : St := if st.2 ≠ 0 then st else if x ≠ 0 then (st.1, x) else (st.1.drop k, 0)
/-- What is taken. -/
def got {α : Type} (st : St) (x : Int) (none v : α) : α := if st.2 ≠ 0 then none else if x ≠ 0 then none else v

set_option maxRecDepth 100000 in
set_option maxHeartbeats 400000 in
theorem takeN_any {w : World} {p : Addr} {st : St} {own : Nat → Prop} (h : Rd w p st own) (B : Nat) (v : Int) (k : Nat) (x : Int) (hs : st.1.length ≤ 50000000) (hk : x = 0 → k ≤ st.1.length)
    (K : st.2 = 0 → Calls Tryz.prog 91 #[.string (str st.1), .pointer (some ⟨B, 0, none⟩)] w fun e w' => e = .returned (.tuple #[.int .i64 v, .int .i64 k, .int .i64 x]) ∧ Below w.heap.size w w') :
    Calls Tryz.prog 90 #[.pointer (some p), .func (.func 91) #[] #[.pointer (some ⟨B, 0, none⟩)]] w (Turned Rd own p w (cut st k x) (.int .i64 (got st x 0 v))) := by
  have HW := hide h
  obtain ⟨b, e⟩ := st
  obtain ⟨q, rfl, h1, ho⟩ := h
  have KE := hide (rerr_at h1)
  have c0 := h1.cell 0 _ rfl
  dsimp only at KE c0 hs hk K
  by_cases he : e = 0
  · subst he
    have KA := hide (K rfl)
    have HA := hide h1
    clear K h1
    by_cases hx : x = 0
    · subst hx
      have hk' := hk rfl
      rw [show cut (b, 0) k 0 = (b.drop k, 0) from rfl]
      have hsz := str_size b
      have hks : k ≤ (str b).size := by rw [str_size]; exact hk'
      have HX : Hid ((str b).extract k (str b).size = str (b.drop k)) := hide (ext_tail b k)
      have HH := hide hs
      clear hk hk' hs
      go_enter Tryz.func90, Tryz.ntmps90
      go_wp2_with (first
        | (go_at_call 14; refine (unhide KE).mono ?_; rintro y w1 ⟨rfl, rfl⟩)
        | (go_at_call 91; refine (unhide KA).mono ?_; rintro y w1 ⟨rfl, hb⟩; have HB := hide hb; have HR := hide ((unhide HA).after hb); have c1 := (unhide HR).cell 0 _ rfl; have f1 := (unhide HR).frozen 0; dsimp only at c1; clear hb))
      go_ret
      refine ⟨own, by rfl, ⟨q, rfl, ?_, ho⟩, fun g hg => .inl hg, ?_⟩
      · have h2 := (unhide HR).set 0 (.string (str (b.drop k)))
        rw [← unhide HX] at h2
        show VRow _ q 63 [.string (str (b.drop k)), .int .i64 0]
        rw [← unhide HX]
        exact h2
      · refine ⟨(unhide HB).os, (unhide HB).tape, (unhide HB).output, by simpa using (unhide HB).size, fun j hj hj2 => ?_⟩
        rw [heap_setCell_other _ ⟨q, 0, none⟩ j _ (fun h => hj2 ((ho j).2 h))]
        exact (unhide HB).block j hj
    · have hne : (x != 0) = true := by simp [hx]
      rw [show cut (b, 0) k x = (b, x) from by simp [cut, hx], show (got (b, 0) x 0 v) = 0 from by simp [got, hx]]
      clear hk hs
      go_enter Tryz.func90, Tryz.ntmps90
      go_wp2_with (first
        | (go_at_call 14; refine (unhide KE).mono ?_; rintro y w1 ⟨rfl, rfl⟩)
        | (go_at_call 91; refine (unhide KA).mono ?_; rintro y w1 ⟨rfl, hb⟩; have HB := hide hb; clear hb)
        | (go_at_call 27; refine (rfail_any (rd_after (unhide HW) (unhide HB)) x).mono ?_; intro e w2 hm; have HM := hide (turned_of (unhide HB) hm); clear hm; obtain rfl : e = .returned (.tuple #[]) := (unhide HM).choose_spec.1))
      go_ret
      obtain ⟨own', _, h3, h4, h5⟩ := unhide HM
      exact ⟨own', rfl, h3, h4, h5⟩
  · have hne : (e != 0) = true := by simp [he]
    rw [show cut (b, e) k x = (b, e) from if_pos he, show (got (b, e) x 0 v) = 0 from by simp [got, he]]
    clear K hk h1
    go_enter Tryz.func90, Tryz.ntmps90
    go_wp2_with (go_at_call 14; refine (unhide KE).mono ?_; rintro y w1 ⟨rfl, rfl⟩)
    go_ret
    exact turned_refl (unhide HW) (Below.refl _ _)
set_option maxRecDepth 100000 in
theorem takeN_nil (B : Nat) (w : World) : Calls Tryz.prog 90 #[.pointer none, .func (.func 91) #[] #[.pointer (some ⟨B, 0, none⟩)]] w (Told w (.int .i64 0)) := by
  have KE := hide (rerr_nil w)
  go_enter Tryz.func90, Tryz.ntmps90
  go_wp2_with (go_at_call 14; refine (unhide KE).mono ?_; rintro y w1 ⟨rfl, rfl⟩)
  go_ret
  exact ⟨rfl, Below.refl _ _⟩

set_option maxRecDepth 100000 in
set_option maxHeartbeats 400000 in
theorem takeT_any {w : World} {p : Addr} {st : St} {own : Nat → Prop} (h : Rd w p st own) (B : Nat) (v : ByteArray) (k : Nat) (x : Int) (hs : st.1.length ≤ 50000000) (hk : x = 0 → k ≤ st.1.length)
    (K : st.2 = 0 → Calls Tryz.prog 50 #[.string (str st.1), .pointer (some ⟨B, 0, none⟩)] w fun e w' => e = .returned (.tuple #[.string v, .int .i64 k, .int .i64 x]) ∧ Below w.heap.size w w') :
    Calls Tryz.prog 49 #[.pointer (some p), .func (.func 50) #[] #[.pointer (some ⟨B, 0, none⟩)]] w (Turned Rd own p w (cut st k x) (.string (got st x ⟨#[]⟩ v))) := by
  have HW := hide h
  obtain ⟨b, e⟩ := st
  obtain ⟨q, rfl, h1, ho⟩ := h
  have KE := hide (rerr_at h1)
  have c0 := h1.cell 0 _ rfl
  dsimp only at KE c0 hs hk K
  by_cases he : e = 0
  · subst he
    have KA := hide (K rfl)
    have HA := hide h1
    clear K h1
    by_cases hx : x = 0
    · subst hx
      have hk' := hk rfl
      rw [show cut (b, 0) k 0 = (b.drop k, 0) from rfl]
      have hsz := str_size b
      have hks : k ≤ (str b).size := by rw [str_size]; exact hk'
      have HX : Hid ((str b).extract k (str b).size = str (b.drop k)) := hide (ext_tail b k)
      have HH := hide hs
      clear hk hk' hs
      go_enter Tryz.func49, Tryz.ntmps49
      go_wp2_with (first
        | (go_at_call 14; refine (unhide KE).mono ?_; rintro y w1 ⟨rfl, rfl⟩)
        | (go_at_call 50; refine (unhide KA).mono ?_; rintro y w1 ⟨rfl, hb⟩; have HB := hide hb; have HR := hide ((unhide HA).after hb); have c1 := (unhide HR).cell 0 _ rfl; have f1 := (unhide HR).frozen 0; dsimp only at c1; clear hb))
      go_ret
      refine ⟨own, by rfl, ⟨q, rfl, ?_, ho⟩, fun g hg => .inl hg, ?_⟩
      · have h2 := (unhide HR).set 0 (.string (str (b.drop k)))
        rw [← unhide HX] at h2
        show VRow _ q 63 [.string (str (b.drop k)), .int .i64 0]
        rw [← unhide HX]
        exact h2
      · refine ⟨(unhide HB).os, (unhide HB).tape, (unhide HB).output, by simpa using (unhide HB).size, fun j hj hj2 => ?_⟩
        rw [heap_setCell_other _ ⟨q, 0, none⟩ j _ (fun h => hj2 ((ho j).2 h))]
        exact (unhide HB).block j hj
    · have hne : (x != 0) = true := by simp [hx]
      rw [show cut (b, 0) k x = (b, x) from by simp [cut, hx], show (got (b, 0) x ⟨#[]⟩ v) = ⟨#[]⟩ from by simp [got, hx]]
      clear hk hs
      go_enter Tryz.func49, Tryz.ntmps49
      go_wp2_with (first
        | (go_at_call 14; refine (unhide KE).mono ?_; rintro y w1 ⟨rfl, rfl⟩)
        | (go_at_call 50; refine (unhide KA).mono ?_; rintro y w1 ⟨rfl, hb⟩; have HB := hide hb; clear hb)
        | (go_at_call 27; refine (rfail_any (rd_after (unhide HW) (unhide HB)) x).mono ?_; intro e w2 hm; have HM := hide (turned_of (unhide HB) hm); clear hm; obtain rfl : e = .returned (.tuple #[]) := (unhide HM).choose_spec.1))
      go_ret
      obtain ⟨own', _, h3, h4, h5⟩ := unhide HM
      exact ⟨own', rfl, h3, h4, h5⟩
  · have hne : (e != 0) = true := by simp [he]
    rw [show cut (b, e) k x = (b, e) from if_pos he, show (got (b, e) x ⟨#[]⟩ v) = ⟨#[]⟩ from by simp [got, he]]
    clear K hk h1
    go_enter Tryz.func49, Tryz.ntmps49
    go_wp2_with (go_at_call 14; refine (unhide KE).mono ?_; rintro y w1 ⟨rfl, rfl⟩)
    go_ret
    exact turned_refl (unhide HW) (Below.refl _ _)
set_option maxRecDepth 100000 in
theorem takeT_nil (B : Nat) (w : World) : Calls Tryz.prog 49 #[.pointer none, .func (.func 50) #[] #[.pointer (some ⟨B, 0, none⟩)]] w (Told w (.string ⟨#[]⟩)) := by
  have KE := hide (rerr_nil w)
  go_enter Tryz.func49, Tryz.ntmps49
  go_wp2_with (go_at_call 14; refine (unhide KE).mono ?_; rintro y w1 ⟨rfl, rfl⟩)
  go_ret
  exact ⟨rfl, Below.refl _ _⟩

set_option maxRecDepth 100000 in
set_option maxHeartbeats 400000 in
theorem takeF_any {w : World} {p : Addr} {st : St} {own : Nat → Prop} (h : Rd w p st own) (v : Bool) (k : Nat) (x : Int) (hs : st.1.length ≤ 50000000) (hk : x = 0 → k ≤ st.1.length)
    (K : st.2 = 0 → Calls Tryz.prog 94 #[.string (str st.1)] w fun e w' => e = .returned (.tuple #[.bool v, .int .i64 k, .int .i64 x]) ∧ Below w.heap.size w w') :
    Calls Tryz.prog 93 #[.pointer (some p), .func (.func 94) #[] #[]] w (Turned Rd own p w (cut st k x) (.bool (got st x false v))) := by
  have HW := hide h
  obtain ⟨b, e⟩ := st
  obtain ⟨q, rfl, h1, ho⟩ := h
  have KE := hide (rerr_at h1)
  have c0 := h1.cell 0 _ rfl
  dsimp only at KE c0 hs hk K
  by_cases he : e = 0
  · subst he
    have KA := hide (K rfl)
    have HA := hide h1
    clear K h1
    by_cases hx : x = 0
    · subst hx
      have hk' := hk rfl
      rw [show cut (b, 0) k 0 = (b.drop k, 0) from rfl]
      have hsz := str_size b
      have hks : k ≤ (str b).size := by rw [str_size]; exact hk'
      have HX : Hid ((str b).extract k (str b).size = str (b.drop k)) := hide (ext_tail b k)
      have HH := hide hs
      clear hk hk' hs
      go_enter Tryz.func93, Tryz.ntmps93
      go_wp2_with (first
        | (go_at_call 14; refine (unhide KE).mono ?_; rintro y w1 ⟨rfl, rfl⟩)
        | (go_at_call 94; refine (unhide KA).mono ?_; rintro y w1 ⟨rfl, hb⟩; have HB := hide hb; have HR := hide ((unhide HA).after hb); have c1 := (unhide HR).cell 0 _ rfl; have f1 := (unhide HR).frozen 0; dsimp only at c1; clear hb))
      go_ret
      refine ⟨own, by rfl, ⟨q, rfl, ?_, ho⟩, fun g hg => .inl hg, ?_⟩
      · have h2 := (unhide HR).set 0 (.string (str (b.drop k)))
        rw [← unhide HX] at h2
        show VRow _ q 63 [.string (str (b.drop k)), .int .i64 0]
        rw [← unhide HX]
        exact h2
      · refine ⟨(unhide HB).os, (unhide HB).tape, (unhide HB).output, by simpa using (unhide HB).size, fun j hj hj2 => ?_⟩
        rw [heap_setCell_other _ ⟨q, 0, none⟩ j _ (fun h => hj2 ((ho j).2 h))]
        exact (unhide HB).block j hj
    · have hne : (x != 0) = true := by simp [hx]
      rw [show cut (b, 0) k x = (b, x) from by simp [cut, hx], show (got (b, 0) x false v) = false from by simp [got, hx]]
      clear hk hs
      go_enter Tryz.func93, Tryz.ntmps93
      go_wp2_with (first
        | (go_at_call 14; refine (unhide KE).mono ?_; rintro y w1 ⟨rfl, rfl⟩)
        | (go_at_call 94; refine (unhide KA).mono ?_; rintro y w1 ⟨rfl, hb⟩; have HB := hide hb; clear hb)
        | (go_at_call 27; refine (rfail_any (rd_after (unhide HW) (unhide HB)) x).mono ?_; intro e w2 hm; have HM := hide (turned_of (unhide HB) hm); clear hm; obtain rfl : e = .returned (.tuple #[]) := (unhide HM).choose_spec.1))
      go_ret
      obtain ⟨own', _, h3, h4, h5⟩ := unhide HM
      exact ⟨own', rfl, h3, h4, h5⟩
  · have hne : (e != 0) = true := by simp [he]
    rw [show cut (b, e) k x = (b, e) from if_pos he, show (got (b, e) x false v) = false from by simp [got, he]]
    clear K hk h1
    go_enter Tryz.func93, Tryz.ntmps93
    go_wp2_with (go_at_call 14; refine (unhide KE).mono ?_; rintro y w1 ⟨rfl, rfl⟩)
    go_ret
    exact turned_refl (unhide HW) (Below.refl _ _)
set_option maxRecDepth 100000 in
theorem takeF_nil (w : World) : Calls Tryz.prog 93 #[.pointer none, .func (.func 94) #[] #[]] w (Told w (.bool false)) := by
  have KE := hide (rerr_nil w)
  go_enter Tryz.func93, Tryz.ntmps93
  go_wp2_with (go_at_call 14; refine (unhide KE).mono ?_; rintro y w1 ⟨rfl, rfl⟩)
  go_ret
  exact ⟨rfl, Below.refl _ _⟩
end Go.Proofs.YtklkacmeopfmhaaGreat

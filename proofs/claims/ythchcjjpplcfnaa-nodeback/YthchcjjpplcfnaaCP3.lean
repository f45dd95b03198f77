/-
  The program's Reader: New, Fail, Err, Left and Done, and the generic take of numbers, texts and flags. Conditions: those that each theorem names.
-/
import Derived.Test.YthchcjjpplcfnaaCP1
import Derived.Test.YthchcjjpplcfnaaCRow
import Derived.Shelf.Strconv.Clone
import Derived.Lib.BufferWrite
namespace Go.Proofs.Ythchcjjpplcfnaa
open Go.RowKit

/-- A Reader in its block. -/
abbrev RdAt (w : World) (q : Nat) (st : St) : Prop := VRow w q 75 [.string (str st.1), .int .i64 st.2]
def Rd (w : World) (p : Addr) (st : St) (own : Nat → Prop) : Prop := ∃ q, p = ⟨q, 0, none⟩ ∧ RdAt w q st ∧ ∀ g, own g ↔ g = q
theorem rd_lt {w : World} {p : Addr} {st : St} {own : Nat → Prop} (h : Rd w p st own) : ∀ g, own g → g < w.heap.size := by
  obtain ⟨q, rfl, h1, ho⟩ := h
  intro g hg
  rw [(ho g).1 hg]
  exact h1.lt
theorem rd_keep {w w' : World} {p : Addr} {st : St} {own : Nat → Prop} (h : Rd w p st own) (_ : w.heap.size ≤ w'.heap.size) (hk : ∀ g, own g → w'.heap[g]? = w.heap[g]?) : Rd w' p st own := by
  obtain ⟨q, rfl, h1, ho⟩ := h
  exact ⟨q, rfl, (hk q ((ho q).2 rfl)).trans h1, ho⟩
theorem rd_after {w w' : World} {p : Addr} {st : St} {own : Nat → Prop} (h : Rd w p st own) (hb : Below w.heap.size w w') : Rd w' p st own := rd_keep h hb.size fun g hg => hb.block g (rd_lt h g hg)

set_option maxRecDepth 100000 in
theorem rnew_any (s : ByteArray) (w : World) : Calls Try.prog 21 #[.string s] w fun e w' => ∃ p own, e = .returned (.pointer (some p)) ∧ Rd w' p (s.data.toList, 0) own ∧ (∀ g, own g → w.heap.size ≤ g) ∧ Below w.heap.size w w' := by
  go_enter Try.func21, Try.ntmps21
  go_wp2_with fail
  go_ret
  refine ⟨⟨w.heap.size, 0, none⟩, fun g => g = w.heap.size, rfl, ⟨w.heap.size, rfl, ?_, fun g => Iff.rfl⟩, fun g hg => Nat.le_of_eq hg.symm, below_alloc' _⟩
  show VRow _ _ _ [.string (str s.data.toList), .int .i64 0]
  rw [str_of]
  exact VRow.new w 75 [.string s, .int .i64 0]

set_option maxRecDepth 100000 in
theorem rerr_at {w : World} {q : Nat} {st : St} (h : RdAt w q st) : Calls Try.prog 49 #[.pointer (some ⟨q, 0, none⟩)] w fun x w' => x = .returned (.int .i64 st.2) ∧ w' = w := by
  have c1 := h.cell 1 _ rfl
  clear h
  go_enter Try.func49, Try.ntmps49
  go_wp2_with fail
  go_ret
  exact ⟨rfl, rfl⟩
set_option maxRecDepth 100000 in
theorem rerr_nil (w : World) : Calls Try.prog 49 #[.pointer none] w fun x w' => x = .returned (.int .i64 13) ∧ w' = w := by
  go_enter Try.func49, Try.ntmps49
  go_wp2_with fail
  go_ret
  exact ⟨rfl, rfl⟩
set_option maxRecDepth 100000 in
theorem rleft_at {w : World} {q : Nat} {st : St} (h : RdAt w q st) : Calls Try.prog 50 #[.pointer (some ⟨q, 0, none⟩)] w fun x w' => x = .returned (.int .i64 st.1.length) ∧ w' = w := by
  have c0 := h.cell 0 _ rfl
  have hsz := str_size st.1
  generalize str st.1 = S at c0 hsz
  rw [← hsz]
  clear h hsz
  go_enter Try.func50, Try.ntmps50
  go_wp2_with fail
  go_ret
  exact ⟨rfl, rfl⟩
set_option maxRecDepth 100000 in
theorem rleft_nil (w : World) : Calls Try.prog 50 #[.pointer none] w fun x w' => x = .returned (.int .i64 0) ∧ w' = w := by
  go_enter Try.func50, Try.ntmps50
  go_wp2_with fail
  go_ret
  exact ⟨rfl, rfl⟩

set_option maxRecDepth 100000 in
set_option maxHeartbeats 400000 in
theorem rfail_any {w : World} {p : Addr} {st : St} {own : Nat → Prop} (h : Rd w p st own) (x : Int) :
    Calls Try.prog 67 #[.pointer (some p), .int .i64 x] w (Turned Rd own p w (fail st x) (.tuple #[])) := by
  have HW := hide h
  obtain ⟨b, e⟩ := st
  obtain ⟨q, rfl, h1, ho⟩ := h
  have K := hide (rerr_at h1)
  have f1 := h1.frozen 1
  have c1 := h1.cell 1 _ rfl
  have HA := hide h1
  dsimp only at K c1
  clear h1
  by_cases he : e = 0
  · subst he
    rw [show fail (b, 0) x = (b, x) from rfl]
    go_enter Try.func67, Try.ntmps67
    go_wp2_with (go_at_call 49; refine (unhide K).mono ?_; rintro y w1 ⟨rfl, rfl⟩)
    go_end0
    refine ⟨own, rfl, ⟨q, rfl, (unhide HA).set 1 (.int .i64 x), ho⟩, fun g hg => .inl hg, ?_⟩
    refine ⟨rfl, rfl, rfl, by simp, fun k hk hk2 => ?_⟩
    rw [heap_setCell_other _ ⟨q, 1, none⟩ k _ (fun h => hk2 ((ho k).2 h))]
  · rw [show fail (b, e) x = (b, e) from if_neg he]
    have hne : (e == 0) = false := by simp [he]
    go_enter Try.func67, Try.ntmps67
    go_wp2_with (go_at_call 49; refine (unhide K).mono ?_; rintro y w1 ⟨rfl, rfl⟩)
    go_end0
    exact turned_refl (unhide HW) (Below.refl _ _)
set_option maxRecDepth 100000 in
theorem rfail_nil (x : Int) (w : World) : Calls Try.prog 67 #[.pointer none, .int .i64 x] w (Told w (.tuple #[])) := by
  have K := hide (rerr_nil w)
  obtain ⟨e0, he0⟩ : ∃ e0 : Int, e0 = 13 := ⟨_, rfl⟩
  rw [← he0] at K
  have hne : (e0 == 0) = false := by rw [he0]; rfl
  clear he0
  go_enter Try.func67, Try.ntmps67
  go_wp2_with (go_at_call 49; refine (unhide K).mono ?_; rintro y w1 ⟨rfl, rfl⟩)
  go_end0
  exact ⟨rfl, Below.refl _ _⟩

set_option maxRecDepth 100000 in
theorem rdone_at {w : World} {q : Nat} {st : St} (h : RdAt w q st) : Calls Try.prog 25 #[.pointer (some ⟨q, 0, none⟩)] w fun x w' => x = .returned (.int .i64 (rDone st)) ∧ w' = w := by
  have K := hide (rerr_at h)
  have KL := hide (rleft_at h)
  obtain ⟨b, e⟩ := st
  dsimp only at K KL
  clear h
  by_cases he : e = 0
  · subst he
    cases b with
    | nil =>
      rw [show rDone ([], 0) = 0 from rfl]
      go_enter Try.func25, Try.ntmps25
      go_wp2_with (first
        | (go_at_call 49; refine (unhide K).mono ?_; rintro y w1 ⟨rfl, rfl⟩)
        | (go_at_call 50; refine (unhide KL).mono ?_; rintro y w2 ⟨rfl, rfl⟩))
      go_ret
      exact ⟨rfl, rfl⟩
    | cons x r =>
      rw [show rDone (x :: r, 0) = 6 from by simp [rDone]]
      obtain ⟨n, hn⟩ : ∃ n : Nat, (x :: r).length = n + 1 := ⟨_, rfl⟩
      rw [hn] at KL
      have hd : decide ((0 : Int) < ((n + 1 : Nat) : Int)) = true := decide_eq_true (by omega)
      clear hn
      generalize ((n + 1 : Nat) : Int) = N at KL hd
      have hd' : (0 : Int) < N := of_decide_eq_true hd
      go_enter Try.func25, Try.ntmps25
      go_wp2_with (first
        | (go_at_call 49; refine (unhide K).mono ?_; rintro y w1 ⟨rfl, rfl⟩)
        | (go_at_call 50; refine (unhide KL).mono ?_; rintro y w2 ⟨rfl, rfl⟩))
      go_ret
      exact ⟨rfl, rfl⟩
  · rw [show rDone (b, e) = e from if_neg (by simp [he])]
    have hne : (e != 0) = true := by simp [he]
    go_enter Try.func25, Try.ntmps25
    go_wp2_with (go_at_call 49; refine (unhide K).mono ?_; rintro y w1 ⟨rfl, rfl⟩)
    go_ret
    exact ⟨rfl, rfl⟩
set_option maxRecDepth 100000 in
theorem rdone_nil (w : World) : Calls Try.prog 25 #[.pointer none] w (Told w (.int .i64 13)) := by
  have K := hide (rerr_nil w)
  go_enter Try.func25, Try.ntmps25
  go_wp2_with (go_at_call 49; refine (unhide K).mono ?_; rintro y w1 ⟨rfl, rfl⟩)
  go_ret
  exact ⟨rfl, Below.refl _ _⟩

/-- What is left behind a piece of k bytes, or what was wrong with it. -/
def cut (st : St) (k : Nat) (x : Int) : St := if st.2 ≠ 0 then st else if x ≠ 0 then (st.1, x) else (st.1.drop k, 0)
/-- What is taken. -/
def got {α : Type} (st : St) (x : Int) (none v : α) : α := if st.2 ≠ 0 then none else if x ≠ 0 then none else v

set_option maxRecDepth 100000 in
set_option maxHeartbeats 400000 in
theorem takeN_any {w : World} {p : Addr} {st : St} {own : Nat → Prop} (h : Rd w p st own) (B : Nat) (v : Int) (k : Nat) (x : Int) (hs : st.1.length ≤ 50000000) (hk : x = 0 → k ≤ st.1.length)
    (K : st.2 = 0 → Calls Try.prog 72 #[.string (str st.1), .pointer (some ⟨B, 0, none⟩)] w fun e w' => e = .returned (.tuple #[.int .i64 v, .int .i64 k, .int .i64 x]) ∧ Below w.heap.size w w') :
    Calls Try.prog 71 #[.pointer (some p), .func (.func 72) #[] #[.pointer (some ⟨B, 0, none⟩)]] w (Turned Rd own p w (cut st k x) (.int .i64 (got st x 0 v))) := by
  have HW := hide h
  obtain ⟨b, e⟩ := st
  obtain ⟨q, rfl, h1, ho⟩ := h
  have KE := hide (rerr_at h1)
  have c0 := h1.cell 0 _ rfl
  dsimp only at KE c0 hs hk K
  by_cases he : e = 0
  · subst he
    have KA := hide (K rfl)
    have HA := hide h1
    clear K h1
    by_cases hx : x = 0
    · subst hx
      have hk' := hk rfl
      rw [show cut (b, 0) k 0 = (b.drop k, 0) from rfl]
      have hsz := str_size b
      have hks : k ≤ (str b).size := by rw [str_size]; exact hk'
      have HX : Hid ((str b).extract k (str b).size = str (b.drop k)) := hide (ext_tail b k)
      have HH := hide hs
      clear hk hk' hs
      go_enter Try.func71, Try.ntmps71
      go_wp2_with (first
        | (go_at_call 49; refine (unhide KE).mono ?_; rintro y w1 ⟨rfl, rfl⟩)
        | (go_at_call 72; refine (unhide KA).mono ?_; rintro y w1 ⟨rfl, hb⟩; have HB := hide hb; have HR := hide ((unhide HA).after hb); have c1 := (unhide HR).cell 0 _ rfl; have f1 := (unhide HR).frozen 0; dsimp only at c1; clear hb))
      go_ret
      refine ⟨own, by rfl, ⟨q, rfl, ?_, ho⟩, fun g hg => .inl hg, ?_⟩
      · have h2 := (unhide HR).set 0 (.string (str (b.drop k)))
        rw [← unhide HX] at h2
        show VRow _ q 75 [.string (str (b.drop k)), .int .i64 0]
        rw [← unhide HX]
        exact h2
      · refine ⟨(unhide HB).os, (unhide HB).tape, (unhide HB).output, by simpa using (unhide HB).size, fun j hj hj2 => ?_⟩
        rw [heap_setCell_other _ ⟨q, 0, none⟩ j _ (fun h => hj2 ((ho j).2 h))]
        exact (unhide HB).block j hj
    · have hne : (x != 0) = true := by simp [hx]
      rw [show cut (b, 0) k x = (b, x) from by simp [cut, hx], show (got (b, 0) x 0 v) = 0 from by simp [got, hx]]
      clear hk hs
      go_enter Try.func71, Try.ntmps71
      go_wp2_with (first
        | (go_at_call 49; refine (unhide KE).mono ?_; rintro y w1 ⟨rfl, rfl⟩)
        | (go_at_call 72; refine (unhide KA).mono ?_; rintro y w1 ⟨rfl, hb⟩; have HB := hide hb; clear hb)
        | (go_at_call 67; refine (rfail_any (rd_after (unhide HW) (unhide HB)) x).mono ?_; intro e w2 hm; have HM := hide (turned_of (unhide HB) hm); clear hm; obtain rfl : e = .returned (.tuple #[]) := (unhide HM).choose_spec.1))
      go_ret
      obtain ⟨own', _, h3, h4, h5⟩ := unhide HM
      exact ⟨own', rfl, h3, h4, h5⟩
  · have hne : (e != 0) = true := by simp [he]
    rw [show cut (b, e) k x = (b, e) from if_pos he, show (got (b, e) x 0 v) = 0 from by simp [got, he]]
    clear K hk h1
    go_enter Try.func71, Try.ntmps71
    go_wp2_with (go_at_call 49; refine (unhide KE).mono ?_; rintro y w1 ⟨rfl, rfl⟩)
    go_ret
    exact turned_refl (unhide HW) (Below.refl _ _)
set_option maxRecDepth 100000 in
theorem takeN_nil (B : Nat) (w : World) : Calls Try.prog 71 #[.pointer none, .func (.func 72) #[] #[.pointer (some ⟨B, 0, none⟩)]] w (Told w (.int .i64 0)) := by
  have KE := hide (rerr_nil w)
  go_enter Try.func71, Try.ntmps71
  go_wp2_with (go_at_call 49; refine (unhide KE).mono ?_; rintro y w1 ⟨rfl, rfl⟩)
  go_ret
  exact ⟨rfl, Below.refl _ _⟩

set_option maxRecDepth 100000 in
set_option maxHeartbeats 400000 in
theorem takeT_any {w : World} {p : Addr} {st : St} {own : Nat → Prop} (h : Rd w p st own) (B : Nat) (v : ByteArray) (k : Nat) (x : Int) (hs : st.1.length ≤ 50000000) (hk : x = 0 → k ≤ st.1.length)
    (K : st.2 = 0 → Calls Try.prog 75 #[.string (str st.1), .pointer (some ⟨B, 0, none⟩)] w fun e w' => e = .returned (.tuple #[.string v, .int .i64 k, .int .i64 x]) ∧ Below w.heap.size w w') :
    Calls Try.prog 74 #[.pointer (some p), .func (.func 75) #[] #[.pointer (some ⟨B, 0, none⟩)]] w (Turned Rd own p w (cut st k x) (.string (got st x ⟨#[]⟩ v))) := by
  have HW := hide h
  obtain ⟨b, e⟩ := st
  obtain ⟨q, rfl, h1, ho⟩ := h
  have KE := hide (rerr_at h1)
  have c0 := h1.cell 0 _ rfl
  dsimp only at KE c0 hs hk K
  by_cases he : e = 0
  · subst he
    have KA := hide (K rfl)
    have HA := hide h1
    clear K h1
    by_cases hx : x = 0
    · subst hx
      have hk' := hk rfl
      rw [show cut (b, 0) k 0 = (b.drop k, 0) from rfl]
      have hsz := str_size b
      have hks : k ≤ (str b).size := by rw [str_size]; exact hk'
      have HX : Hid ((str b).extract k (str b).size = str (b.drop k)) := hide (ext_tail b k)
      have HH := hide hs
      clear hk hk' hs
      go_enter Try.func74, Try.ntmps74
      go_wp2_with (first
        | (go_at_call 49; refine (unhide KE).mono ?_; rintro y w1 ⟨rfl, rfl⟩)
        | (go_at_call 75; refine (unhide KA).mono ?_; rintro y w1 ⟨rfl, hb⟩; have HB := hide hb; have HR := hide ((unhide HA).after hb); have c1 := (unhide HR).cell 0 _ rfl; have f1 := (unhide HR).frozen 0; dsimp only at c1; clear hb))
      go_ret
      refine ⟨own, by rfl, ⟨q, rfl, ?_, ho⟩, fun g hg => .inl hg, ?_⟩
      · have h2 := (unhide HR).set 0 (.string (str (b.drop k)))
        rw [← unhide HX] at h2
        show VRow _ q 75 [.string (str (b.drop k)), .int .i64 0]
        rw [← unhide HX]
        exact h2
      · refine ⟨(unhide HB).os, (unhide HB).tape, (unhide HB).output, by simpa using (unhide HB).size, fun j hj hj2 => ?_⟩
        rw [heap_setCell_other _ ⟨q, 0, none⟩ j _ (fun h => hj2 ((ho j).2 h))]
        exact (unhide HB).block j hj
    · have hne : (x != 0) = true := by simp [hx]
      rw [show cut (b, 0) k x = (b, x) from by simp [cut, hx], show (got (b, 0) x ⟨#[]⟩ v) = ⟨#[]⟩ from by simp [got, hx]]
      clear hk hs
      go_enter Try.func74, Try.ntmps74
      go_wp2_with (first
        | (go_at_call 49; refine (unhide KE).mono ?_; rintro y w1 ⟨rfl, rfl⟩)
        | (go_at_call 75; refine (unhide KA).mono ?_; rintro y w1 ⟨rfl, hb⟩; have HB := hide hb; clear hb)
        | (go_at_call 67; refine (rfail_any (rd_after (unhide HW) (unhide HB)) x).mono ?_; intro e w2 hm; have HM := hide (turned_of (unhide HB) hm); clear hm; obtain rfl : e = .returned (.tuple #[]) := (unhide HM).choose_spec.1))
      go_ret
      obtain ⟨own', _, h3, h4, h5⟩ := unhide HM
      exact ⟨own', rfl, h3, h4, h5⟩
  · have hne : (e != 0) = true := by simp [he]
    rw [show cut (b, e) k x = (b, e) from if_pos he, show (got (b, e) x ⟨#[]⟩ v) = ⟨#[]⟩ from by simp [got, he]]
    clear K hk h1
    go_enter Try.func74, Try.ntmps74
    go_wp2_with (go_at_call 49; refine (unhide KE).mono ?_; rintro y w1 ⟨rfl, rfl⟩)
    go_ret
    exact turned_refl (unhide HW) (Below.refl _ _)
set_option maxRecDepth 100000 in
theorem takeT_nil (B : Nat) (w : World) : Calls Try.prog 74 #[.pointer none, .func (.func 75) #[] #[.pointer (some ⟨B, 0, none⟩)]] w (Told w (.string ⟨#[]⟩)) := by
  have KE := hide (rerr_nil w)
  go_enter Try.func74, Try.ntmps74
  go_wp2_with (go_at_call 49; refine (unhide KE).mono ?_; rintro y w1 ⟨rfl, rfl⟩)
  go_ret
  exact ⟨rfl, Below.refl _ _⟩

set_option maxRecDepth 100000 in
set_option maxHeartbeats 400000 in
theorem takeF_any {w : World} {p : Addr} {st : St} {own : Nat → Prop} (h : Rd w p st own) (v : Bool) (k : Nat) (x : Int) (hs : st.1.length ≤ 50000000) (hk : x = 0 → k ≤ st.1.length)
    (K : st.2 = 0 → Calls Try.prog 93 #[.string (str st.1)] w fun e w' => e = .returned (.tuple #[.bool v, .int .i64 k, .int .i64 x]) ∧ Below w.heap.size w w') :
    Calls Try.prog 92 #[.pointer (some p), .func (.func 93) #[] #[]] w (Turned Rd own p w (cut st k x) (.bool (got st x false v))) := by
  have HW := hide h
  obtain ⟨b, e⟩ := st
  obtain ⟨q, rfl, h1, ho⟩ := h
  have KE := hide (rerr_at h1)
  have c0 := h1.cell 0 _ rfl
  dsimp only at KE c0 hs hk K
  by_cases he : e = 0
  · subst he
    have KA := hide (K rfl)
    have HA := hide h1
    clear K h1
    by_cases hx : x = 0
    · subst hx
      have hk' := hk rfl
      rw [show cut (b, 0) k 0 = (b.drop k, 0) from rfl]
      have hsz := str_size b
      have hks : k ≤ (str b).size := by rw [str_size]; exact hk'
      have HX : Hid ((str b).extract k (str b).size = str (b.drop k)) := hide (ext_tail b k)
      have HH := hide hs
      clear hk hk' hs
      go_enter Try.func92, Try.ntmps92
      go_wp2_with (first
        | (go_at_call 49; refine (unhide KE).mono ?_; rintro y w1 ⟨rfl, rfl⟩)
        | (go_at_call 93; refine (unhide KA).mono ?_; rintro y w1 ⟨rfl, hb⟩; have HB := hide hb; have HR := hide ((unhide HA).after hb); have c1 := (unhide HR).cell 0 _ rfl; have f1 := (unhide HR).frozen 0; dsimp only at c1; clear hb))
      go_ret
      refine ⟨own, by rfl, ⟨q, rfl, ?_, ho⟩, fun g hg => .inl hg, ?_⟩
      · have h2 := (unhide HR).set 0 (.string (str (b.drop k)))
        rw [← unhide HX] at h2
        show VRow _ q 75 [.string (str (b.drop k)), .int .i64 0]
        rw [← unhide HX]
        exact h2
      · refine ⟨(unhide HB).os, (unhide HB).tape, (unhide HB).output, by simpa using (unhide HB).size, fun j hj hj2 => ?_⟩
        rw [heap_setCell_other _ ⟨q, 0, none⟩ j _ (fun h => hj2 ((ho j).2 h))]
        exact (unhide HB).block j hj
    · have hne : (x != 0) = true := by simp [hx]
      rw [show cut (b, 0) k x = (b, x) from by simp [cut, hx], show (got (b, 0) x false v) = false from by simp [got, hx]]
      clear hk hs
      go_enter Try.func92, Try.ntmps92
      go_wp2_with (first
        | (go_at_call 49; refine (unhide KE).mono ?_; rintro y w1 ⟨rfl, rfl⟩)
        | (go_at_call 93; refine (unhide KA).mono ?_; rintro y w1 ⟨rfl, hb⟩; have HB := hide hb; clear hb)
        | (go_at_call 67; refine (rfail_any (rd_after (unhide HW) (unhide HB)) x).mono ?_; intro e w2 hm; have HM := hide (turned_of (unhide HB) hm); clear hm; obtain rfl : e = .returned (.tuple #[]) := (unhide HM).choose_spec.1))
      go_ret
      obtain ⟨own', _, h3, h4, h5⟩ := unhide HM
      exact ⟨own', rfl, h3, h4, h5⟩
  · have hne : (e != 0) = true := by simp [he]
    rw [show cut (b, e) k x = (b, e) from if_pos he, show (got (b, e) x false v) = false from by simp [got, he]]
    clear K hk h1
    go_enter Try.func92, Try.ntmps92
    go_wp2_with (go_at_call 49; refine (unhide KE).mono ?_; rintro y w1 ⟨rfl, rfl⟩)
    go_ret
    exact turned_refl (unhide HW) (Below.refl _ _)
set_option maxRecDepth 100000 in
theorem takeF_nil (w : World) : Calls Try.prog 92 #[.pointer none, .func (.func 93) #[] #[]] w (Told w (.bool false)) := by
  have KE := hide (rerr_nil w)
  go_enter Try.func92, Try.ntmps92
  go_wp2_with (go_at_call 49; refine (unhide KE).mono ?_; rintro y w1 ⟨rfl, rfl⟩)
  go_ret
  exact ⟨rfl, Below.refl _ _⟩
end Go.Proofs.Ythchcjjpplcfnaa

namespace Go.Proofs.Ythchcjjpplcfnaa
open Go.RowKit Go.Shelf
def ren316 : Go.Shelf.Ren := ⟨fun | 316 => 102 | n => n, fun | 37 => 43 | 127 => 136 | n => n, fun | n => n⟩
theorem lays316 : Go.Proofs.LaysM.n316 Try.prog ren316 := {
  mixed := by kernel_rfl
  f316 := Try.func102.trans (congrArg some (by kernel_rfl))
  t0 := Try.underlying0
  a0 := Try.isAgg0
  z0 := Try.sizeOf0
  v0 := Try.zeroValue0
  t3 := Try.underlying3
  a3 := Try.isAgg3
  z3 := Try.sizeOf3
  v3 := Try.zeroValue3
  t4 := Try.underlying4
  a4 := Try.isAgg4
  z4 := Try.sizeOf4
  v4 := Try.zeroValue4
  t5 := Try.underlying5
  a5 := Try.isAgg5
  z5 := Try.sizeOf5
  v5 := Try.zeroValue5
  t9 := Try.underlying9
  a9 := Try.isAgg9
  z9 := Try.sizeOf9
  v9 := Try.zeroValue9
  t37 := Try.underlying43
  a37 := Try.isAgg43
  z37 := Try.sizeOf43
  v37 := Try.zeroValue43
  t127 := Try.underlying136
  a127 := Try.isAgg136
  z127 := Try.sizeOf136
  v127 := Try.zeroValue136
  i0 := by kernel_rfl
  i3 := by kernel_rfl
  i4 := by kernel_rfl
  i5 := by kernel_rfl
  i9 := by kernel_rfl
  i37 := by kernel_rfl
  i127 := by kernel_rfl }
theorem slite_clone (s : ByteArray) (w : World) (h : s.size ≤ 281474976710656) : Calls Try.prog 102 #[.string s] w fun e w' => e = .returned (.string s) ∧ Below w.heap.size w w' :=
  Any.stringslite_Clone lays316 s w h
theorem clone_any (s : ByteArray) (w : World) (h : s.size ≤ 281474976710656) : Calls Try.prog 95 #[.string s] w fun e w' => e = .returned (.string s) ∧ Below w.heap.size w w' := by
  have K := hide (slite_clone s w h)
  go_enter Try.func95, Try.ntmps95
  go_wp2_with (go_at_call 102; refine (unhide K).mono ?_; rintro e w1 ⟨rfl, hb⟩)
  go_ret
  exact ⟨rfl, hb⟩
end Go.Proofs.Ythchcjjpplcfnaa

namespace Go.Proofs.Ythchcjjpplcfnaa
open Go.RowKit

/-- The number ahead, at most one, and how many bytes it has. -/
def aheadN (b : List UInt8) (most : Int) : Int × Nat × Int :=
  if (Cnt.takeF b).2.2 ≠ 0 then (0, 0, (Cnt.takeF b).2.2) else if most < (Cnt.takeF b).1 then (0, 0, 2) else ((Cnt.takeF b).1, (Cnt.takeF b).2.1.toNat, 0)
theorem rNumber_ahead (st : St) (most : Int) : rNumber st most = (got st (aheadN st.1 most).2.2 0 (aheadN st.1 most).1, cut st (aheadN st.1 most).2.1 (aheadN st.1 most).2.2) := by
  unfold rNumber got cut aheadN
  by_cases h0 : st.2 ≠ 0
  · simp [h0]
  · rw [if_neg h0, if_neg h0, if_neg h0]
    by_cases h1 : (Cnt.takeF st.1).2.2 ≠ 0
    · simp [h1]
    · rw [if_neg h1, if_neg h1]
      by_cases h2 : most < (Cnt.takeF st.1).1
      · simp [h2]
      · simp [h2]
theorem aheadN_ok (b : List UInt8) (most : Int) : 0 ≤ (aheadN b most).1 ∧ (aheadN b most).2.1 ≤ b.length := by
  unfold aheadN
  split
  · exact ⟨Int.le_refl _, Nat.zero_le _⟩
  · split
    · exact ⟨Int.le_refl _, Nat.zero_le _⟩
    · rename_i h1 _
      refine ⟨takeF_nonneg _, ?_⟩
      have := (Cnt.takeF_ok b (by simpa using h1)).2.1
      show (Cnt.takeF b).2.1.toNat ≤ _
      omega

set_option maxRecDepth 100000 in
set_option maxHeartbeats 400000 in
theorem numberAhead_any (b : List UInt8) (most : Int) (hs : b.length ≤ 50000000) (w : World) :
    Calls Try.prog 73 #[.string (str b), .int .i64 most] w fun e w' => e = .returned (.tuple #[.int .i64 (aheadN b most).1, .int .i64 (aheadN b most).2.1, .int .i64 (aheadN b most).2.2]) ∧ w' = w := by
  have KT := hide (Take_any (str b) w (by rw [str_size]; unfold maxLen; omega))
  rw [str_data] at KT
  have hok := Cnt.takeF_ok b
  unfold aheadN
  obtain ⟨n, k, x, hT⟩ : ∃ n k x, Cnt.takeF b = (n, k, x) := ⟨_, _, _, rfl⟩
  rw [hT] at KT hok ⊢
  dsimp only at KT hok ⊢
  generalize str b = S at KT ⊢
  clear hT
  by_cases hx : x = 0
  · subst hx
    obtain ⟨hk1, hk2, _⟩ := hok rfl
    obtain ⟨K, rfl⟩ : ∃ K : Nat, k = K := ⟨k.toNat, by omega⟩
    rw [if_neg (by simp), Int.toNat_natCast]
    clear hok
    by_cases hm : most < n
    · rw [if_pos hm]
      go_enter Try.func73, Try.ntmps73
      go_wp2_with (go_at_call 94; refine (unhide KT).mono ?_; rintro e w1 ⟨rfl, rfl⟩)
      go_ret3
      exact ⟨rfl, rfl⟩
    · rw [if_neg hm]
      have hm' : n ≤ most := by omega
      go_enter Try.func73, Try.ntmps73
      go_wp2_with (go_at_call 94; refine (unhide KT).mono ?_; rintro e w1 ⟨rfl, rfl⟩)
      go_ret3
      exact ⟨rfl, rfl⟩
  · rw [if_pos hx]
    have hne2 : (x != 0) = true := by simp [hx]
    clear hok
    go_enter Try.func73, Try.ntmps73
    go_wp2_with (go_at_call 94; refine (unhide KT).mono ?_; rintro e w1 ⟨rfl, rfl⟩)
    go_ret3
    exact ⟨rfl, rfl⟩

set_option maxRecDepth 100000 in
theorem number1_any (b : List UInt8) (most : Int) (hs : b.length ≤ 50000000) (B : Nat) (w : World) (h : VRow w B 3 [.int .i64 most]) :
    Calls Try.prog 72 #[.string (str b), .pointer (some ⟨B, 0, none⟩)] w fun e w' => e = .returned (.tuple #[.int .i64 (aheadN b most).1, .int .i64 (aheadN b most).2.1, .int .i64 (aheadN b most).2.2]) ∧ w' = w := by
  have K := hide (numberAhead_any b most hs w)
  have c0 := h.cell 0 _ rfl
  generalize str b = S at K ⊢
  generalize (aheadN b most).1 = x1 at K ⊢
  generalize ((aheadN b most).2.1 : Int) = x2 at K ⊢
  generalize (aheadN b most).2.2 = x3 at K ⊢
  clear h hs
  go_enter Try.func72, Try.ntmps72
  go_wp2_with (go_at_call 73; refine (unhide K).mono ?_; rintro e w1 ⟨rfl, rfl⟩)
  go_ret3
  exact ⟨rfl, rfl⟩

set_option maxRecDepth 100000 in
set_option maxHeartbeats 400000 in
theorem rnumber_any {w : World} {p : Addr} {st : St} {own : Nat → Prop} (h : Rd w p st own) (hs : st.1.length ≤ 50000000) (most : Int) :
    Calls Try.prog 46 #[.pointer (some p), .int .i64 most] w (Turned Rd own p w (rNumber st most).2 (.int .i64 (rNumber st most).1)) := by
  have HB := hide (below_alloc' (w := w) (.cells #[.int .i64 most] 3))
  have R := VRow.new w 3 [.int .i64 most]
  have KT := hide (takeN_any (rd_after h (unhide HB)) w.heap.size (aheadN st.1 most).1 (aheadN st.1 most).2.1 (aheadN st.1 most).2.2 hs (fun _ => (aheadN_ok _ _).2) (fun _ => (number1_any st.1 most hs w.heap.size _ R).mono (by rintro e w' ⟨rfl, rfl⟩; exact ⟨rfl, Below.refl _ _⟩)))
  rw [rNumber_ahead]
  dsimp only
  generalize got st (aheadN st.1 most).2.2 0 (aheadN st.1 most).1 = V at KT ⊢
  generalize cut st (aheadN st.1 most).2.1 (aheadN st.1 most).2.2 = C at KT ⊢
  clear h R hs
  go_enter Try.func46, Try.ntmps46
  go_wp2_with (go_at_call 71; refine (unhide KT).mono ?_; intro e w2 hm; have HM := hide (turned_of (unhide HB) hm); clear hm; obtain rfl : e = .returned (.int .i64 V) := (unhide HM).choose_spec.1)
  go_ret
  exact unhide HM
set_option maxRecDepth 100000 in
theorem rnumber_nil (most : Int) (w : World) : Calls Try.prog 46 #[.pointer none, .int .i64 most] w (Told w (.int .i64 0)) := by
  have HB := hide (below_alloc' (w := w) (.cells #[.int .i64 most] 3))
  have KT := hide (takeN_nil w.heap.size (w.alloc (.cells #[.int .i64 most] 3)))
  go_enter Try.func46, Try.ntmps46
  go_wp2_with (go_at_call 71; refine (unhide KT).mono ?_; rintro e w2 ⟨rfl, hb⟩; have HB2 := hide (below_grow (unhide HB) (Nat.le_refl _) hb); clear hb)
  go_ret
  exact ⟨rfl, unhide HB2⟩

/-- The text ahead, and how many bytes it has, with those of its length. -/
def aheadT (b : List UInt8) (most : Int) : List UInt8 × Nat × Int :=
  if (aheadN b most).2.2 ≠ 0 then ([], 0, (aheadN b most).2.2) else if ((b.length - (aheadN b most).2.1 : Nat) : Int) < (aheadN b most).1 then ([], 0, 5)
  else ((b.drop (aheadN b most).2.1).take (aheadN b most).1.toNat, (aheadN b most).2.1 + (aheadN b most).1.toNat, 0)
theorem rText_ahead (st : St) (most : Int) : rText st most = (got st (aheadT st.1 most).2.2 [] (aheadT st.1 most).1, cut st (aheadT st.1 most).2.1 (aheadT st.1 most).2.2) := by
  unfold rText
  rw [rNumber_ahead]
  unfold aheadT
  obtain ⟨n, k, x, hA⟩ : ∃ n k x, aheadN st.1 most = (n, k, x) := ⟨_, _, _, rfl⟩
  rw [hA]
  dsimp only
  by_cases h0 : st.2 = 0
  · by_cases hx : x = 0
    · subst hx
      have h1 : cut st k 0 = (st.1.drop k, 0) := by simp [cut, h0]
      have h2 : got st 0 0 n = n := by simp [got, h0]
      rw [h1, h2]
      dsimp only
      rw [List.length_drop]
      by_cases hl : ((st.1.length - k : Nat) : Int) < n
      · simp [got, cut, h0, hl]
      · simp [got, cut, h0, hl, List.drop_drop]
    · simp [got, cut, h0, hx]
  · simp [got, cut, h0]
theorem aheadT_ok (b : List UInt8) (most : Int) : (aheadT b most).2.1 ≤ b.length := by
  have h := aheadN_ok b most
  unfold aheadT
  split
  · exact Nat.zero_le _
  · split
    · exact Nat.zero_le _
    · show (aheadN b most).2.1 + (aheadN b most).1.toNat ≤ _
      omega

set_option maxRecDepth 100000 in
set_option maxHeartbeats 400000 in
theorem textAhead_any (b : List UInt8) (most : Int) (hs : b.length ≤ 50000000) (w : World) :
    Calls Try.prog 76 #[.string (str b), .int .i64 most] w fun e w' => e = .returned (.tuple #[.string (str (aheadT b most).1), .int .i64 (aheadT b most).2.1, .int .i64 (aheadT b most).2.2]) ∧ Below w.heap.size w w' := by
  have KN := hide (numberAhead_any b most hs w)
  have hok := aheadN_ok b most
  unfold aheadT
  obtain ⟨n, k, x, hA⟩ : ∃ n k x, aheadN b most = (n, k, x) := ⟨_, _, _, rfl⟩
  rw [hA] at KN hok ⊢
  dsimp only at KN hok ⊢
  have hsz := str_size b
  clear hA
  obtain ⟨N, rfl⟩ : ∃ N : Nat, n = N := ⟨n.toNat, by omega⟩
  by_cases hx : x = 0
  · subst hx
    rw [if_neg (by simp), Int.toNat_natCast]
    by_cases hl : ((b.length - k : Nat) : Int) < (N : Int)
    · rw [if_pos hl]
      have hl2 : ((str b).size : Int) - (k : Int) < (N : Int) := by omega
      have hks : k ≤ (str b).size := by omega
      have hss : (str b).size ≤ 50000000 := by omega
      generalize str b = S at *
      clear hl hok hs hsz
      go_enter Try.func76, Try.ntmps76
      go_wp2_with (go_at_call 73; refine (unhide KN).mono ?_; rintro e w1 ⟨rfl, rfl⟩)
      go_ret3
      exact ⟨rfl, Below.refl _ _⟩
    · rw [if_neg hl]
      have hl2 : (N : Int) ≤ ((str b).size : Int) - (k : Int) := by omega
      have hks : k + N ≤ (str b).size := by omega
      have hks' : (k : Int) + (N : Int) ≤ ((str b).size : Int) := by omega
      have hss : (str b).size ≤ 50000000 := by omega
      have HX : Hid ((str b).extract k (k + N) = str ((b.drop k).take N)) := hide (by rw [str_ext, List.drop_take]; congr 2; omega)
      have KC := hide fun W => clone_any (str ((b.drop k).take N)) W (by rw [str_size, List.length_take, List.length_drop]; omega)
      rw [← unhide HX] at KC ⊢
      generalize str b = S at *
      clear hl hok hs hsz
      go_enter Try.func76, Try.ntmps76
      go_wp2_with (first
        | (go_at_call 73; refine (unhide KN).mono ?_; rintro e w1 ⟨rfl, rfl⟩)
        | (go_at_call 95; refine (unhide KC _).mono ?_; rintro e w2 ⟨rfl, hb⟩; have HB := hide hb; clear hb))
      go_ret3
      exact ⟨rfl, unhide HB⟩
  · rw [if_pos hx]
    have hne2 : (x != 0) = true := by simp [hx]
    clear hok hs hsz
    generalize str b = S at *
    go_enter Try.func76, Try.ntmps76
    go_wp2_with (go_at_call 73; refine (unhide KN).mono ?_; rintro e w1 ⟨rfl, rfl⟩)
    go_ret3
    exact ⟨rfl, Below.refl _ _⟩

set_option maxRecDepth 100000 in
theorem text1_any (b : List UInt8) (most : Int) (hs : b.length ≤ 50000000) (B : Nat) (w : World) (h : VRow w B 3 [.int .i64 most]) :
    Calls Try.prog 75 #[.string (str b), .pointer (some ⟨B, 0, none⟩)] w fun e w' => e = .returned (.tuple #[.string (str (aheadT b most).1), .int .i64 (aheadT b most).2.1, .int .i64 (aheadT b most).2.2]) ∧ Below w.heap.size w w' := by
  have K := hide (textAhead_any b most hs w)
  have c0 := h.cell 0 _ rfl
  generalize str b = S at K ⊢
  generalize str (aheadT b most).1 = x1 at K ⊢
  generalize ((aheadT b most).2.1 : Int) = x2 at K ⊢
  generalize (aheadT b most).2.2 = x3 at K ⊢
  clear h hs
  go_enter Try.func75, Try.ntmps75
  go_wp2_with (go_at_call 76; refine (unhide K).mono ?_; rintro e w1 ⟨rfl, hb⟩; have HB := hide hb; clear hb)
  go_ret3
  exact ⟨rfl, unhide HB⟩

theorem got_str (st : St) (x : Int) (v : List UInt8) : got st x (⟨#[]⟩ : ByteArray) (str v) = str (got st x [] v) := by
  unfold got
  split
  · rfl
  · split <;> rfl
set_option maxRecDepth 100000 in
set_option maxHeartbeats 400000 in
theorem rtext_any {w : World} {p : Addr} {st : St} {own : Nat → Prop} (h : Rd w p st own) (hs : st.1.length ≤ 50000000) (most : Int) :
    Calls Try.prog 47 #[.pointer (some p), .int .i64 most] w (Turned Rd own p w (rText st most).2 (.string (str (rText st most).1))) := by
  have HB := hide (below_alloc' (w := w) (.cells #[.int .i64 most] 3))
  have R := VRow.new w 3 [.int .i64 most]
  have KT := hide (takeT_any (rd_after h (unhide HB)) w.heap.size (str (aheadT st.1 most).1) (aheadT st.1 most).2.1 (aheadT st.1 most).2.2 hs (fun _ => aheadT_ok _ _) (fun _ => text1_any st.1 most hs w.heap.size _ R))
  rw [rText_ahead]
  dsimp only
  rw [← got_str]
  generalize got st (aheadT st.1 most).2.2 (⟨#[]⟩ : ByteArray) (str (aheadT st.1 most).1) = V at KT ⊢
  generalize cut st (aheadT st.1 most).2.1 (aheadT st.1 most).2.2 = C at KT ⊢
  clear h R hs
  go_enter Try.func47, Try.ntmps47
  go_wp2_with (go_at_call 74; refine (unhide KT).mono ?_; intro e w2 hm; have HM := hide (turned_of (unhide HB) hm); clear hm; obtain rfl : e = .returned (.string V) := (unhide HM).choose_spec.1)
  go_ret
  exact unhide HM
set_option maxRecDepth 100000 in
theorem rtext_nil (most : Int) (w : World) : Calls Try.prog 47 #[.pointer none, .int .i64 most] w (Told w (.string ⟨#[]⟩)) := by
  have HB := hide (below_alloc' (w := w) (.cells #[.int .i64 most] 3))
  have KT := hide (takeT_nil w.heap.size (w.alloc (.cells #[.int .i64 most] 3)))
  go_enter Try.func47, Try.ntmps47
  go_wp2_with (go_at_call 74; refine (unhide KT).mono ?_; rintro e w2 ⟨rfl, hb⟩; have HB2 := hide (below_grow (unhide HB) (Nat.le_refl _) hb); clear hb)
  go_ret
  exact ⟨rfl, unhide HB2⟩
end Go.Proofs.Ythchcjjpplcfnaa

namespace Go.Proofs.Ythchcjjpplcfnaa
open Go.RowKit

def aheadF1 (b : List UInt8) : Bool × Nat × Int :=
  match b with
  | [] => (false, 0, 5)
  | x :: _ => if 1 < x.toNat then (false, 0, 7) else (x == 1, 1, 0)
theorem rFlag_ahead (st : St) : rFlag st = (got st (aheadF1 st.1).2.2 false (aheadF1 st.1).1, cut st (aheadF1 st.1).2.1 (aheadF1 st.1).2.2) := by
  obtain ⟨b, e⟩ := st
  unfold rFlag got cut aheadF1
  by_cases h0 : e ≠ 0
  · simp [h0]
  · have h0' : e = 0 := by simpa using h0
    subst h0'
    cases b with
    | nil => rfl
    | cons x r =>
      by_cases h1 : 1 < x.toNat
      · simp [h1]
      · simp [h1]
theorem aheadF1_ok (b : List UInt8) : (aheadF1 b).2.2 = 0 → (aheadF1 b).2.1 ≤ b.length := by
  unfold aheadF1
  cases b with
  | nil => intro h; cases h
  | cons x r =>
    dsimp only
    split
    · intro h; cases h
    · intro _; simp

set_option maxRecDepth 100000 in
set_option maxHeartbeats 400000 in
theorem flagAhead_any (b : List UInt8) (hs : b.length ≤ 50000000) (w : World) :
    Calls Try.prog 93 #[.string (str b)] w fun e w' => e = .returned (.tuple #[.bool (aheadF1 b).1, .int .i64 (aheadF1 b).2.1, .int .i64 (aheadF1 b).2.2]) ∧ w' = w := by
  cases b with
  | nil =>
    rw [show str [] = ⟨#[]⟩ from rfl, show aheadF1 [] = (false, 0, 5) from rfl]
    go_enter Try.func93, Try.ntmps93
    go_wp2_with fail
    go_ret3
    exact ⟨rfl, rfl⟩
  | cons x r =>
    have hemp := str_emp x r
    have hsz : 1 ≤ (str (x :: r)).size := by rw [str_size]; simp
    have hsm : (str (x :: r)).size ≤ 9223372036854775807 := by rw [str_size]; omega
    have HX : (str (x :: r)).extract 0 1 = str [x] := ext_head (x :: r) 1
    have q0 : ((str [x]).toList == [0]) = (x == 0) := by rw [ByteArray.toList_eq, str_data]; simp
    have q1 : ((str [x]).toList == [1]) = (x == 1) := by rw [ByteArray.toList_eq, str_data]; simp
    generalize str [x] = Y at *
    by_cases hx : 1 < x.toNat
    · rw [show aheadF1 (x :: r) = (false, 0, 7) from by simp [aheadF1, hx]]
      have n0 : (x == 0) = false := by rw [beq_eq_false_iff_ne]; rintro rfl; simp at hx
      have n1 : (x == 1) = false := by rw [beq_eq_false_iff_ne]; rintro rfl; simp at hx
      rw [n0] at q0
      rw [n1] at q1
      generalize str (x :: r) = S at *
      go_enter Try.func93, Try.ntmps93
      go_wp2_with fail
      go_ret3
      exact ⟨rfl, rfl⟩
    · rw [show aheadF1 (x :: r) = (x == 1, 1, 0) from by simp [aheadF1, hx]]
      generalize str (x :: r) = S at *
      have hcases : x = 0 ∨ x = 1 := by
        by_cases h0 : x = 0
        · exact .inl h0
        · refine .inr (UInt8.toNat_inj.1 ?_)
          have h2 : x.toNat ≠ 0 := fun h => h0 (UInt8.toNat_inj.1 (by simpa using h))
          show x.toNat = 1
          omega
      rcases hcases with rfl | rfl
      · rw [show ((0 : UInt8) == 0) = true from rfl] at q0
        go_enter Try.func93, Try.ntmps93
        go_wp2_with fail
        go_ret3
        exact ⟨rfl, rfl⟩
      · rw [show ((1 : UInt8) == 0) = false from rfl] at q0
        rw [show ((1 : UInt8) == 1) = true from rfl] at q1
        go_enter Try.func93, Try.ntmps93
        go_wp2_with fail
        go_ret3
        exact ⟨rfl, rfl⟩

set_option maxRecDepth 100000 in
set_option maxHeartbeats 400000 in
theorem rflag_any {w : World} {p : Addr} {st : St} {own : Nat → Prop} (h : Rd w p st own) (hs : st.1.length ≤ 50000000) :
    Calls Try.prog 70 #[.pointer (some p)] w (Turned Rd own p w (rFlag st).2 (.bool (rFlag st).1)) := by
  have KT := hide (takeF_any h (aheadF1 st.1).1 (aheadF1 st.1).2.1 (aheadF1 st.1).2.2 hs (aheadF1_ok st.1) (fun _ => (flagAhead_any st.1 hs w).mono (by rintro e w' ⟨rfl, rfl⟩; exact ⟨rfl, Below.refl _ _⟩)))
  rw [rFlag_ahead]
  dsimp only
  generalize got st (aheadF1 st.1).2.2 false (aheadF1 st.1).1 = V at KT ⊢
  generalize cut st (aheadF1 st.1).2.1 (aheadF1 st.1).2.2 = C at KT ⊢
  clear h hs
  go_enter Try.func70, Try.ntmps70
  go_wp2_with (go_at_call 92; refine (unhide KT).mono ?_; intro e w2 hm; have HM := hide hm; clear hm; obtain rfl : e = .returned (.bool V) := (unhide HM).choose_spec.1)
  go_ret
  exact unhide HM
set_option maxRecDepth 100000 in
theorem rflag_nil (w : World) : Calls Try.prog 70 #[.pointer none] w (Told w (.bool false)) := by
  have KT := hide (takeF_nil w)
  go_enter Try.func70, Try.ntmps70
  go_wp2_with (go_at_call 92; refine (unhide KT).mono ?_; rintro e w2 ⟨rfl, hb⟩; have HB2 := hide hb; clear hb)
  go_ret
  exact ⟨rfl, unhide HB2⟩
end Go.Proofs.Ythchcjjpplcfnaa

namespace Go.Proofs.Ythchcjjpplcfnaa
open Go.RowKit

/-- 'copy(d[:], rest)', d an array of 32 bytes, rest no shorter. -/
theorem copy32 (W : World) (B : Nat) (olds : List Value) (ho : olds.length = 32) (h : VRow W B 39 olds) (b : List UInt8) (hb : 32 ≤ b.length) (ty : TypeId) :
    ∃ W2, (Builtin.copy_ #[43, 9] ty #[.slice (some ⟨B, 0, none⟩) 32 32, .string (str b)]).run Try.prog W = .ok (.int .i64 32) W2 ∧ Only B W W2 ∧ VRow W2 B 39 ((b.take 32).map byteVal) := by
  have hnl : ((b.take 32).map byteVal).length = 32 := by rw [List.length_map, List.length_take]; omega
  have hst := run_storeCells_at Try.prog B 0 39 ((b.take 32).map byteVal) 0 olds.toArray W h (by rw [hnl]; simp [ho]) (one_bytes _)
  have hcell : olds.toArray.toList.take (0 + 0) ++ (b.take 32).map byteVal ++ olds.toArray.toList.drop (0 + 0 + ((b.take 32).map byteVal).length) = (b.take 32).map byteVal := by
    rw [hnl, List.toList_toArray, List.drop_of_length_le (by omega)]
    simp
  rw [hcell] at hst
  refine ⟨W.setRow B ((b.take 32).map byteVal).toArray, ?_, ⟨rfl, rfl, rfl, by simp, fun j hj => setRow_other W B j _ hj⟩, setRow_heap W B _ _ 39 (0, 0) h⟩
  have hmin : Nat.min (str b).size 32 = 32 := Nat.min_eq_right (by rw [str_size]; exact hb)
  rw [List.map_take] at hst
  have hfn : (byteVal : UInt8 → Value) = fun b => Value.int .u8 (b.toNat : Int) := rfl
  have hdt : (str b).data.toList = b := str_data b
  rw [hfn] at hst
  simp [Builtin.copy_, run_underlying Try.underlying43, Builtin.lenOf, Builtin.firstCells, Try.sizeOf5, hmin, hst, goInt, hdt, hfn]
theorem step_copy32 {ops : Array Oper} {rest : List Oper} {o : Oper} {a : Act} {w : World} {Q : Exit → Act → World → Prop} (hgd : o.guard = none) (d x : Operand)
    (hop : o.op = .call { callee := .builtin .copy, args := #[d, x], argTypes := #[43, 9] })
    (B : Nat) (hd : a.eval d = .slice (some ⟨B, 0, none⟩) 32 32) (b : List UInt8) (hx : a.eval x = .string (str b)) (olds : List Value) (ho : olds.length = 32) (hr : VRow w B 39 olds) (hb : 32 ≤ b.length)
    (h : ∀ w', Only B w w' → VRow w' B 39 ((b.take 32).map byteVal) → wpList Try.prog ops Q rest (a.put o.dst (.int .i64 32)) w') :
    wpList Try.prog ops Q (o :: rest) a w := by
  refine wpList_plain hgd fun K hK => ?_
  obtain ⟨w', hrun, h2, h3⟩ := copy32 w B olds ho hr b hb o.type
  unfold Oper.wp execOp
  simp only [hop, resolve, invoke, builtin, Sem.run_bind, Sem.run_pure, Result.andThen_ok, List.map_toArray, List.map_cons, List.map_nil, hd, hx, hrun]
  exact hK _ _ (h w' h2 h3)

theorem results_row50 (tmps : Array Value) (w : World) (g : Nat) (vs : List Value) (a b : Value) (hp : tmps.getD 2 undef = .pointer (some ⟨g, 0, none⟩)) (h3 : tmps.getD 3 undef = a) (h4 : tmps.getD 4 undef = b) (hr : VRow w g 39 vs) (hn : vs.length = 32) :
    (results Try.f78 tmps).run Try.prog w = .ok (.tuple #[.agg vs.toArray, a, b]) w := by
  have hp' : tmps[2]?.getD undef = .pointer (some ⟨g, 0, none⟩) := by simpa using hp
  have h3' : tmps[3]?.getD undef = a := by simpa using h3
  have h4' : tmps[4]?.getD undef = b := by simpa using h4
  have hl := run_loadVar_row (P := Try.prog) w g 39 39 vs.toArray (0, 0) _ hr Try.underlying39 rfl (by rw [sizeDg]; simp [hn])
  simp [results, hp', h3', h4', asAddr, hl]
theorem results_row49 (tmps : Array Value) (w : World) (g : Nat) (vs : List Value) (hp : tmps.getD 4 undef = .pointer (some ⟨g, 0, none⟩)) (hr : VRow w g 39 vs) (hn : vs.length = 32) :
    (results Try.f77 tmps).run Try.prog w = .ok (.agg vs.toArray) w := by
  have hp' : tmps[4]?.getD undef = .pointer (some ⟨g, 0, none⟩) := by simpa using hp
  have hl := run_loadVar_row (P := Try.prog) w g 39 39 vs.toArray (0, 0) _ hr Try.underlying39 rfl (by rw [sizeDg]; simp [hn])
  simp [results, hp', asAddr, hl]
theorem results_row24 (tmps : Array Value) (w : World) (g : Nat) (vs : List Value) (hp : tmps.getD 2 undef = .pointer (some ⟨g, 0, none⟩)) (hr : VRow w g 39 vs) (hn : vs.length = 32) :
    (results Try.f48 tmps).run Try.prog w = .ok (.agg vs.toArray) w := by
  have hp' : tmps[2]?.getD undef = .pointer (some ⟨g, 0, none⟩) := by simpa using hp
  have hl := run_loadVar_row (P := Try.prog) w g 39 39 vs.toArray (0, 0) _ hr Try.underlying39 rfl (by rw [sizeDg]; simp [hn])
  simp [results, hp', asAddr, hl]

theorem below_only {n B : Nat} {a w w' : World} (h : Below n a w) (ho : Only B w w') (hn : n ≤ B) : Below n a w' := h.trans (ho.below hn)
theorem two_below (w : World) (A C : Obj) : Below w.heap.size w ((w.alloc A).alloc C) := ((Below.refl w.heap.size w).alloc (Nat.le_refl _) _).alloc (by simp) _

set_option maxRecDepth 100000 in
set_option maxHeartbeats 1000000 in
theorem digestAhead_short (b : List UInt8) (hb : b.length < 32) (w : World) :
    Calls Try.prog 78 #[.string (str b)] w fun e w' => e = .returned (.tuple #[.agg (zero32.map byteVal).toArray, .int .i64 0, .int .i64 5]) ∧ Below w.heap.size w w' := by
  have hz : ((str b).size : Int) < 32 := by rw [str_size]; omega
  generalize str b = S at *
  have HB := hide (two_below w (.cells (zero32.map byteVal).toArray 39) (.cells (zero32.map byteVal).toArray 39))
  go_enter Try.func78, Try.ntmps78
  go_wp2_with (first
    | (refine load_row (by rfl) 39 (.tmp 5) (by rfl) (w.heap.size + 1) (by rfl) 39 (zero32.map byteVal) (VRow.newAt (by simp)) 32 32 5 Try.underlying39 sizeDg (by rfl) ?_)
    | (refine store_row (by rfl) 39 (.tmp 2) (.tmp 9) (by rfl) w.heap.size (zero32.map byteVal) (by rfl) (by rfl) 39 (zero32.map byteVal) ((VRow.new w 39 (zero32.map byteVal)).alloc _) 32 sizeDg rfl rfl (one_bytes _) ?_; intro w2 ho2 hr2; have HR2 := hide hr2; have HO2 := hide ho2; clear ho2 hr2))
  refine bodyPost_ret (v := .tuple #[.agg (zero32.map byteVal).toArray, .int .i64 0, .int .i64 5]) ?_ rfl ⟨rfl, ?_⟩
  · exact results_row50 _ _ w.heap.size _ _ _ rfl rfl rfl (unhide HR2) rfl
  · exact below_only (unhide HB) (unhide HO2) (Nat.le_refl _)

set_option maxRecDepth 100000 in
set_option maxHeartbeats 1000000 in
theorem digestAhead_good' (b d : List UInt8) (hb : 32 ≤ b.length) (hd : b.take 32 = d) (w : World) :
    Calls Try.prog 78 #[.string (str b)] w fun e w' => e = .returned (.tuple #[.agg (d.map byteVal).toArray, .int .i64 32, .int .i64 0]) ∧ Below w.heap.size w w' := by
  have hz : ¬ ((str b).size : Int) < 32 := by rw [str_size]; omega
  have hl : (d.map byteVal).length = 32 := by rw [← hd, List.length_map, List.length_take]; omega
  have HL := hide hl
  have HB' := hide hb
  have HD := hide hd
  have HB := hide (two_below w (.cells (zero32.map byteVal).toArray 39) (.cells (zero32.map byteVal).toArray 39))
  have hsl := slice_dig (w.heap.size + 1) ((w.alloc (.cells (zero32.map byteVal).toArray 39)).alloc (.cells (zero32.map byteVal).toArray 39))
  clear hl hb hd
  go_enter Try.func78, Try.ntmps78
  go_wp2_with (first
    | (refine step_copy32 (by rfl) _ _ (by rfl) (w.heap.size + 1) (by rfl) b (by rfl) (zero32.map byteVal) (by rfl) (VRow.newAt (by simp)) (unhide HB') ?_; rw [unhide HD]; intro w1 ho1 hr1; have HR1 := hide hr1; have HO1 := hide ho1; have HZ1 := hide (((VRow.new w 39 (zero32.map byteVal)).alloc _).only ho1 (by omega)); clear ho1 hr1 hsl)
    | (refine load_row (by rfl) 39 (.tmp 5) (by rfl) (w.heap.size + 1) (by rfl) 39 (d.map byteVal) (unhide HR1) 32 32 5 Try.underlying39 sizeDg (unhide HL) ?_)
    | (refine store_row (by rfl) 39 (.tmp 2) (.tmp 13) (by rfl) w.heap.size (d.map byteVal) (by rfl) (by rfl) 39 (zero32.map byteVal) (unhide HZ1) 32 sizeDg (unhide HL) rfl (one_bytes _) ?_; intro w2 ho2 hr2; have HR2 := hide hr2; have HO2 := hide ho2; clear ho2 hr2))
  refine bodyPost_ret (v := .tuple #[.agg (d.map byteVal).toArray, .int .i64 32, .int .i64 0]) ?_ rfl ⟨rfl, ?_⟩
  · exact results_row50 _ _ w.heap.size _ _ _ rfl rfl rfl (unhide HR2) (unhide HL)
  · exact below_only (below_only (unhide HB) (unhide HO1) (by omega)) (unhide HO2) (Nat.le_refl _)

/-- What digestAhead answers. -/
def aheadD (b : List UInt8) : List UInt8 × Nat × Int := if b.length < 32 then (zero32, 0, 5) else (b.take 32, 32, 0)
theorem aheadD_len (b : List UInt8) : (aheadD b).1.length = 32 := by
  unfold aheadD
  split
  · rfl
  · show (b.take 32).length = 32
    rw [List.length_take]; omega
theorem aheadD_ok (b : List UInt8) : (aheadD b).2.2 = 0 → (aheadD b).2.1 ≤ b.length := by
  unfold aheadD
  split
  · intro h; cases h
  · intro _; show 32 ≤ b.length; omega
theorem rDigest_ahead (st : St) : rDigest st = (got st (aheadD st.1).2.2 zero32 (aheadD st.1).1, cut st (aheadD st.1).2.1 (aheadD st.1).2.2) := by
  obtain ⟨b, e⟩ := st
  unfold rDigest got cut aheadD
  by_cases h0 : e ≠ 0
  · simp [h0]
  · have h0' : e = 0 := by simpa using h0
    subst h0'
    by_cases h1 : b.length < 32
    · simp [h1]
    · simp [h1]
theorem digestAhead_any (b : List UInt8) (w : World) :
    Calls Try.prog 78 #[.string (str b)] w fun e w' => e = .returned (.tuple #[.agg ((aheadD b).1.map byteVal).toArray, .int .i64 (aheadD b).2.1, .int .i64 (aheadD b).2.2]) ∧ Below w.heap.size w w' := by
  by_cases h : b.length < 32
  · rw [show aheadD b = (zero32, 0, 5) from if_pos h]
    exact digestAhead_short b h w
  · rw [show aheadD b = (b.take 32, 32, 0) from if_neg h]
    exact digestAhead_good' b _ (by omega) rfl w

/-- Two new arrays of 32 zeros. -/
structure Start (w w1 : World) : Prop where
  z0 : VRow w1 w.heap.size 39 (zero32.map byteVal)
  z1 : VRow w1 (w.heap.size + 1) 39 (zero32.map byteVal)
  below : Below w.heap.size w w1
theorem start_of {w w1 : World} (h : w1 = (w.alloc (.cells (zero32.map byteVal).toArray 39)).alloc (.cells (zero32.map byteVal).toArray 39)) : Start w w1 := by
  subst h
  exact ⟨(VRow.new w 39 _).alloc _, VRow.newAt (by simp), two_below w _ _⟩
def DigMade (q : Nat) (w : World) (st : St) (d : List UInt8) (e : Ending) (w' : World) : Prop := e = .returned (.agg (d.map byteVal).toArray) ∧ RdAt w' q st ∧ Beside (· = q) w w'

set_option maxRecDepth 100000 in
set_option maxHeartbeats 400000 in
theorem rfail_zero {w : World} {q : Nat} {b : List UInt8} (h : RdAt w q (b, 0)) (x : Int) :
    Calls Try.prog 67 #[.pointer (some ⟨q, 0, none⟩), .int .i64 x] w fun e w' => e = .returned (.tuple #[]) ∧ w' = w.setCell ⟨q, 1, none⟩ (.int .i64 x) := by
  have K := hide (rerr_at h)
  have f1 := h.frozen 1
  have c1 := h.cell 1 _ rfl
  dsimp only at K c1
  clear h
  go_enter Try.func67, Try.ntmps67
  go_wp2_with (go_at_call 49; refine (unhide K).mono ?_; rintro y w1 ⟨rfl, rfl⟩)
  go_end0
  exact ⟨rfl, rfl⟩

set_option maxRecDepth 100000 in
set_option maxHeartbeats 1000000 in
theorem takeD_bad {w : World} {q : Nat} {b : List UInt8} {e : Int} (he : e ≠ 0) (h : RdAt w q (b, e)) :
    Calls Try.prog 77 #[.pointer (some ⟨q, 0, none⟩), .func (.func 78) #[] #[]] w (DigMade q w (b, e) zero32) := by
  have hq := h.lt
  have HA := hide h
  have KE := hide fun W (h : RdAt W q (b, e)) => rerr_at h
  have hne : (e != 0) = true := by simp [he]
  clear h
  go_enter Try.func77, Try.ntmps77
  go_wp2_with (first
    | (go_at_call 49; refine (unhide KE _ (((unhide HA).alloc _).alloc _)).mono ?_; rintro y w1 ⟨rfl, hw⟩; have HS := hide (start_of hw); clear hw)
    | (refine load_row (by rfl) 39 (.tmp 5) (by rfl) (w.heap.size + 1) (by rfl) 39 (zero32.map byteVal) (unhide HS).z1 32 32 5 Try.underlying39 sizeDg (by rfl) ?_)
    | (refine store_row (by rfl) 39 (.tmp 4) (.tmp 12) (by rfl) w.heap.size (zero32.map byteVal) (by rfl) (by rfl) 39 (zero32.map byteVal) (unhide HS).z0 32 sizeDg rfl rfl (one_bytes _) ?_; intro w2 ho2 hr2; have HR2 := hide hr2; have HO2 := hide ho2; clear ho2 hr2))
  have H := below_only (unhide HS).below (unhide HO2) (Nat.le_refl _)
  refine bodyPost_ret (v := .agg (zero32.map byteVal).toArray) ?_ rfl ⟨rfl, (unhide HA).after H, beside_of H⟩
  exact results_row49 _ _ w.heap.size _ rfl (unhide HR2) rfl

set_option maxRecDepth 100000 in
set_option maxHeartbeats 1000000 in
theorem takeD_wrong {w : World} {q : Nat} {b d : List UInt8} {k : Nat} {x : Int} (hx : x ≠ 0) (hd : d.length = 32) (h : RdAt w q (b, 0))
    (K : ∀ W, Calls Try.prog 78 #[.string (str b)] W fun e w' => e = .returned (.tuple #[.agg (d.map byteVal).toArray, .int .i64 k, .int .i64 x]) ∧ Below W.heap.size W w') :
    Calls Try.prog 77 #[.pointer (some ⟨q, 0, none⟩), .func (.func 78) #[] #[]] w (DigMade q w (b, x) zero32) := by
  have hq := h.lt
  have HA := hide h
  have HD := hide (show (d.map byteVal).length = 32 from by rw [List.length_map]; exact hd)
  have KE := hide fun W (h : RdAt W q (b, 0)) => rerr_at h
  have KA := hide K
  have KF := hide fun W (h : RdAt W q (b, 0)) => rfail_zero h x
  have hne : (x != 0) = true := by simp [hx]
  clear h K hd
  go_enter Try.func77, Try.ntmps77
  go_wp2_with (first
    | (go_at_call 49; refine (unhide KE _ (((unhide HA).alloc _).alloc _)).mono ?_; rintro y w1 ⟨rfl, hw⟩; have HS := hide (start_of hw); have HA1 := hide ((unhide HA).after (unhide HS).below); have c0 := (unhide HA1).cell 0 _ rfl; dsimp only at c0; clear hw)
    | (go_at_call 78; refine (unhide KA _).mono ?_; rintro y w2 ⟨rfl, hb⟩; have HB := hide hb; clear hb c0)
    | (refine store_row (by rfl) 39 (.tmp 6) (.tmp 20) (by rfl) w2.heap.size (d.map byteVal) (by rfl) (by rfl) 39 (zero32.map byteVal) (VRow.newAt rfl) 32 sizeDg (unhide HD) rfl (one_bytes _) ?_; intro w3 ho3 hr3; have HO3 := hide ho3; have HB3 := hide (below_only ((unhide HB).alloc (unhide HB).size (.cells (zero32.map byteVal).toArray 39)) ho3 (unhide HB).size); have HA3 := hide ((unhide HA1).after (unhide HB3)); have HZ0 := hide ((unhide HS).z0.after (unhide HB3)); have HZ1 := hide ((unhide HS).z1.after (unhide HB3)); clear ho3 hr3)
    | (go_at_call 67; refine (unhide KF _ (unhide HA3)).mono ?_; rintro y w4 ⟨rfl, hw⟩; subst hw; have HY0 := hide ((unhide HZ0).setNe (B := q) (by omega) 1 (.int .i64 x)); have HY1 := hide ((unhide HZ1).setNe (B := q) (by omega) 1 (.int .i64 x)))
    | (refine load_row (by rfl) 39 (.tmp 5) (by rfl) (w.heap.size + 1) (by rfl) 39 (zero32.map byteVal) (unhide HY1) 32 32 5 Try.underlying39 sizeDg (by rfl) ?_)
    | (refine store_row (by rfl) 39 (.tmp 4) (.tmp 28) (by rfl) w.heap.size (zero32.map byteVal) (by rfl) (by rfl) 39 (zero32.map byteVal) (unhide HY0) 32 sizeDg rfl rfl (one_bytes _) ?_; intro w5 ho5 hr5; have HR5 := hide hr5; have HO5 := hide ho5; clear ho5 hr5))
  refine bodyPost_ret (v := .agg (zero32.map byteVal).toArray) ?_ rfl ⟨rfl, ?_, ?_⟩
  · exact results_row49 _ _ w.heap.size _ rfl (unhide HR5) rfl
  · exact ((unhide HA3).set 1 (.int .i64 x)).only (unhide HO5) (by omega)
  · exact ((beside_of ((unhide HS).below.trans ((unhide HB3).mono (unhide HS).below.size))).trans (beside_set q 1 _ _)).only (unhide HO5) (Nat.le_refl _)

set_option maxRecDepth 100000 in
set_option maxHeartbeats 1000000 in
theorem takeD_good {w : World} {q : Nat} {b d : List UInt8} {k : Nat} (hk : k ≤ b.length) (hs : b.length ≤ 50000000) (hd : d.length = 32) (h : RdAt w q (b, 0))
    (K : ∀ W, Calls Try.prog 78 #[.string (str b)] W fun e w' => e = .returned (.tuple #[.agg (d.map byteVal).toArray, .int .i64 k, .int .i64 0]) ∧ Below W.heap.size W w') :
    Calls Try.prog 77 #[.pointer (some ⟨q, 0, none⟩), .func (.func 78) #[] #[]] w (DigMade q w (b.drop k, 0) d) := by
  have hq := h.lt
  have HA := hide h
  have HD := hide (show (d.map byteVal).length = 32 from by rw [List.length_map]; exact hd)
  have KE := hide fun W (h : RdAt W q (b, 0)) => rerr_at h
  have KA := hide K
  have hsz : (str b).size ≤ 50000000 := by rw [str_size]; exact hs
  have hks : k ≤ (str b).size := by rw [str_size]; exact hk
  have HX : Hid ((str b).extract k (str b).size = str (b.drop k)) := hide (ext_tail b k)
  have HT := hide fun W (h : RdAt W q (b, 0)) => show RdAt (W.setCell ⟨q, 0, none⟩ (.string ((str b).extract k (str b).size))) q (b.drop k, 0) from by
    have h2 := VRow.set h 0 (.string (str (b.drop k)))
    rw [unhide HX]
    exact h2
  clear h K hd hk hs HX
  generalize b.drop k = R at *
  go_enter Try.func77, Try.ntmps77
  go_wp2_with (first
    | (go_at_call 49; refine (unhide KE _ (((unhide HA).alloc _).alloc _)).mono ?_; rintro y w1 ⟨rfl, hw⟩; have HS := hide (start_of hw); have HA1 := hide ((unhide HA).after (unhide HS).below); have c0 := (unhide HA1).cell 0 _ rfl; dsimp only at c0; clear hw)
    | (go_at_call 78; refine (unhide KA _).mono ?_; rintro y w2 ⟨rfl, hb⟩; have HB := hide hb; clear hb c0)
    | (refine store_row (by rfl) 39 (.tmp 6) (.tmp 20) (by rfl) w2.heap.size (d.map byteVal) (by rfl) (by rfl) 39 (zero32.map byteVal) (VRow.newAt rfl) 32 sizeDg (unhide HD) rfl (one_bytes _) ?_; intro w3 ho3 hr3; have HO3 := hide ho3; have HB3 := hide (below_only ((unhide HB).alloc (unhide HB).size (.cells (zero32.map byteVal).toArray 39)) ho3 (unhide HB).size); have HA3 := hide ((unhide HA1).after (unhide HB3)); have HZ0 := hide ((unhide HS).z0.after (unhide HB3)); have hqb := Nat.lt_of_lt_of_le (unhide HA1).lt (unhide HB).size; have HY6 := hide (hr3.setNe (B := q) (by omega) 0 (.string ((str b).extract k (str b).size))); have HY0 := hide ((unhide HZ0).setNe (B := q) (by omega) 0 (.string ((str b).extract k (str b).size))); have c3 := (unhide HA3).cell 0 _ rfl; have f3 := (unhide HA3).frozen 0; try dsimp only at c3; clear ho3 hr3 hqb)
    | (refine load_row (by rfl) 39 (.tmp 6) (by rfl) w2.heap.size (by rfl) 39 (d.map byteVal) (unhide HY6) 32 32 5 Try.underlying39 sizeDg (unhide HD) ?_)
    | (refine store_row (by rfl) 39 (.tmp 4) (.tmp 38) (by rfl) w.heap.size (d.map byteVal) (by rfl) (by rfl) 39 (zero32.map byteVal) (unhide HY0) 32 sizeDg (unhide HD) rfl (one_bytes _) ?_; intro w5 ho5 hr5; have HR5 := hide hr5; have HO5 := hide ho5; clear ho5 hr5))
  refine bodyPost_ret (v := .agg (d.map byteVal).toArray) ?_ rfl ⟨rfl, ?_, ?_⟩
  · exact results_row49 _ _ w.heap.size _ rfl (unhide HR5) (unhide HD)
  · exact (unhide HT _ (unhide HA3)).only (unhide HO5) (by omega)
  · exact ((beside_of ((unhide HS).below.trans ((unhide HB3).mono (unhide HS).below.size))).trans (beside_set q 0 _ _)).only (unhide HO5) (Nat.le_refl _)
end Go.Proofs.Ythchcjjpplcfnaa

namespace Go.Proofs.Ythchcjjpplcfnaa
open Go.RowKit

theorem takeD_any {w : World} {q : Nat} {st : St} (h : RdAt w q st) (hs : st.1.length ≤ 50000000) :
    Calls Try.prog 77 #[.pointer (some ⟨q, 0, none⟩), .func (.func 78) #[] #[]] w (DigMade q w (rDigest st).2 (rDigest st).1) := by
  obtain ⟨b, e⟩ := st
  rw [rDigest_ahead]
  dsimp only at hs ⊢
  by_cases he : e = 0
  · subst he
    by_cases hx : (aheadD b).2.2 = 0
    · rw [show got (b, 0) (aheadD b).2.2 zero32 (aheadD b).1 = (aheadD b).1 from by simp [got, hx], show cut (b, 0) (aheadD b).2.1 (aheadD b).2.2 = (b.drop (aheadD b).2.1, 0) from by simp [cut, hx]]
      refine takeD_good (aheadD_ok b hx) hs (aheadD_len b) h fun W => ?_
      have := digestAhead_any b W
      rw [hx] at this
      exact this
    · rw [show got (b, 0) (aheadD b).2.2 zero32 (aheadD b).1 = zero32 from by simp [got, hx], show cut (b, 0) (aheadD b).2.1 (aheadD b).2.2 = (b, (aheadD b).2.2) from by simp [cut, hx]]
      exact takeD_wrong hx (aheadD_len b) h fun W => digestAhead_any b W
  · rw [show got (b, e) (aheadD b).2.2 zero32 (aheadD b).1 = zero32 from if_pos he, show cut (b, e) (aheadD b).2.1 (aheadD b).2.2 = (b, e) from if_pos he]
    exact takeD_bad he h

set_option maxRecDepth 100000 in
set_option maxHeartbeats 400000 in
theorem rdigest_any {w : World} {p : Addr} {st : St} {own : Nat → Prop} (h : Rd w p st own) (hs : st.1.length ≤ 50000000) :
    Calls Try.prog 48 #[.pointer (some p)] w (Turned Rd own p w (rDigest st).2 (.agg ((rDigest st).1.map byteVal).toArray)) := by
  obtain ⟨q, rfl, h1, ho⟩ := h
  have hq := h1.lt
  have HK := hide (takeD_any (h1.alloc (.cells (zero32.map byteVal).toArray 39)) hs)
  have hl : (rDigest st).1.length = 32 := by
    rw [rDigest_ahead]
    show (got st _ zero32 _).length = 32
    unfold got
    split
    · rfl
    · split
      · rfl
      · exact aheadD_len _
  have HL := hide (show ((rDigest st).1.map byteVal).length = 32 from by rw [List.length_map]; exact hl)
  generalize (rDigest st).1 = d at HK HL ⊢
  generalize (rDigest st).2 = S at HK ⊢
  have HZ := hide (VRow.new w 39 (zero32.map byteVal))
  have HB := hide (below_alloc' (w := w) (.cells (zero32.map byteVal).toArray 39))
  have HO := hide ho
  clear h1 hl hs ho
  go_enter Try.func48, Try.ntmps48
  go_wp2_with (first
    | (go_at_call 77; refine (unhide HK).mono ?_; rintro y w1 ⟨rfl, hr, hb⟩; have HR := hide hr; have HBS := hide hb; have HZ1 := hide ((unhide HZ).beside hb (by omega)); clear hr hb)
    | (refine store_row (by rfl) 39 (.tmp 2) (.tmp 4) (by rfl) w.heap.size (d.map byteVal) (by rfl) (by rfl) 39 (zero32.map byteVal) (unhide HZ1) 32 sizeDg (unhide HL) rfl (one_bytes _) ?_; intro w2 ho2 hr2; have HR2 := hide hr2; have HO2 := hide ho2; clear ho2 hr2))
  refine bodyPost_ret (v := .agg (d.map byteVal).toArray) ?_ rfl ⟨own, rfl, ⟨q, rfl, (unhide HR).only (unhide HO2) (by omega), unhide HO⟩, fun g hg => .inl hg, ?_⟩
  · exact results_row24 _ _ w.heap.size _ rfl (unhide HR2) (unhide HL)
  · have h5 := ((beside_of (own := (· = q)) (unhide HB)).trans (unhide HBS)).only (unhide HO2) (Nat.le_refl _)
    exact ⟨h5.os, h5.tape, h5.output, h5.size, fun k hk hk2 => h5.block k hk fun e => hk2 ((unhide HO k).2 e)⟩

end Go.Proofs.Ythchcjjpplcfnaa

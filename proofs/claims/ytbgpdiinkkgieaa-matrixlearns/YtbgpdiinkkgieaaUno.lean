/-
  A matrix in memory, and the document's rows beside it: what learning and merging do to them.
-/
import Derived.Test.YtbgpdiinkkgieaaDuo
namespace Go.Proofs.Ytbgpdiinkkgieaa
open Go.RowKit

/-- A matrix that owns nothing that was there, and rows that it does not own. -/
structure UnoO (M : World → Addr → List (List Vc.D) → (Nat → Prop) → Prop) (w : World) (p : Addr) (rows : List (List Vc.D)) (r : Option Addr) (dr : List (List Vc.D)) (W : World) (own : Nat → Prop) : Prop where
  m : M W p rows own
  g : ∀ g, own g → w.heap.size ≤ g
  below : Below w.heap.size w W
  rl : RL W r dr
  pv : RProv (fun g => ¬ own g) W r dr
def Uno (M : World → Addr → List (List Vc.D) → (Nat → Prop) → Prop) (w : World) (p : Addr) (rows : List (List Vc.D)) (r : Option Addr) (dr : List (List Vc.D)) (W : World) : Prop := ∃ own, UnoO M w p rows r dr W own
theorem rprov_old {own : Nat → Prop} {w W : World} {a : Option Addr} {rows : List (List Vc.D)} (h : RL w a rows) (ho : ∀ g, own g → w.heap.size ≤ g) (hb : Below w.heap.size w W) : RProv (fun g => ¬ own g) W a rows := by
  refine RProv.after (fun h0 g o e => ?_) h hb
  obtain ⟨g', o', e', hg, hc⟩ := h h0
  rw [e] at e'
  injection e' with e'
  injection e' with e1 e2
  subst e1
  subst e2
  refine ⟨fun h1 => Nat.lt_irrefl _ (Nat.lt_of_lt_of_le hg (ho _ h1)), fun j ds r c hj hcell ad ead h1 h2 => ?_⟩
  obtain ⟨r', c', k1, k2, k3⟩ := hc j ds hj
  rw [hcell] at k1
  injection k1 with k1
  injection k1 with k1 _ _
  subst k1
  obtain ⟨g2, o2, e2, hg2, _⟩ := k3 h1
  rw [ead] at e2
  injection e2 with e2
  subst e2
  exact Nat.lt_irrefl _ (Nat.lt_of_lt_of_le hg2 (ho _ h2))
theorem sprov_old {own : Nat → Prop} {w : World} {r : Option Addr} {v : List Vc.D} (hs : Sl w r v) (ho : ∀ g, own g → w.heap.size ≤ g) : SProv (fun g => ¬ own g) r v := fun ad e h0 h1 => by
  obtain ⟨g, o, e', hg, _⟩ := hs h0
  rw [e] at e'
  injection e' with e'
  subst e'
  exact Nat.lt_irrefl _ (Nat.lt_of_lt_of_le hg (ho _ h1))
section
variable {M : World → Addr → List (List Vc.D) → (Nat → Prop) → Prop} {w W W' : World} {p : Addr} {rows dr : List (List Vc.D)} {r : Option Addr}
theorem Uno.after (P : Prg M) (h : Uno M w p rows r dr W) (hb : Below W.heap.size W W') : Uno M w p rows r dr W' := by
  obtain ⟨own, h⟩ := h
  exact ⟨own, P.after h.m hb, h.g, below_grow h.below (Nat.le_refl _) hb, h.rl.after hb, h.pv.after h.rl hb⟩
theorem Uno.below (h : Uno M w p rows r dr W) : Below w.heap.size w W := by
  obtain ⟨own, h⟩ := h
  exact h.below
theorem Uno.rl (h : Uno M w p rows r dr W) : RL W r dr := by
  obtain ⟨own, h⟩ := h
  exact h.rl
theorem Uno.vecs (P : Prg M) (h : Uno M w p rows r dr W) : Vecs rows ∧ 0 < rows.length ∧ rows.length ≤ 64 := by
  obtain ⟨own, h⟩ := h
  exact P.vecs h.m
theorem Uno.few (P : Prg M) (h : Uno M w p rows r dr W) : FewR rows := few_vecs (h.vecs P).1 (h.vecs P).2.2
theorem uno_learn (P : Prg M) (h : Uno M w p rows r dr W) (peer : Int) (rv : Option Addr) (c : Nat) (v : List Vc.D) (hv : v.length ≤ 100000) (hc : v.length ≤ c) (hs : Sl w rv v) :
    Calls Try.prog 12 #[.pointer (some p), .int .i64 peer, .slice rv v.length c] W fun e w' => e = .returned (.int .i64 (learnL rows peer v).2) ∧ Uno M w p (learnL rows peer v).1 r dr w' := by
  obtain ⟨own, h⟩ := h
  refine (P.learn h.m peer rv c v hv hc (hs.after h.below) (sprov_old hs h.g)).mono ?_
  rintro e w' ⟨own', rfl, hm, ho, hb⟩
  exact ⟨rfl, own', hm, own_beside h.below (Nat.le_refl _) h.g ho, below_beside h.below (Nat.le_refl _) h.g hb, h.rl.beside h.pv hb, RProv.beside h.rl h.pv hb ho⟩
theorem uno_merge (P : Prg M) (h : Uno M w p rows r dr W) (rv : Option Addr) (c : Nat) (more : List (List Vc.D)) (hv : FewR more) (hc : more.length ≤ c) (hs : RL w rv more) :
    Calls Try.prog 10 #[.pointer (some p), .slice rv more.length c] W fun e w' => e = .returned (.int .i64 (mergeL rows more).2) ∧ Uno M w p (mergeL rows more).1 r dr w' := by
  obtain ⟨own, h⟩ := h
  refine (P.merge h.m rv c more hv hc (hs.after h.below) (rprov_old hs h.g h.below)).mono ?_
  rintro e w' ⟨own', rfl, hm, ho, hb⟩
  exact ⟨rfl, own', hm, own_beside h.below (Nat.le_refl _) h.g ho, below_beside h.below (Nat.le_refl _) h.g hb, h.rl.beside h.pv hb, RProv.beside h.rl h.pv hb ho⟩
theorem uno_refLearn (P : Prg M) (h : Uno M w p rows r dr W) (ca : Nat) (hca : dr.length ≤ ca) (hf : FewR dr) (peer : Int) (rv : Option Addr) (c : Nat) (v : List Vc.D) (hv : v.length ≤ 9223372036854775807) (hs : Sl w rv v) :
    Calls Try.prog 13 #[.slice r dr.length ca, .int .i64 peer, .slice rv v.length c] W fun e w' => ∃ r' c', e = .returned (.tuple #[.slice r' (learnL dr peer v).1.length c', .int .i64 (learnL dr peer v).2]) ∧ (learnL dr peer v).1.length ≤ c' ∧ Uno M w p rows r' (learnL dr peer v).1 w' ∧ Uno M w p rows r dr w' := by
  have h0 := h
  obtain ⟨own, h⟩ := h
  refine (refLearn_any (fun g => ¬ own g) r rv ca c dr hf hca peer v hv W (fun g hg h1 => Nat.lt_irrefl _ (Nat.lt_of_lt_of_le (P.lt h.m g h1) hg)) h.rl h.pv (hs.after h.below)).mono ?_
  rintro e w' ⟨r', c', rfl, hc', hr, hp, hb⟩
  exact ⟨r', c', rfl, hc', ⟨own, P.after h.m hb, h.g, below_grow h.below (Nat.le_refl _) hb, hr, hp⟩, h0.after P hb⟩
theorem uno_refMerge (P : Prg M) (h : Uno M w p rows r dr W) (ca : Nat) (hca : dr.length ≤ ca) (hf : FewR dr) (rv : Option Addr) (c : Nat) (more : List (List Vc.D)) (hv : FewR more) (hs : RL w rv more) :
    Calls Try.prog 11 #[.slice r dr.length ca, .slice rv more.length c] W fun e w' => ∃ r' c', e = .returned (.tuple #[.slice r' (mergeL dr more).1.length c', .int .i64 (mergeL dr more).2]) ∧ (mergeL dr more).1.length ≤ c' ∧ Uno M w p rows r' (mergeL dr more).1 w' := by
  obtain ⟨own, h⟩ := h
  refine (refMerge_any (fun g => ¬ own g) r rv ca c dr more hf hv hca W (fun g hg h1 => Nat.lt_irrefl _ (Nat.lt_of_lt_of_le (P.lt h.m g h1) hg)) h.rl h.pv (hs.after h.below)).mono ?_
  rintro e w' ⟨r', c', rfl, hc', hr, hp, hb⟩
  exact ⟨r', c', rfl, hc', ⟨own, P.after h.m hb, h.g, below_grow h.below (Nat.le_refl _) hb, hr, hp⟩⟩
/-- Learnt already, or not yet. -/
def UnoX (M : World → Addr → List (List Vc.D) → (Nat → Prop) → Prop) (w : World) (p : Addr) (rows : List (List Vc.D)) (r : Option Addr) (dr : List (List Vc.D)) (peer : Int) (v : List Vc.D) (W : World) : Prop := ∃ st, Uno M w p st r dr W ∧ learnL st peer v = learnL rows peer v
theorem UnoX.start (P : Prg M) (h : Uno M w p rows r dr W) (hb : Below W.heap.size W W') (peer : Int) (v : List Vc.D) : UnoX M w p rows r dr peer v W' := ⟨rows, h.after P hb, rfl⟩
theorem UnoX.done (hv : Vecs rows) {peer : Int} {v : List Vc.D} (h : Uno M w p (learnL rows peer v).1 r dr W) : UnoX M w p rows r dr peer v W := ⟨_, h, learnL_idem hv peer v⟩
theorem UnoX.below {peer : Int} {v : List Vc.D} (h : UnoX M w p rows r dr peer v W) : Below w.heap.size w W := by
  obtain ⟨st, h, _⟩ := h
  exact h.below
theorem unoX_learn (P : Prg M) {peer : Int} {v : List Vc.D} (h : UnoX M w p rows r dr peer v W) (rv : Option Addr) (c : Nat) (hv : v.length ≤ 100000) (hc : v.length ≤ c) (hs : Sl w rv v) :
    Calls Try.prog 12 #[.pointer (some p), .int .i64 peer, .slice rv v.length c] W fun e w' => e = .returned (.int .i64 (learnL rows peer v).2) ∧ Uno M w p (learnL rows peer v).1 r dr w' := by
  obtain ⟨st, h, e⟩ := h
  have K := uno_learn P h peer rv c v hv hc hs
  rw [e] at K
  exact K
theorem uno_rows (P : Prg M) (h : Uno M w p rows r dr W) : Calls Try.prog 15 #[.pointer (some p)] W fun e w' => ∃ r' c, e = .returned (.slice r' rows.length c) ∧ RL w' r' rows ∧ Below W.heap.size W w' := by
  obtain ⟨own, h⟩ := h
  refine (P.rows h.m).mono ?_
  rintro e w' ⟨r', c, rfl, _, hs, hb⟩
  exact ⟨r', c, rfl, hs, hb⟩
theorem uno_stable (P : Prg M) (h : Uno M w p rows r dr W) : Calls Try.prog 17 #[.pointer (some p)] W fun e w' => ∃ r' c, e = .returned (.slice r' (stableL rows).length c) ∧ Sl w' r' (stableL rows) ∧ Below W.heap.size W w' := by
  obtain ⟨own, h⟩ := h
  refine (P.stable h.m).mono ?_
  rintro e w' ⟨r', c, rfl, _, hs, _, hb⟩
  exact ⟨r', c, rfl, hs, hb⟩
theorem uno_steady (P : Prg M) (h : Uno M w p rows r dr W) (q c : Int) : Calls Try.prog 19 #[.pointer (some p), .agg #[.int .i64 q, .int .i64 c]] W fun e w' => e = .returned (.bool (has (stableL rows) (q, c))) ∧ Below W.heap.size W w' := by
  obtain ⟨own, h⟩ := h
  exact P.steady h.m q c
theorem uno_keep (P : Prg M) {A B : Prop} (hb : Below W.heap.size W W') (h : A ∧ B ∧ Uno M w p rows r dr W) : Uno M w p rows r dr W' := h.2.2.after P hb
end
end Go.Proofs.Ytbgpdiinkkgieaa

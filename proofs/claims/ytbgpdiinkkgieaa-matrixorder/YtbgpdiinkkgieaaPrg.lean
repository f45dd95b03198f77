/-
  What the program's matrix must answer, as the laws want it: a matrix in memory, and the blocks that it owns.
-/
import Derived.Test.YtbgpdiinkkgieaaMat
import Derived.Test.YtbgpdiinkkgieaaFacts
namespace Go.Proofs.Ytbgpdiinkkgieaa
open Go.RowKit

/-- Of what was there nothing turns but the blocks that are owned. -/
structure Beside (own : Nat → Prop) (w w' : World) : Prop where
  os : w'.os = w.os
  tape : w'.tape = w.tape
  output : w'.output = w.output
  size : w.heap.size ≤ w'.heap.size
  block : ∀ k, k < w.heap.size → ¬ own k → w'.heap[k]? = w.heap[k]?
theorem beside_of {own : Nat → Prop} {w w' : World} (h : Below w.heap.size w w') : Beside own w w' := ⟨h.os, h.tape, h.output, h.size, fun k hk _ => h.block k hk⟩
theorem Beside.below {own : Nat → Prop} {w w' : World} {B : Nat} (h : Beside own w w') (hB : B ≤ w.heap.size) (ho : ∀ g, own g → B ≤ g) : Below B w w' :=
  ⟨h.os, h.tape, h.output, h.size, fun k hk => h.block k (by omega) fun hk' => by have := ho k hk'; omega⟩
/-- A list that does not lie in a block that is owned. -/
def SProv (O : Nat → Prop) (r : Option Addr) (ds : List Vc.D) : Prop := ∀ ad, r = some ad → 0 < ds.length → O ad.block
theorem Sl.beside {own : Nat → Prop} {w w' : World} {r : Option Addr} {ds : List Vc.D} (h : Sl w r ds) (hp : SProv (fun g => ¬ own g) r ds) (hb : Beside own w w') : Sl w' r ds := fun h0 => by
  obtain ⟨g, o, e, hg, hc⟩ := h h0
  have e1 : ∀ k, w'.cell? ⟨g, k, Option.none⟩ = w.cell? ⟨g, k, Option.none⟩ := fun k => World.cell?_of_block (w := w) (hb.block g hg (hp _ e h0))
  refine ⟨g, o, e, Nat.lt_of_lt_of_le hg hb.size, fun j d hj => ?_⟩
  rw [e1, e1]
  exact hc j d hj
theorem SProv.beside {own own' : Nat → Prop} {w : World} {r : Option Addr} {ds : List Vc.D} (h : Sl w r ds) (hp : SProv (fun g => ¬ own g) r ds) (ho : ∀ g, own' g → own g ∨ w.heap.size ≤ g) : SProv (fun g => ¬ own' g) r ds := fun ad e h0 h1 => by
  obtain ⟨g, o, e', hg, _⟩ := h h0
  rw [e] at e'
  injection e' with e'
  subst e'
  rcases ho _ h1 with h2 | h2
  · exact hp _ e h0 h2
  · exact Nat.lt_irrefl _ (Nat.lt_of_lt_of_le hg h2)
theorem RL.beside {own : Nat → Prop} {w w' : World} {a : Option Addr} {rows : List (List Vc.D)} (h : RL w a rows) (hp : RProv (fun g => ¬ own g) w a rows) (hb : Beside own w w') : RL w' a rows := fun h0 => by
  obtain ⟨g, o, e, hg, hc⟩ := h h0
  obtain ⟨p1, p2⟩ := hp h0 g o e
  refine ⟨g, o, e, Nat.lt_of_lt_of_le hg hb.size, fun j ds hj => ?_⟩
  obtain ⟨r, c, h1, h2, h3⟩ := hc j ds hj
  exact ⟨r, c, (World.cell?_of_block (w := w) (a := ⟨g, o + j, Option.none⟩) (hb.block g hg p1)).trans h1, h2, h3.beside (p2 j ds r c hj h1) hb⟩
theorem RProv.beside {own own' : Nat → Prop} {w w' : World} {a : Option Addr} {rows : List (List Vc.D)} (h : RL w a rows) (hp : RProv (fun g => ¬ own g) w a rows) (hb : Beside own w w') (ho : ∀ g, own' g → own g ∨ w.heap.size ≤ g) : RProv (fun g => ¬ own' g) w' a rows := fun h0 g o e => by
  obtain ⟨g', o', e', hg, hc⟩ := h h0
  rw [e] at e'
  injection e' with e'
  injection e' with e1 e2
  subst e1
  subst e2
  obtain ⟨p1, p2⟩ := hp h0 g o e
  refine ⟨fun h1 => ?_, fun j ds r c hj hcell => ?_⟩
  · rcases ho _ h1 with h2 | h2
    · exact p1 h2
    · omega
  · rw [World.cell?_of_block (w := w) (a := ⟨g, o + j, Option.none⟩) (hb.block g hg p1)] at hcell
    obtain ⟨r', c', h1, h2, h3⟩ := hc j ds hj
    have h4 := p2 j ds r c hj hcell
    rw [hcell] at h1
    injection h1 with h1
    injection h1 with h1 _ _
    subst h1
    exact SProv.beside h3 h4 ho
/-- What a program's matrix must keep and answer. M: there is a matrix of these rows, and it owns these blocks. -/
structure Prg (M : World → Addr → List (List Vc.D) → (Nat → Prop) → Prop) : Prop where
  lt : ∀ {w p rows own}, M w p rows own → ∀ g, own g → g < w.heap.size
  vecs : ∀ {w p rows own}, M w p rows own → Vecs rows ∧ 0 < rows.length ∧ rows.length ≤ 64
  keep : ∀ {w w' p rows own}, M w p rows own → w.heap.size ≤ w'.heap.size → (∀ g, own g → w'.heap[g]? = w.heap[g]?) → M w' p rows own
  new : ∀ (n : Nat) w, 0 < n → n ≤ 64 → Calls Try.prog 8 #[.int .i64 n] w fun e w' => ∃ p own, e = .returned (.pointer (some p)) ∧ M w' p (List.replicate n []) own ∧ (∀ g, own g → w.heap.size ≤ g) ∧ Below w.heap.size w w'
  newNil : ∀ (n : Int) w, n < 1 ∨ 64 < n → Calls Try.prog 8 #[.int .i64 n] w fun e w' => e = .returned (.pointer none) ∧ Below w.heap.size w w'
  peers : ∀ {w p rows own}, M w p rows own → Calls Try.prog 9 #[.pointer (some p)] w fun e w' => e = .returned (.int .i64 rows.length) ∧ Below w.heap.size w w'
  row : ∀ {w p rows own}, M w p rows own → ∀ (i : Nat), i < rows.length → Calls Try.prog 21 #[.pointer (some p), .int .i64 i] w (Made w (rows[i]?.getD []))
  rows : ∀ {w p rows own}, M w p rows own → Calls Try.prog 15 #[.pointer (some p)] w fun e w' => ∃ r c, e = .returned (.slice r rows.length c) ∧ rows.length ≤ c ∧ RL w' r rows ∧ Below w.heap.size w w'
  learn : ∀ {w p rows own}, M w p rows own → ∀ (peer : Int) (r : Option Addr) (c : Nat) (v : List Vc.D), v.length ≤ 100000 → v.length ≤ c → Sl w r v → SProv (fun g => ¬ own g) r v → Calls Try.prog 12 #[.pointer (some p), .int .i64 peer, .slice r v.length c] w fun e w' => ∃ own', e = .returned (.int .i64 (learnL rows peer v).2) ∧ M w' p (learnL rows peer v).1 own' ∧ (∀ g, own' g → own g ∨ w.heap.size ≤ g) ∧ Beside own w w'
  merge : ∀ {w p rows own}, M w p rows own → ∀ (r : Option Addr) (c : Nat) (more : List (List Vc.D)), FewR more → more.length ≤ c → RL w r more → RProv (fun g => ¬ own g) w r more → Calls Try.prog 10 #[.pointer (some p), .slice r more.length c] w fun e w' => ∃ own', e = .returned (.int .i64 (mergeL rows more).2) ∧ M w' p (mergeL rows more).1 own' ∧ (∀ g, own' g → own g ∨ w.heap.size ≤ g) ∧ Beside own w w'
  stable : ∀ {w p rows own}, M w p rows own → Calls Try.prog 17 #[.pointer (some p)] w fun e w' => ∃ r c, e = .returned (.slice r (stableL rows).length c) ∧ (stableL rows).length ≤ c ∧ Sl w' r (stableL rows) ∧ Fresh w.heap.size r (stableL rows) ∧ Below w.heap.size w w'
  steady : ∀ {w p rows own}, M w p rows own → ∀ (q c : Int), Calls Try.prog 19 #[.pointer (some p), .agg #[.int .i64 q, .int .i64 c]] w fun e w' => e = .returned (.bool (has (stableL rows) (q, c))) ∧ Below w.heap.size w w'
  nPeers : ∀ w, Calls Try.prog 9 #[.pointer none] w fun e w' => e = .returned (.int .i64 0) ∧ Below w.heap.size w w'
  nRow : ∀ (i : Int) w, Calls Try.prog 21 #[.pointer none, .int .i64 i] w (Made w [])
  nRows : ∀ w, Calls Try.prog 15 #[.pointer none] w fun e w' => ∃ r c, e = .returned (.slice r 0 c) ∧ Below w.heap.size w w'
  nLearn : ∀ (peer : Int) (r : Option Addr) (n c : Nat) w, Calls Try.prog 12 #[.pointer none, .int .i64 peer, .slice r n c] w fun e w' => e = .returned (.int .i64 13) ∧ Below w.heap.size w w'
  nMerge : ∀ (r : Option Addr) (n c : Nat) w, Calls Try.prog 10 #[.pointer none, .slice r n c] w fun e w' => e = .returned (.int .i64 13) ∧ Below w.heap.size w w'
  nStable : ∀ w, Calls Try.prog 17 #[.pointer none] w (Made w [])
  nSteady : ∀ (q c : Int) w, Calls Try.prog 19 #[.pointer none, .agg #[.int .i64 q, .int .i64 c]] w fun e w' => e = .returned (.bool false) ∧ Below w.heap.size w w'
theorem Prg.after {M} (P : Prg M) {w w' : World} {p : Addr} {rows : List (List Vc.D)} {own : Nat → Prop} (h : M w p rows own) (hb : Below w.heap.size w w') : M w' p rows own := P.keep h hb.size fun g hg => hb.block g (P.lt h g hg)
theorem below_beside {own : Nat → Prop} {n : Nat} {a w w' : World} (h : Below n a w) (hn : n ≤ a.heap.size) (ho : ∀ g, own g → n ≤ g) (hb : Beside own w w') : Below n a w' := h.trans (hb.below (Nat.le_trans hn h.size) ho)
theorem own_beside {own own' : Nat → Prop} {n : Nat} {a w : World} (h : Below n a w) (hn : n ≤ a.heap.size) (ho : ∀ g, own g → n ≤ g) (hb : ∀ g, own' g → own g ∨ w.heap.size ≤ g) : ∀ g, own' g → n ≤ g := fun g hg => by
  rcases hb g hg with h1 | h1
  · exact ho g h1
  · have := h.size; omega
theorem prov_fresh {own : Nat → Prop} {w : World} {r : Option Addr} {ds : List Vc.D} (h : Fresh w.heap.size r ds) (ho : ∀ g, own g → g < w.heap.size) : SProv (fun g => ¬ own g) r ds := fun ad e h0 h1 => Nat.lt_irrefl _ (Nat.lt_of_lt_of_le (ho _ h1) (h ad e h0))
theorem mgN_vecs {rows more : List (List Vc.D)} (h : Vecs rows) : ∀ n, Vecs (mgN rows more n).1
  | 0 => h
  | n + 1 => by
    have ih := mgN_vecs (more := more) h n
    rw [mgN]
    split
    · exact ih
    · split
      · exact h
      · exact learnL_vecs ih _ _
theorem mgN_len (rows more : List (List Vc.D)) : ∀ n, (mgN rows more n).1.length = rows.length
  | 0 => rfl
  | n + 1 => by
    have ih := mgN_len rows more n
    rw [mgN]
    split
    · exact ih
    · split
      · rfl
      · rw [learnL_len]; exact ih
theorem mergeL_len (rows more : List (List Vc.D)) : (mergeL rows more).1.length = rows.length := by
  unfold mergeL
  split
  · rfl
  · exact mgN_len _ _ _
theorem mergeL_vecs {rows : List (List Vc.D)} (h : Vecs rows) (more : List (List Vc.D)) : Vecs (mergeL rows more).1 := by
  unfold mergeL
  split
  · exact h
  · exact mgN_vecs h _
theorem few_vecs {rows : List (List Vc.D)} (h : Vecs rows) (hl : rows.length ≤ 64) : FewR rows := ⟨by omega, fun ds hds => by have := Vc.vec_len (h ds hds); omega⟩
end Go.Proofs.Ytbgpdiinkkgieaa

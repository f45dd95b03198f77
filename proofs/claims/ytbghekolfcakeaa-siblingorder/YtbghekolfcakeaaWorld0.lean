/-
  What is kept while leaves grow: facts on memory.
-/
import Derived.Test.YtbghekolfcakeaaSyncsLaw
import Derived.Test.YtbghekolfcakeaaNet
namespace Go.Proofs.Ytbghekolfcakeaa
open Go.RowKit

/-- Three values in a row. -/
def rows3 (f : Nat → Value) : List Value := [f 0, f 1, f 2]
def put3 (f : Nat → Value) (p : Nat) (v : Value) : Nat → Value := fun q => if q = p then v else f q
theorem rows3_get {f : Nat → Value} {p : Nat} (hp : p < 3) : (rows3 f)[p]? = some (f p) := by
  rcases (show p = 0 ∨ p = 1 ∨ p = 2 by omega) with rfl | rfl | rfl <;> rfl
theorem rows3_set {f : Nat → Value} {p : Nat} (hp : p < 3) (v : Value) : (rows3 f).set p v = rows3 (put3 f p v) := by
  rcases (show p = 0 ∨ p = 1 ∨ p = 2 by omega) with rfl | rfl | rfl <;> rfl
theorem rows3_len (f : Nat → Value) : (rows3 f).length = 3 := rfl

/-- Steps, wherever they lie. -/
abbrev St := Int × Int × Int × Int
def SS (W : World) (a : Option Addr) (ss : List St) : Prop :=
  0 < ss.length → ∃ g o, a = some ⟨g, o, none⟩ ∧ g < W.heap.size ∧ ∀ (j : Nat) (s : St), ss[j]? = some s → W.cell? ⟨g, o + j * 4, none⟩ = some (.int .i64 s.1) ∧ W.cell? ⟨g, o + j * 4 + 1, none⟩ = some (.int .i64 s.2.1) ∧ W.cell? ⟨g, o + j * 4 + 2, none⟩ = some (.int .i64 s.2.2.1) ∧ W.cell? ⟨g, o + j * 4 + 3, none⟩ = some (.int .i64 s.2.2.2)
theorem SS.after {W W' : World} {a : Option Addr} {ss : List St} (h : SS W a ss) (hb : Below W.heap.size W W') : SS W' a ss := fun h0 => by
  obtain ⟨g, o, e, hg, hc⟩ := h h0
  refine ⟨g, o, e, Nat.lt_of_lt_of_le hg hb.size, fun j s hj => ?_⟩
  rw [hb.cell (p := ⟨g, o + j * 4, none⟩) hg, hb.cell (p := ⟨g, o + j * 4 + 1, none⟩) hg, hb.cell (p := ⟨g, o + j * 4 + 2, none⟩) hg, hb.cell (p := ⟨g, o + j * 4 + 3, none⟩) hg]
  exact hc j s hj

/-- What keeps versions that lie in blocks that may be: those blocks are kept. -/
theorem SV.keep {O : Nat → Prop} {W W' : World} {a : Option Addr} {vs : List Vc.V} (h : SV W a vs) (hp : Prov O W a vs) (hsz : W.heap.size ≤ W'.heap.size) (hk : ∀ g, O g → g < W.heap.size → W'.heap[g]? = W.heap[g]?) : SV W' a vs := fun h0 => by
  obtain ⟨g, o, e, hg, hc⟩ := h h0
  obtain ⟨hO, hO2⟩ := hp h0 g o e
  have e1 : ∀ k, W'.cell? ⟨g, k, Option.none⟩ = W.cell? ⟨g, k, Option.none⟩ := fun k => World.cell?_of_block (w := W) (hk g hO hg)
  refine ⟨g, o, e, Nat.lt_of_lt_of_le hg hsz, fun j v hj => ?_⟩
  obtain ⟨r, c, x0, x1, x2, x3, x4, x5, x6⟩ := hc j v hj
  refine ⟨r, c, (e1 _).trans x0, (e1 _).trans x1, (e1 _).trans x2, (e1 _).trans x3, (e1 _).trans x4, x5, fun hl => ?_⟩
  obtain ⟨g2, o2, e2, hg2, hc2⟩ := x6 hl
  have hO3 : O g2 := hO2 j v r c hj x2 _ e2 hl
  have e3 : ∀ k, W'.cell? ⟨g2, k, Option.none⟩ = W.cell? ⟨g2, k, Option.none⟩ := fun k => World.cell?_of_block (w := W) (hk g2 hO3 hg2)
  exact ⟨g2, o2, e2, Nat.lt_of_lt_of_le hg2 hsz, fun j d hj => by rw [e3, e3]; exact hc2 j d hj⟩
theorem Prov.keep {O O' : Nat → Prop} {W W' : World} {a : Option Addr} {vs : List Vc.V} (hp : Prov O W a vs) (h : SV W a vs) (hk : ∀ g, O g → g < W.heap.size → W'.heap[g]? = W.heap[g]?) (hO' : ∀ g, O g → g < W.heap.size → O' g) : Prov O' W' a vs := fun h0 g o e => by
  obtain ⟨hO, hO2⟩ := hp h0 g o e
  obtain ⟨g', o', e', hg, hc⟩ := h h0
  rw [e] at e'
  injection e' with e'
  injection e' with e1 e2
  subst e1
  subst e2
  refine ⟨hO' g hO hg, fun j v r c hj hcell ad ead hl => ?_⟩
  rw [World.cell?_of_block (w := W) (a := ⟨g, o + j * 5 + 2, Option.none⟩) (hk g hO hg)] at hcell
  have h3 := hO2 j v r c hj hcell ad ead hl
  obtain ⟨r', c', _, _, x2, _, _, _, x6⟩ := hc j v hj
  rw [hcell] at x2
  injection x2 with x2
  injection x2 with x2 _ _
  subst x2
  obtain ⟨g2, o2, e2, hg2, _⟩ := x6 hl
  rw [ead] at e2
  injection e2 with e2
  subst e2
  exact hO' _ h3 hg2
theorem OV.keep {O : Nat → Prop} {W W' : World} {base : Nat} {l : Value} {vs : List Vc.V} (h : OV O W base l vs) (hsz : W.heap.size ≤ W'.heap.size) (hO : ∀ g, O g → base ≤ g) (hk : ∀ g, base ≤ g → g < W.heap.size → W'.heap[g]? = W.heap[g]?) : OV O W' base l vs := by
  obtain ⟨ps, h1, h2, h3⟩ := h.is
  refine ⟨ps, h1, ⟨h2.1, ?_⟩, fun x hx => ⟨(h3 x hx).1, fun hl => ?_, (h3 x hx).2.2⟩⟩
  · rcases h2.2 with h2 | ⟨g, cap, cur, e1, e2, e3, e4⟩
    · exact .inl h2
    · exact .inr ⟨g, cap, cur, e1, e2, (hk g e2 (Array.getElem?_eq_some_iff.1 e3).1).trans e3, e4⟩
  · obtain ⟨g2, o2, e2, hg2, hc2⟩ := (h3 x hx).2.1 hl
    have hb := hO _ ((h3 x hx).2.2 _ e2 hl).2
    have e3 : ∀ k, W'.cell? ⟨g2, k, Option.none⟩ = W.cell? ⟨g2, k, Option.none⟩ := fun k => World.cell?_of_block (w := W) (hk g2 hb hg2)
    exact ⟨g2, o2, e2, Nat.lt_of_lt_of_le hg2 hsz, fun j d hj => by rw [e3, e3]; exact hc2 j d hj⟩
theorem sv_svn {O O' : Nat → Prop} {row : Option Nat} {W : World} {a : Option Addr} {vs : List Vc.V} (h : SV W a vs) (hp : Prov O W a vs) (hO : ∀ g, O g → some g ≠ row ∧ O' g) : SVN O' row W a vs := fun h0 => by
  obtain ⟨g, o, e, hg, hc⟩ := h h0
  obtain ⟨ps, e1, e2, e3⟩ := sv_list vs o hc (hp h0 g o e).2
  exact ⟨g, o, e, ps, e1, e2, fun x hx => ⟨(e3 x hx).1, (e3 x hx).2.1, fun ad ead hl => hO _ ((e3 x hx).2.2 ad ead hl)⟩⟩

/-- The leaves of three peers, in a row and below. -/
structure Leaves (base : Nat) (row : Option Nat) (R : Nat → Option Addr) (C : Nat → Nat) (L : Nat → List Vc.V) (W : World) : Prop where
  cap : ∀ q, q < 3 → (L q).length ≤ C q
  sv : ∀ q, q < 3 → SV W (R q) (L q)
  prov : ∀ q, q < 3 → Prov (fun g => base ≤ g ∧ some g ≠ row) W (R q) (L q)
theorem Leaves.after {base : Nat} {row : Option Nat} {R : Nat → Option Addr} {C : Nat → Nat} {L : Nat → List Vc.V} {W W' : World} (h : Leaves base row R C L W) (hb : Below W.heap.size W W') : Leaves base row R C L W' :=
  ⟨h.cap, fun q hq => (h.sv q hq).after hb, fun q hq => (h.prov q hq).after (h.sv q hq) hb⟩
theorem Leaves.only {base D : Nat} {row : Option Nat} {R : Nat → Option Addr} {C : Nat → Nat} {L : Nat → List Vc.V} {W W' : World} (h : Leaves base row R C L W) (ho : Only D W W') (hD : D < base) : Leaves base row R C L W' := by
  have hk : ∀ g, (base ≤ g ∧ some g ≠ row) → g < W.heap.size → W'.heap[g]? = W.heap[g]? := fun g hg _ => ho.block g (by omega)
  exact ⟨h.cap, fun q hq => (h.sv q hq).keep (h.prov q hq) (by rw [ho.size]; exact Nat.le_refl _) hk, fun q hq => (h.prov q hq).keep (h.sv q hq) hk fun _ hg _ => hg⟩
theorem Leaves.grown {base : Nat} {l l' : Value} {R : Nat → Option Addr} {C : Nat → Nat} {L : Nat → List Vc.V} {W W' : World} (h : Leaves base l.ownBlock R C L W) (hg : W.grownBy W' l.ownBlock) (hl : l'.ownBlock = l.ownBlock ∨ l'.ownBlock = some W.heap.size) : Leaves base l'.ownBlock R C L W' := by
  have hk : ∀ g, (base ≤ g ∧ some g ≠ l.ownBlock) → g < W.heap.size → W'.heap[g]? = W.heap[g]? := fun g hg' hlt => hg.block g hlt hg'.2
  refine ⟨h.cap, fun q hq => (h.sv q hq).keep (h.prov q hq) hg.size hk, fun q hq => (h.prov q hq).keep (h.sv q hq) hk fun g hg' hlt => ⟨hg'.1, ?_⟩⟩
  rcases hl with e | e
  · rw [e]; exact hg'.2
  · rw [e]
    intro e'
    injection e' with e'
    omega
theorem Leaves.put {base : Nat} {row : Option Nat} {R : Nat → Option Addr} {C : Nat → Nat} {L : Nat → List Vc.V} {W : World} (h : Leaves base row R C L W) (p : Nat) {r : Option Addr} {c : Nat} {x : List Vc.V} (hc : x.length ≤ c) (hs : SV W r x) (hp : Prov (fun g => base ≤ g ∧ some g ≠ row) W r x) : Leaves base row (fun q => if q = p then r else R q) (fun q => if q = p then c else C q) (Vc.updL L p x) W := by
  refine ⟨fun q hq => ?_, fun q hq => ?_, fun q hq => ?_⟩ <;> (unfold Vc.updL; by_cases e : q = p)
  · simp only [if_pos e]; exact hc
  · simp only [if_neg e]; exact h.cap q hq
  · simp only [if_pos e]; exact hs
  · simp only [if_neg e]; exact h.sv q hq
  · simp only [if_pos e]; exact hp
  · simp only [if_neg e]; exact h.prov q hq
def leafF (R : Nat → Option Addr) (C : Nat → Nat) (L : Nat → List Vc.V) : Nat → Value := fun q => .slice (R q) (L q).length (C q)
theorem leafF_put (R : Nat → Option Addr) (C : Nat → Nat) (L : Nat → List Vc.V) (p : Nat) (r : Option Addr) (c : Nat) (x : List Vc.V) : put3 (leafF R C L) p (.slice r x.length c) = leafF (fun q => if q = p then r else R q) (fun q => if q = p then c else C q) (Vc.updL L p x) := by
  funext q
  unfold put3 leafF Vc.updL
  by_cases e : q = p
  · simp [e]
  · simp [e]
def numF (n : Int → Int) : Nat → Value := fun q => .int .i64 (n (q : Int))
theorem numF_put (n : Int → Int) (p : Nat) (x : Int) : put3 (numF n) p (.int .i64 x) = numF (Vc.updI n (p : Int) x) := by
  funext q
  unfold put3 numF Vc.updI
  by_cases e : q = p
  · simp [e]
  · rw [if_neg e, if_neg (by omega)]
end Go.Proofs.Ytbghekolfcakeaa

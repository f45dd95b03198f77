/-
  A range over a function that makes memory of its own ahead of its rounds: each round is told how what it is given lies there, and keeps it. Conditions: those that each theorem names.
-/
import Derived.Test.YtpfighkafmammaaB01
import Derived.RangeFuncNested
import Derived.Test.YtpfighkafmammaaC01
import Derived.Deep.RegionHeld3
import Derived.Test.YtpfighkafmammaaC02
import Derived.Test.YtpfighkafmammaaB02
import Derived.Test.YtpfighkafmammaaE01
namespace Go.Proofs.Ytpfighkafmammaa
open Go.RowKit

/-- What a round keeps of all that there is in V: every block but those of X. -/
structure KX (X : Nat → Prop) (V W W' : World) : Prop where
  os : W'.os = W.os
  tape : W'.tape = W.tape
  output : W'.output = W.output
  size : W.heap.size ≤ W'.heap.size
  same : ∀ k, k < V.heap.size → ¬ X k → W'.heap[k]? = W.heap[k]?
section
variable {X : Nat → Prop} {V A B C : World}
theorem KX.refl (X : Nat → Prop) (V A : World) : KX X V A A := ⟨rfl, rfl, rfl, Nat.le_refl _, fun _ _ _ => rfl⟩
theorem KX.trans (h : KX X V A B) (k : KX X V B C) : KX X V A C := ⟨k.os.trans h.os, k.tape.trans h.tape, k.output.trans h.output, Nat.le_trans h.size k.size, fun i hi hx => (k.same i hi hx).trans (h.same i hi hx)⟩
theorem KX.below (hV : V.heap.size ≤ A.heap.size) (h : Below A.heap.size A B) : KX X V A B := ⟨h.os, h.tape, h.output, h.size, fun i hi _ => h.block i (Nat.lt_of_lt_of_le hi hV)⟩
theorem KX.toBelow {n : Nat} (h : KX X V A B) (hn : n ≤ V.heap.size) (hX : ∀ k, X k → n ≤ k) : Below n A B := ⟨h.os, h.tape, h.output, h.size, fun k hk => h.same k (Nat.lt_of_lt_of_le hk hn) fun hx => by have := hX k hx; omega⟩
theorem KX.cell (h : KX X V A B) {k i : Nat} (hk : k < V.heap.size) (hx : ¬ X k) : B.cell? ⟨k, i, none⟩ = A.cell? ⟨k, i, none⟩ := World.cell?_of_block (h.same k hk hx)
end
/-- With the two blocks in which a range over a function keeps its own books. -/
def Bk (X : Nat → Prop) (b : Nat) : Nat → Prop := fun k => X k ∨ k = b ∨ k = b + 1
theorem KX.books {X : Nat → Prop} {b : Nat} (V W : World) (o : Obj) : KX (Bk X b) V W (W.putObj (b + 1) o) :=
  ⟨rfl, rfl, rfl, by simp, fun _ _ hx => World.putObj_heap_other fun e => hx (.inr (.inr e))⟩
theorem grown_of_below16 {A B : World} (h : Below A.heap.size A B) : A.grownBy B none := ⟨h.os, h.tape, h.output, h.size, fun k hk _ => h.block k hk⟩

/-- What does not mind that a range over a function keeps its books. -/
def Tame {β : Type} (b : Nat) (I : β → World → Prop) : Prop := ∀ s W W' row, I s W → W.grownBy W' row → (∀ r, row = some r → (r = b ∨ r = b + 1) ∧ ∃ o : Obj, W.heap[r]? = some o ∧ o.isCells = false) → I s W'
section
variable {β : Type} {b : Nat} {I I' : β → World → Prop}
theorem Tame.ofOwn (h : Own I) (b : Nat) : Tame b I := fun s W W' row hs hg hr => h s W W' row hs hg fun r e => (hr r e).2
theorem Tame.and (h : Tame b I) (h' : Tame b I') : Tame b fun s W => I s W ∧ I' s W := fun s W W' row hs hg hr => ⟨h s W W' row hs.1 hg hr, h' s W W' row hs.2 hg hr⟩
theorem Tame.pure (b : Nat) (p : β → Prop) : Tame b fun s (_ : World) => p s := fun _ _ _ _ hs _ _ => hs
theorem Tame.put1 (h : Tame b I) {s : β} {W : World} {o : Obj} (o' : Obj) (hs : I s W) (hl : W.heap[b + 1]? = some o) (ho : o.isCells = false) : I s (W.putObj (b + 1) o') :=
  h s W _ (some (b + 1)) hs (grownBy_putObj' W (b + 1) o') fun r e => by cases e; exact ⟨.inr rfl, o, hl, ho⟩
theorem Tame.put0 (h : Tame b I) {s : β} {W : World} {o : Obj} (o' : Obj) (hs : I s W) (hl : W.heap[b]? = some o) (ho : o.isCells = false) : I s (W.putObj b o') :=
  h s W _ (some b) hs (grownBy_putObj' W b o') fun r e => by cases e; exact ⟨.inl rfl, o, hl, ho⟩
theorem Tame.below (h : Tame b I) {s : β} {A B : World} (hs : I s A) (hb : Below A.heap.size A B) : I s B := h s A B none hs (grown_of_below16 hb) fun r e => by cases e
theorem tame_kx (X : Nat → Prop) (b : Nat) (V : World) : Tame b fun (_ : β) W => V.heap.size ≤ W.heap.size ∧ KX (Bk X b) V V W := fun _ _ _ _ hs hg hr =>
  ⟨Nat.le_trans hs.1 hg.size, hg.os.trans hs.2.os, hg.tape.trans hs.2.tape, hg.output.trans hs.2.output, Nat.le_trans hs.2.size hg.size, fun k hk hx =>
    (hg.block k (Nat.lt_of_lt_of_le hk hs.1) fun e => hx (.inr (hr k e.symm).1)).trans (hs.2.same k hk hx)⟩
end

/-- An iterator's promise: when it has made all that it wants (V), it yields, of each, what G says of V; and it goes on where a round keeps V but for X. -/
def Tells {α : Type} (F : Fence) (n : Nat) (P : Program) (gf : Nat) (lb : Array Value) (encs : α → Array Value) (G : World → α → Prop) (X : Nat → Prop) (S Sp : List α → Prop) (N : Nat) (w : World) : Prop :=
  ∀ (l : Nat) (J : World → List α → World → Prop) (Jx : List α → World → Prop) (W : World), Below w.heap.size w W → w.heap.size + 2 ≤ W.heap.size →
    (∀ V pre A B, J V pre A → Below A.heap.size A B → J V pre B) → (∀ pre A B, Jx pre A → Below A.heap.size A B → Jx pre B) → (∀ V, Below W.heap.size W V → J V [] V) →
    (∀ V pre x W1, J V pre W1 → G V x → pre.length < N → YieldAt F (n - 1) P l (encs x) W1 fun e W' =>
      (e = .returned (.bool true) ∧ J V (pre ++ [x]) W' ∧ KX (Bk X w.heap.size) V W1 W') ∨ (e = .returned (.bool false) ∧ Jx (pre ++ [x]) W')) →
    CallsIn F n P gf (#[.func (.yield l) #[] #[]] ++ lb) W fun e W' => (∃ v, e = .returned v) ∧ ((∃ V xs, S xs ∧ J V xs W') ∨ (∃ pre, Sp pre ∧ Jx pre W'))

theorem range_told {α : Type} {F : Fence} {n : Nat} {P : Program} {g : Operand} {ps : Array Tmp} {assign body : Code} {Q : Exit → Act → World → Prop} {a : Act} {w : World}
    (hro : F.round = none) (h1 : 1 ≤ n) {gf : Nat} {lb : Array Value} (hg : a.eval g = .func (.func gf) #[] lb) (hF : F.fn gf) (he : ∀ args w, (callFunc gf args).run P w = .ok (.enter gf args) w)
    {encs : α → Array Value} {G : World → α → Prop} {X : Nat → Prop} {S Sp : List α → Prop} {N : Nat} (hT : Tells F (n - 1) P gf lb encs G X S Sp N w) (hps : ∀ x, (encs x).size = ps.size)
    (I : World → List α → World → Prop) (Ix : Code → List α → World → Prop) (hI : ∀ V, Tame w.heap.size (I V)) (hIx : ∀ c, Tame w.heap.size (Ix c)) (h0 : ∀ V, Below w.heap.size w V → I V [] V)
    (Ax : α → Act → World → Prop) (hAx : ∀ x a', Tame w.heap.size (fun (_ : Unit) W => Ax x a' W))
    (hassign : ∀ (l : Nat) (V : World) (pre : List α) (x : α) (W : World) (K : Act → World → Prop), I V pre W → G V x → (∀ a' W', KeepsFrom w.heap.size W W' → KX (Bk X w.heap.size) V W W' → I V pre W' → Ax x a' W' → K a' W') →
      assign.wpIn (F.inRound l) (n - 1 - 1) P (Exit.then K (fun _ _ _ => False)) { tmps := (ps.zip (encs x)).foldl (fun t (p, v) => t.setIfInBounds p v) a.tmps, defers := [] } W)
    (hbody : ∀ (l : Nat) (V : World) (pre : List α) (x : α) (a' : Act) (W : World), I V pre W → G V x → Ax x a' W → pre.length < N → body.wpIn (F.inRound l) (n - 1 - 1) P (ownPostG w.heap.size (KX (Bk X w.heap.size) V) (I V) Ix (pre ++ [x]) W) a' W)
    (hdone : ∀ (D : Nat) (V : World) (xs : List α) (W : World), D = w.heap.size → S xs → I V xs W → W.heap[D]? = some (.deferred (some [])) → Q .normal { a with defers := { target := .collected D, args := #[] } :: a.defers } W)
    (hstop : ∀ (D : Nat) (c : Code) (pre : List α) (W : World), D = w.heap.size → Sp pre → Ix c pre W → W.heap[D]? = some (.deferred (some [])) → c.wpIn F n P Q { a with defers := { target := .collected D, args := #[] } :: a.defers } W) :
    (Code.rangeFunc g ps assign body).wpIn F n P Q a w := by
  refine wpIn_rangeFunc fun fn hfn => ?_
  rw [hro]
  obtain ⟨b, hb⟩ : ∃ b, w.heap.size = b := ⟨_, rfl⟩
  rw [hb] at hdone hstop
  simp only [hb] at hI hIx hassign hbody hAx
  obtain ⟨R, hR⟩ : ∃ R : LoopState → Option Code → Loop, ∀ st pe, R st pe = { state := st, pending := pe, fn, tmps := a.tmps, params := ps, assign, body, defers := b } := ⟨_, fun _ _ => rfl⟩
  have hent := run_enterLoop_outer (P := P) (w := w) fn a.tmps ps assign body
  rw [hb] at hent
  rw [← hR] at hent
  obtain ⟨W1, hW1⟩ : ∃ W1, (w.alloc (.deferred (some []))).alloc (.loop (R .ready none)) = W1 := ⟨_, rfl⟩
  rw [hW1] at hent
  have hs1 : W1.heap.size = b + 2 := by rw [← hW1, ← hb]; simp
  have hB1 : Below b w W1 := by rw [← hW1, ← hb]; exact ((Below.refl _ w).alloc (Nat.le_refl _) _).alloc (by simp) _
  have hl1 : W1.heap[b + 1]? = some (.loop (R .ready none)) := by
    have h := World.alloc_heap_new (w.alloc (.deferred (some []))) (.loop (R .ready none))
    rw [World.size_alloc, hb, hW1] at h
    exact h
  have hd1 : W1.heap[b]? = some (.deferred (some [])) := by
    have h := World.alloc_heap_new w (.deferred (some []))
    rw [hb] at h
    rw [← hW1]
    exact (Below.heap_alloc _ _ _ (by simp; omega)).trans h
  have gb : ∀ {A B : World}, Below A.heap.size A B → ∀ {k : Nat} {o : Obj}, A.heap[k]? = some o → B.heap[k]? = some o := fun h k o hk => (h.block k (Array.getElem?_eq_some_iff.1 hk).1).trans hk
  have it := hT (b + 1) (fun V pre A => I V pre A ∧ A.heap[b + 1]? = some (.loop (R .ready none)) ∧ A.heap[b]? = some (.deferred (some [])))
    (fun pre A => ∃ c, Ix c pre A ∧ A.heap[b + 1]? = some (.loop (R .done (some c))) ∧ A.heap[b]? = some (.deferred (some []))) W1 (by rw [hb]; exact hB1) (by rw [hb, hs1]; exact Nat.le_refl _)
    (fun V pre A B h hbl => ⟨(hI V).below h.1 hbl, gb hbl h.2.1, gb hbl h.2.2⟩)
    (fun pre A B h hbl => let ⟨c, h1, h2, h3⟩ := h; ⟨c, (hIx c).below h1 hbl, gb hbl h2, gb hbl h3⟩)
    (fun V hV => ⟨h0 V (by rw [hb]; exact hB1.trans (hV.mono (by omega))), gb hV hl1, gb hV hd1⟩)
  refine ⟨b + 1, [{ target := .collected b, args := #[] }], W1, { target := .fn (.func gf) lb, args := #[.func (.yield (b + 1)) #[] #[]] }, W1, gf, #[.func (.yield (b + 1)) #[] #[]] ++ lb, W1, hent, ?_, ?_, ?_, fun _ => h1, ?_⟩
  · simp only [resolve, hg]
    simp [go_sem]
  · intro f hf
    simp [Target.leads] at hf
    rw [← hf]
    exact hF
  · simp [invoke, go_sem, he]
  refine (it ?_).mono ?_
  · clear it hl1 hd1 hB1 hs1 hent hW1
    rintro V pre x W ⟨hi, hl, hd⟩ hG hN
    have hy := run_yield (P := P) (args := encs x) hl (by rw [hR]; exact hps x)
    rw [hR] at hy
    refine ⟨fn, _, assign, body, hy, roundIn_of_wpIn hfn (hassign _ V pre x W _ hi hG fun a' W2 kf kx hi2 hax => ?_)⟩
    have hl2 := kf.same _ _ (Nat.le_succ b) hl rfl
    have hd2 := kf.same _ _ (Nat.le_refl b) hd rfl
    obtain ⟨W3, hW3⟩ : ∃ W3, W2.putObj (b + 1) (.loop (R .busy none)) = W3 := ⟨_, rfl⟩
    have hbr := run_beginRound (P := P) hl2 (by rw [hR])
    have hbr2 : (Instr.beginRound (b + 1)).run P W2 = .ok () W3 := by rw [hbr, ← hW3]; simp only [hR]
    have lt2 := (Array.getElem?_eq_some_iff.1 hl2).1
    have hl3 : W3.heap[b + 1]? = some (.loop (R .busy none)) := by rw [← hW3]; exact World.putObj_heap_same lt2
    have hd3 : W3.heap[b]? = some (.deferred (some [])) := by rw [← hW3]; exact (World.putObj_heap_other (by omega)).trans hd2
    have kx3 : KX (Bk X b) V W W3 := by rw [← hW3]; exact kx.trans (KX.books _ _ _)
    have hi3 : I V pre W3 := by rw [← hW3]; exact (hI V).put1 _ hi2 hl2 rfl
    have hax3 : Ax x a' W3 := by rw [← hW3]; exact (hAx x a').put1 (s := ()) _ hax hl2 rfl
    refine ⟨W3, hbr2, wpIn_mono (hbody _ V pre x a' W3 hi3 hG hax3 hN) ?_⟩
    -- how a round ends, whichever way it is left
    have out : ∀ (j : Option Code) (W4 : World), KeepsFrom b W3 W4 → W4.heap[b + 1]? = some (.loop (R .busy none)) ∧ (Instr.endRound (b + 1) j).run P W4 = .ok (.bool j.isNone) (W4.putObj (b + 1) (.loop (R (if j.isNone then .ready else .done) j))) ∧
        (W4.putObj (b + 1) (.loop (R (if j.isNone then .ready else .done) j))).heap[b + 1]? = some (.loop (R (if j.isNone then .ready else .done) j)) ∧ (W4.putObj (b + 1) (.loop (R (if j.isNone then .ready else .done) j))).heap[b]? = some (.deferred (some [])) := fun j W4 k4 => by
      have hl4 := k4.same _ _ (Nat.le_succ b) hl3 rfl
      have hd4 := k4.same _ _ (Nat.le_refl b) hd3 rfl
      refine ⟨hl4, ?_, World.putObj_heap_same (Array.getElem?_eq_some_iff.1 hl4).1, (World.putObj_heap_other (by omega)).trans hd4⟩
      have h := run_endRound (P := P) j hl4
      simp only [hR] at h ⊢
      exact h
    intro e a4 W4 hp
    have stop : ∀ c, KeepsFrom b W3 W4 → Ix c (pre ++ [x]) W4 → ∃ (v : Value) (W5 : World), (Instr.endRound (b + 1) (some c)).run P W4 = .ok v W5 ∧
        ((Ending.returned v = .returned (.bool true) ∧ (I V (pre ++ [x]) W5 ∧ W5.heap[b + 1]? = some (.loop (R .ready none)) ∧ W5.heap[b]? = some (.deferred (some []))) ∧ KX (Bk X b) V W W5) ∨
         (Ending.returned v = .returned (.bool false) ∧ ∃ c, Ix c (pre ++ [x]) W5 ∧ W5.heap[b + 1]? = some (.loop (R .done (some c))) ∧ W5.heap[b]? = some (.deferred (some [])))) := fun c k4 hx => by
      obtain ⟨hl4, hr, hl5, hd5⟩ := out (some c) W4 k4
      exact ⟨_, _, hr, .inr ⟨rfl, c, (hIx c).put1 _ hx hl4 rfl, hl5, hd5⟩⟩
    cases e with
    | normal =>
      obtain ⟨k4, kx4, hi4⟩ := hp
      obtain ⟨hl4, hr, hl5, hd5⟩ := out none W4 k4
      exact ⟨_, _, hr, .inl ⟨rfl, ⟨(hI V).put1 _ hi4 hl4 rfl, hl5, hd5⟩, by rw [hb]; exact (kx3.trans kx4).trans (KX.books _ _ _)⟩⟩
    | ret => rw [hb]; exact stop .ret hp.1 hp.2
    | exit i => rw [hb]; exact stop (.exit i) hp.1 hp.2
    | goto t => rw [hb]; exact stop (.goto t) hp.1 hp.2
    | panic c => exact hp.elim
    | outgrown => exact hp.elim
  · rintro e W2 ⟨⟨v, rfl⟩, (⟨V, xs, hS, hi, hl, hd⟩ | ⟨pre, hSp, c, hi, hl, hd⟩)⟩
    · have h := run_endLoop (P := P) hl (by rw [hR]; simp)
      rw [hR] at h
      exact ⟨none, _, h, hdone b V xs _ rfl hS ((hI V).put1 _ hi hl rfl) ((World.putObj_heap_other (by omega)).trans hd)⟩
    · have h := run_endLoop (P := P) hl (by rw [hR]; simp)
      rw [hR] at h
      exact ⟨some c, _, h, hstop b c pre _ rfl hSp ((hIx c).put1 _ hi hl rfl) ((World.putObj_heap_other (by omega)).trans hd)⟩
end Go.Proofs.Ytpfighkafmammaa

/-
  A region that draws its order, in the body of a range over a function: it may be walked as anywhere. Conditions: those that each theorem names.
-/

namespace Go.Proofs.Ytpfighkafmammaa
open Go.RowKit

theorem rows_round {P : Program} {n l : Nat} {row : String} {args : Array Value} {w : World} {R : Value → World → Prop} (h : Rows P row args w R) : RowsIn (Fence.wide.inRound l) n P row args w R :=
  fun c cs _ => let ⟨v, w', r, s⟩ := h c cs; ⟨v, w', r, by rw [fenced_inRound]; exact stepsIn_wide.2 s⟩
theorem oper_round {P : Program} {n l : Nat} {o : Oper} {a : Act} {w : World} {K : Act → World → Prop} {Q : Exit → Act → World → Prop} (hd : ∀ c, o.op ≠ .defer c) (h : o.wp P a w K Q) : o.wpIn (Fence.wide.inRound l) n P a w K Q := by
  unfold Oper.wp at h
  unfold Oper.wpIn
  refine ⟨fun _ _ => trivial, ?_⟩
  rw [Oper.semAt_eq _ _ _ hd]
  generalize (execOp a.eval o).run P w = r at h ⊢
  cases r with
  | ok x w' =>
    cases x <;> simp only [Oper.upon, Oper.uponIn] at h ⊢ <;>
      first
        | exact h
        | exact ⟨fun h => (by cases h), CallsIn.inRound l (callsIn_wide.2 h)⟩
        | exact ⟨fun h => (by cases h), rows_round h⟩
  | halt x w' => cases x <;> simp only [Oper.upon, Oper.uponIn] at h ⊢ <;> exact h
def noDefer (ops : Array Oper) : Bool := ops.all fun o => match o.op with | .defer _ => false | _ => true
theorem noDefer_spec {ops : Array Oper} (h : noDefer ops = true) (i : Nat) (o : Oper) (ho : ops[i]? = some o) : ∀ c, o.op ≠ .defer c := fun c e => by
  unfold noDefer at h
  rw [Array.all_eq_true] at h
  obtain ⟨hi, e2⟩ := Array.getElem?_eq_some_iff.1 ho
  have := h i hi
  rw [e2, e] at this
  cases this
theorem wpOp_round {P : Program} {n l i : Nat} {ops : Array Oper} {Q : Exit → Act → World → Prop} {K : Act → World → Prop} {a : Act} {w : World} (hd : noDefer ops = true) (hQ : ¬ LetsOut Q) (h : wpOp P ops Q i K a w) : wpOpIn (Fence.wide.inRound l) n P ops Q i K a w := by
  unfold wpOp at h
  unfold wpOpIn
  cases ho : ops[i]? with
  | none =>
    rw [ho] at h
    exact h
  | some o =>
    rw [ho] at h
    simp only at h ⊢
    by_cases hw : Region.wanted o (yielded ops a.tmps) = true
    · rw [if_pos hw] at h ⊢
      rcases h with h | h
      · exact oper_round (noDefer_spec hd i o ho) h
      · exact absurd h.2 hQ
    · rw [if_neg hw] at h ⊢
      exact ⟨fun _ _ => trivial, h⟩
theorem wpAny_round {P : Program} {n l : Nat} {md : Region.Mode} {ops : Array Oper} {Q : Exit → Act → World → Prop} (hd : noDefer ops = true) (hQ : ¬ LetsOut Q) : ∀ (fuel : Nat) (listed : Array Bool) (a : Act) (w : World), wpAny P md ops Q fuel listed a w → wpAnyIn (Fence.wide.inRound l) n P md ops Q fuel listed a w
  | 0, _, _, _, h => h
  | fuel + 1, _, _, _, h => ⟨h.1, fun i hi => wpOpIn_mono (fun a' w' h' => wpAny_round hd hQ fuel _ a' w' h') (wpOp_round hd hQ (h.2 i hi))⟩
/-- The region in the body of a range over a function. -/
theorem region_round {P : Program} {n l id : Nat} {ops : Array Oper} {Q : Exit → Act → World → Prop} {S : World → Prop} {a : Act} {w : World} (hm : P.follows .mixedOrders = true) (hd : noDefer ops = true) (hQ : ¬ LetsOut Q) (hS : S w.drew)
    (h : S w.drew → wpAnyH P .any ops Q S ops.size (Array.replicate ops.size false) a w.drew) : (Code.region id ops true).wpIn (Fence.wide.inRound l) n P Q a w :=
  wpIn_region_any hm (wpAny_round hd hQ _ _ _ _ (wpAny_of_held _ _ _ _ (h hS)))
/-- What a call that keeps all below its world's size keeps, for the range over a function that it stands in. -/
theorem keepsFrom_of_below {W W' : World} (B : Nat) (h : Below W.heap.size W W') : KeepsFrom B W W' := ⟨h.size, fun k _ _ hk _ => (h.block k (Array.getElem?_eq_some_iff.1 hk).1).trans hk⟩
end Go.Proofs.Ytpfighkafmammaa

/-
  What an entry is asked, and the iterator over a tree's entries that are asked: what walk's those makes. Conditions: those that each theorem names.
-/

namespace Go.Proofs.Ytpfighkafmammaa
open Go.RowKit

theorem place_boxes (w : World) (d s p : ByteArray) (r : Option Addr) (n c : Nat) :
    Below w.heap.size w ((w.alloc (.cells #[.string d, .string s] 72)).alloc (.cells #[.string p, .slice r n c] 44)) ∧
    VRow ((w.alloc (.cells #[.string d, .string s] 72)).alloc (.cells #[.string p, .slice r n c] 44)) w.heap.size 72 [.string d, .string s] ∧
    VRow ((w.alloc (.cells #[.string d, .string s] 72)).alloc (.cells #[.string p, .slice r n c] 44)) (w.heap.size + 1) 44 [.string p, .slice r n c] :=
  ⟨(below_alloc' (w := w) _).alloc (by simp) _, (VRow.new w 72 [.string d, .string s]).alloc _, VRow.newAt (W := w.alloc (.cells #[.string d, .string s] 72)) (T := 44) (n := w.heap.size + 1) (vs := [.string p, .slice r n c]) (by simp)⟩

set_option maxRecDepth 100000 in
set_option maxHeartbeats 400000 in
theorem isBelow_any (d s p : ByteArray) (hp : p.size ≤ 100000) (r : Option Addr) (n c : Nat) (w : World) :
    Calls Try.prog 31 #[.agg #[.string d, .string s], .agg #[.string p, .slice r n c]] w fun e w' => e = .returned (.bool (underE p d)) ∧ Below w.heap.size w w' := by
  have K := hide fun W => Pth.under_any p d hp W
  rw [show Pth.Pt.under p.data.toList d.data.toList = underE p d from rfl] at K
  generalize underE p d = C at K ⊢
  obtain ⟨hb, ha, he⟩ := place_boxes w d s p r n c
  have HB := hide hb
  have a0 := ha.cell 0 _ rfl
  have b0 := he.cell 0 _ rfl
  clear hp hb ha he
  go_enter Try.func31, Try.ntmps31
  go_wp2_with fail
  refine (unhide K _).mono ?_
  rintro e w1 ⟨rfl, hb1⟩
  have HB1 := hide (below_grow (unhide HB) (Nat.le_refl _) hb1)
  clear a0 b0 hb1
  go_wp2_with fail
  go_ret
  exact ⟨rfl, unhide HB1⟩

set_option maxRecDepth 100000 in
set_option maxHeartbeats 400000 in
theorem isBehind_any (d s p : ByteArray) (hp : p.size ≤ maxLen) (hs : s.size ≤ maxLen) (r : Option Addr) (n c : Nat) (w : World) :
    Calls Try.prog 36 #[.agg #[.string d, .string s], .agg #[.string p, .slice r n c]] w fun e w' => e = .returned (.bool (decide (0 < cmpE p s))) ∧ Below w.heap.size w w' := by
  have K := hide fun W => Pth.compare_any p s hp hs W
  rw [show Pth.Pt.cmpT p.data.toList s.data.toList = cmpE p s from rfl] at K
  generalize cmpE p s = C at K ⊢
  obtain ⟨hb, ha, he⟩ := place_boxes w d s p r n c
  have HB := hide hb
  have a0 := ha.cell 1 _ rfl
  have b0 := he.cell 0 _ rfl
  clear hp hs hb ha he
  go_enter Try.func36, Try.ntmps36
  go_wp2_with fail
  refine (unhide K _).mono ?_
  rintro e w1 ⟨rfl, k, rfl⟩
  have HB1 := hide (below_grow (unhide HB) (Nat.le_refl _) (below_drewN' k))
  clear a0 b0
  go_wp2_with fail
  go_ret
  exact ⟨rfl, unhide HB1⟩

set_option maxRecDepth 100000 in
set_option maxHeartbeats 400000 in
theorem isWithin_any (d s p : ByteArray) (hp : p.size ≤ 100000) (r : Option Addr) (n c : Nat) (w : World) :
    Calls Try.prog 35 #[.agg #[.string d, .string s], .agg #[.string p, .slice r n c]] w fun e w' => e = .returned (.bool (decide (p = d) || underE p d)) ∧ Below w.heap.size w w' := by
  have K := hide fun W => isBelow_any d s p hp r n c W
  generalize underE p d = C at K ⊢
  obtain ⟨hb, ha, he⟩ := place_boxes w d s p r n c
  have HB := hide hb
  have a0 := ha.cell 0 _ rfl
  have a1 := ha.cell 1 _ rfl
  have b0 := he.cell 0 _ rfl
  have b1 := he.cell 1 _ rfl
  clear hp hb ha he
  by_cases hpd : p = d
  · have hE : (p.toList == d.toList) = true := by rw [same_text, decide_eq_true hpd]
    rw [decide_eq_true hpd]
    clear hpd
    go_enter Try.func35, Try.ntmps35
    go_wp2_with fail
    go_ret
    exact ⟨rfl, unhide HB⟩
  · have hE : (p.toList == d.toList) = false := by rw [same_text, decide_eq_false hpd]
    rw [decide_eq_false hpd]
    clear hpd
    go_enter Try.func35, Try.ntmps35
    go_wp2_with fail
    refine (unhide K _).mono ?_
    rintro e w1 ⟨rfl, hb1⟩
    have HB1 := hide (below_grow (unhide HB) (Nat.le_refl _) hb1)
    clear a0 a1 b0 b1 hb1
    go_wp2_with fail
    go_ret
    exact ⟨by first | rfl | simp, unhide HB1⟩

set_option maxRecDepth 100000 in
set_option maxHeartbeats 400000 in
theorem isBoth_any (d s p : ByteArray) (hp : p.size ≤ 100000) (hs : s.size ≤ maxLen) (r : Option Addr) (n c : Nat) (w : World) :
    Calls Try.prog 32 #[.agg #[.string d, .string s], .agg #[.string p, .slice r n c]] w fun e w' => e = .returned (.bool (underE p d && decide (0 < cmpE p s))) ∧ Below w.heap.size w w' := by
  have K := hide fun W => isBelow_any d s p hp r n c W
  have K2 := hide fun W => isBehind_any d s p (by unfold maxLen; omega) hs r n c W
  generalize underE p d = C at K ⊢
  generalize decide (0 < cmpE p s) = C2 at K2 ⊢
  obtain ⟨hb, ha, he⟩ := place_boxes w d s p r n c
  have HB := hide hb
  have a0 := ha.cell 0 _ rfl
  have a1 := ha.cell 1 _ rfl
  have b0 := he.cell 0 _ rfl
  have b1 := he.cell 1 _ rfl
  have HA := hide ha
  have HE := hide he
  clear hp hs hb ha he
  go_enter Try.func32, Try.ntmps32
  go_wp2_with fail
  refine (unhide K _).mono ?_
  rintro e w1 ⟨rfl, hb1⟩
  have HB1 := hide (below_grow (unhide HB) (Nat.le_refl _) hb1)
  have ha1 := (unhide HA).after hb1
  have he1 := (unhide HE).after hb1
  clear a0 a1 b0 b1 hb1
  have a0 := ha1.cell 0 _ rfl
  have a1 := ha1.cell 1 _ rfl
  have b0 := he1.cell 0 _ rfl
  have b1 := he1.cell 1 _ rfl
  clear ha1 he1 HA HE
  cases C with
  | false =>
    go_wp2_with fail
    go_ret
    exact ⟨by first | rfl | simp, unhide HB1⟩
  | true =>
    go_wp2_with fail
    refine (unhide K2 _).mono ?_
    rintro e w2 ⟨rfl, hb2⟩
    have HB2 := hide (below_grow (unhide HB1) (Nat.le_refl _) hb2)
    clear a0 a1 b0 b1 hb2
    go_wp2_with fail
    go_ret
    exact ⟨by first | rfl | simp, unhide HB2⟩
end Go.Proofs.Ytpfighkafmammaa

/-
  The iterator over a tree's entries that are asked: what walk's those makes, for every loop that keeps what the entries lie in. Conditions: those that each theorem names.
-/

namespace Go.Proofs.Ytpfighkafmammaa
open Go.RowKit Go.Shelf

attribute [local go_sem] Oper.semAt_some

def encE (x : EP) : Array Value := #[.agg #[.string x.1.1, .slice x.2.1 x.1.2.length x.2.2]]
/-- What is told of an entry: that it is the tree's, and how its leaf lies. -/
def GE (O : Nat → Prop) (T : List En) (V : World) (x : EP) : Prop := x.1 ∈ T ∧ x.1.2.length ≤ x.2.2 ∧ SV V x.2.1 x.1.2 ∧ Prov O V x.2.1 x.1.2
/-- What a method that is asked of an entry at a place answers. -/
def Asked (F : Nat) (d s : ByteArray) (q : ByteArray → Bool) : Prop :=
  (∀ args w, (callFunc F args).run Try.prog w = .ok (.enter F args) w) ∧ ∀ (p : ByteArray), p.size ≤ 100000 → ∀ r n c w, Calls Try.prog F #[.agg #[.string d, .string s], .agg #[.string p, .slice r n c]] w fun e w' => e = .returned (.bool (q p)) ∧ Below w.heap.size w w'
theorem few16 {T : List En} (h : Tr T) : ∀ x ∈ T, x.2.length ≤ 100000 ∧ ∀ v ∈ x.2, v.past.length ≤ 100000 := fun x hx => ⟨Nat.le_trans (leaf_fewT (h.leaf x hx).2).2 (show 64 ≤ 100000 by omega), fun v hv => Nat.le_trans (leaf_pasts (h.leaf x hx).2 v hv) (show 64 ≤ 100000 by omega)⟩
theorem filt_pre (p : En → Bool) (T : List En) (k : Nat) : (T.take k).filter p = (T.filter p).take ((T.take k).filter p).length := by
  have e : T.filter p = (T.take k).filter p ++ (T.drop k).filter p := by rw [← List.filter_append, List.take_append_drop]
  rw [e, List.take_left]
theorem filt_snoc (p : En → Bool) {T : List En} {k : Nat} {x : En} (h : T[k]? = some x) : (T.take (k + 1)).filter p = (T.take k).filter p ++ if p x = true then [x] else [] := by
  rw [List.take_add_one, h, List.filter_append]
  congr 1
  by_cases hp : p x = true
  · rw [if_pos hp]; simp [hp]
  · rw [if_neg hp]; simp [hp]

set_option maxRecDepth 100000 in
set_option maxHeartbeats 2000000 in
theorem those_tellsQ (n : Nat) (F : Nat) (d s : ByteArray) (q : ByteArray → Bool) (hA : Asked F d s q) (X O : Nat → Prop) (p0 : Option Addr) (T : List En) (hT : Tr T) (U W0 : World) (hU : TrAt U p0 T) (hUW : Below U.heap.size U W0)
    (hO : ∀ g, g < U.heap.size ∨ W0.heap.size + 2 ≤ g → O g) (hX : ∀ k, X k → k < W0.heap.size) (B1 B2 B3 : Nat) (h1 : W0.cell? ⟨B1, 0, none⟩ = some (.pointer p0)) (h2 : W0.cell? ⟨B2, 0, none⟩ = some (.func (.func F) #[] #[]))
    (h3 : W0.cell? ⟨B3, 0, none⟩ = some (.string d)) (h3' : W0.cell? ⟨B3, 1, none⟩ = some (.string s)) (x2 : ¬ X B2) (x3 : ¬ X B3) :
    Tells Fence.wide n Try.prog 52 #[.pointer (some ⟨B1, 0, none⟩), .pointer (some ⟨B2, 0, none⟩), .pointer (some ⟨B3, 0, none⟩)] encE (fun V x => GE O T V x ∧ q x.1.1 = true) X (fun xs => xs.map (·.1) = T.filter fun x => q x.1) (fun pre => ∃ k, pre.map (·.1) = (T.filter fun x => q x.1).take k) 128 W0 := by
  intro l J Jx W hW hs2 hJ hJx h0 hY
  obtain ⟨eF, hF⟩ := hA
  have HF := hide hF
  have HY := hide hY
  have HJ := hide hJ
  have H0 := hide h0
  have HT := hide hT
  have hl2 := block_lt_of_cell h2
  have hl3 := block_lt_of_cell h3
  have y1 := (hW.cell (p := ⟨B1, 0, none⟩) (block_lt_of_cell h1)).trans h1
  have Y2 := hide ((hW.cell (p := ⟨B2, 0, none⟩) hl2).trans h2)
  have Y3 := hide ((hW.cell (p := ⟨B3, 0, none⟩) hl3).trans h3)
  have Y3' := hide ((hW.cell (p := ⟨B3, 1, none⟩) hl3).trans h3')
  have hb2 : B2 < W.heap.size := by have h : B2 < W0.heap.size := hl2; omega
  have hb3 : B3 < W.heap.size := by have h : B3 < W0.heap.size := hl3; omega
  have NB2 : Hid (¬ Bk X W0.heap.size B2) := hide (fun h => by have hh : B2 < W0.heap.size := hl2; rcases h with h | h | h <;> first | exact x2 h | omega)
  have NB3 : Hid (¬ Bk X W0.heap.size B3) := hide (fun h => by have hh : B3 < W0.heap.size := hl3; rcases h with h | h | h <;> first | exact x3 h | omega)
  have NBG : Hid (∀ g, W.heap.size ≤ g → ¬ Bk X W0.heap.size g) := hide (fun g hg h => by rcases h with h | h | h <;> first | omega | (have := hX g h; omega))
  have KE := hide (entriesO_any O p0 T (by have := hT.few; omega) (few16 hT) U W (fun g hg => hO g (hg.elim (fun h => .inl h) (fun h => .inr (by omega)))) hU (below_grow hUW (Nat.le_refl _) hW))
  clear hF hY hJ hJx h0 hT hU hUW hO hX h1 h2 h3 h3' x2 x3 hW
  obtain ⟨t, ht⟩ : ∃ t, T.length = t := ⟨_, rfl⟩
  have HN := hide ht
  have HFEW : Hid (t ≤ 128) := hide (by rw [← ht]; exact (unhide HT).few)
  clear ht
  refine callsIn_of_wp Try.func52 rfl trivial ?_ rfl
  simp only [Try.ntmps52, List.size_toArray, List.length_cons, List.length_nil, Nat.reduceAdd, Nat.reduceSub, Array.replicate_succ, Array.replicate_zero, List.push_toArray, List.append_toArray, List.nil_append, List.cons_append]
  gi_wp2
  refine ⟨trivial, fun h => (by cases h), (callsIn_wide.2 (unhide KE)).mono ?_⟩
  rintro e V ⟨a, c, rfl, hc, hbV, hrow⟩
  have HBV := hide hbV
  have HROW := hide hrow
  have HJ0 := hide (unhide H0 V hbV)
  have HV2 : Hid (V.cell? ⟨B2, 0, none⟩ = some (.func (.func F) #[] #[])) := hide ((hbV.cell (p := ⟨B2, 0, none⟩) hb2).trans (unhide Y2))
  have HV3 : Hid (V.cell? ⟨B3, 0, none⟩ = some (.string d)) := hide ((hbV.cell (p := ⟨B3, 0, none⟩) hb3).trans (unhide Y3))
  have HV3' : Hid (V.cell? ⟨B3, 1, none⟩ = some (.string s)) := hide ((hbV.cell (p := ⟨B3, 1, none⟩) hb3).trans (unhide Y3'))
  have hv2 : B2 < V.heap.size := Nat.lt_of_lt_of_le hb2 hbV.size
  have hv3 : B3 < V.heap.size := Nat.lt_of_lt_of_le hb3 hbV.size
  rw [unhide HN] at hc ⊢
  clear hbV hrow KE Y2 Y3 Y3' y1 hb2 hb3 hl2 hl3
  gi_wp2_with fail
  gi_loopw [10] (fun i wr => ∃ (k : Nat) (pre : List EP), k ≤ t ∧ i = .int .i64 k ∧ pre.map (·.1) = (T.take k).filter (fun x => q x.1) ∧ J V pre wr ∧ KX (Bk X W0.heap.size) V V wr) (fun i _ => t - (intOf i).toNat)
  case atStart => exact ⟨0, [], Nat.zero_le _, rfl, rfl, unhide HJ0, KX.refl _ _ _⟩
  case round =>
    obtain ⟨k, pre, hk, rfl, hpre, hj1, hkx⟩ := hrel
    have HPRE := hide hpre
    have HJ1 := hide hj1
    have HKX := hide hkx
    have hfew := unhide HFEW
    clear hj1 HJ0
    by_cases hlt : k < t
    · obtain ⟨g, rfl, hg1, hg2, ps, hps, hcells, hall⟩ := unhide HROW (by rw [unhide HN]; omega)
      have hpl : ps.length = t := by rw [← unhide HN, ← hps, List.length_map]
      obtain ⟨x, hx⟩ : ∃ x, ps[k]? = some x := ⟨_, List.getElem?_eq_getElem (by omega)⟩
      have hxT : T[k]? = some x.1 := by rw [← hps, List.getElem?_map, hx]; rfl
      have x0 : wr.cell? ⟨g, k * 2, none⟩ = some (.string x.1.1) := by
        rw [hkx.cell hg2 (unhide NBG g hg1)]
        exact hcells _ _ (flatE_get ps k x hx 0 _ rfl)
      have x1 : wr.cell? ⟨g, k * 2 + 1, none⟩ = some (.slice x.2.1 x.1.2.length x.2.2) := by
        rw [hkx.cell hg2 (unhide NBG g hg1)]
        exact hcells _ _ (flatE_get ps k x hx 1 _ rfl)
      have HG2 : Hid (GE O T V x) := hide ⟨List.mem_of_getElem? hxT, hall x (List.mem_of_getElem? hx)⟩
      have HXT := hide hxT
      have HPS : Hid (x.1.1.size ≤ 100000) := hide (by have := path_size ((unhide HT).path x.1 (List.mem_of_getElem? hxT)); omega)
      have c2 := (hkx.cell (i := 0) hv2 (unhide NB2)).trans (unhide HV2)
      have c3 := (hkx.cell (i := 0) hv3 (unhide NB3)).trans (unhide HV3)
      have c3' := (hkx.cell (i := 1) hv3 (unhide NB3)).trans (unhide HV3')
      have hsz := hkx.size
      have hlen : pre.length < 128 := by
        have h1 := congrArg List.length hpre
        rw [List.length_map] at h1
        have h2 := List.length_filter_le (fun x : En => q x.1) (T.take k)
        rw [List.length_take] at h2
        have := unhide HFEW
        omega
      have HLEN := hide hlen
      obtain ⟨⟨P, L⟩, r, cc⟩ := x
      dsimp only at x0 x1 HPS
      obtain ⟨m, hm⟩ : ∃ m, L.length = m := ⟨_, rfl⟩
      have HM := hide hm
      rw [hm] at x1
      have HWZ := hide (below_alloc' (w := wr) (.cells #[.string P, .slice r m cc] 44))
      have d2 := ((unhide HWZ).cell (p := ⟨B2, 0, none⟩) (show B2 < wr.heap.size by omega)).trans c2
      have d3 := ((unhide HWZ).cell (p := ⟨B3, 0, none⟩) (show B3 < wr.heap.size by omega)).trans c3
      have d3' := ((unhide HWZ).cell (p := ⟨B3, 1, none⟩) (show B3 < wr.heap.size by omega)).trans c3'
      have HRW := hide (VRow.new wr 44 [.string P, .slice r m cc])
      have e0 := (unhide HRW).cell 0 _ rfl
      have e1 := (unhide HRW).cell 1 _ rfl
      have HWV : Hid (V.heap.size ≤ wr.heap.size) := hide hsz
      clear hpre hkx hcells hall hpl hx hxT hps hm hlen c2 c3 c3' hsz hg1 hg2
      gi_wp2_with fail
      refine ⟨trivial, fun h => (by cases h), (callsIn_wide.2 (unhide HF P (unhide HPS) r m cc _)).mono ?_⟩
      rintro e w3 ⟨rfl, hb3⟩
      have HB3 := hide (below_grow (unhide HWZ) (Nat.le_refl _) hb3)
      have hr3 := (unhide HRW).after hb3
      clear d2 d3 d3' e0 e1 x0 x1 hb3 HRW HWZ
      have e0 := hr3.cell 0 _ rfl
      have e1 := hr3.cell 1 _ rfl
      have HJ3 := hide (unhide HJ V pre _ _ (unhide HJ1) (unhide HB3))
      have HK3 := hide ((unhide HKX).trans (KX.below (X := Bk X W0.heap.size) (unhide HWV) (unhide HB3)))
      have HSN := hide (filt_snoc (fun x : En => q x.1) (unhide HXT))
      dsimp only at HSN
      clear hr3 HJ1
      cases hq : q P with
      | false =>
        rw [hq] at HSN
        gi_wp2_with fail
        all_goals (refine ⟨fun _ h => (by cases h), ?_⟩)
        all_goals gi_wp2_with fail
        go_roundw
        case rel => exact ⟨k + 1, pre, by omega, by go_num, by rw [unhide HPRE, unhide HSN]; simp, unhide HJ3, unhide HK3⟩
        case measure => simp [intOf]; omega
      | true =>
        rw [hq, if_pos rfl, ← unhide HPRE] at HSN
        obtain ⟨fn, tmps, assign, body, hy, hR⟩ := unhide HY V pre ((P, L), r, cc) w3 (unhide HJ3) ⟨unhide HG2, hq⟩ (unhide HLEN)
        have hy2 : (Instr.yield l #[.agg #[.string P, .slice r m cc]]).run Try.prog w3 = .ok (.round l fn tmps assign body) w3 := by rw [← unhide HM]; exact hy
        clear hy
        gi_wp2_with fail
        refine ⟨fun h => (by cases h), hR.mono ?_⟩
        rintro e W4 (⟨rfl, hJ4, hk4⟩ | ⟨rfl, hJx4⟩)
        · have HJ4 := hide hJ4
          have HK4 := hide ((unhide HK3).trans hk4)
          clear hJ4 hk4 hR hy2 e0 e1
          gi_wp2_with fail
          go_roundw
          case rel => exact ⟨k + 1, pre ++ [((P, L), r, cc)], by omega, by go_num, by rw [List.map_append, unhide HSN]; rfl, unhide HJ4, unhide HK4⟩
          case measure => simp [intOf]; omega
        · have HJx4 := hide hJx4
          clear hJx4 hR hy2 e0 e1
          gi_wp2_with fail
          refine bodyPost_ret (results_none rfl _ _ _) rfl ⟨⟨_, rfl⟩, .inr ⟨_, ⟨((T.take (k + 1)).filter fun x => q x.1).length, ?_⟩, unhide HJx4⟩⟩
          rw [List.map_append]
          exact (unhide HSN).symm.trans (filt_pre _ _ _)
    · obtain rfl : k = t := by omega
      gi_wp2_with fail
      go_end0
      exact ⟨⟨_, rfl⟩, .inl ⟨V, pre, by rw [unhide HPRE, ← unhide HN, List.take_length], unhide HJ1⟩⟩
theorem Tells.less {α : Type} {F : Fence} {n : Nat} {P : Program} {gf : Nat} {lb : Array Value} {encs : α → Array Value} {G G' : World → α → Prop} {X : Nat → Prop} {S Sp : List α → Prop} {N : Nat} {w : World}
    (h : Tells F n P gf lb encs G' X S Sp N w) (hG : ∀ V x, G' V x → G V x) : Tells F n P gf lb encs G X S Sp N w := fun l J Jx W h1 h2 h3 h4 h5 hY => h l J Jx W h1 h2 h3 h4 h5 fun V pre x W1 a b c => hY V pre x W1 a (hG V x b) c
theorem those_tells (n : Nat) (F : Nat) (d s : ByteArray) (q : ByteArray → Bool) (hA : Asked F d s q) (X O : Nat → Prop) (p0 : Option Addr) (T : List En) (hT : Tr T) (U W0 : World) (hU : TrAt U p0 T) (hUW : Below U.heap.size U W0)
    (hO : ∀ g, g < U.heap.size ∨ W0.heap.size + 2 ≤ g → O g) (hX : ∀ k, X k → k < W0.heap.size) (B1 B2 B3 : Nat) (h1 : W0.cell? ⟨B1, 0, none⟩ = some (.pointer p0)) (h2 : W0.cell? ⟨B2, 0, none⟩ = some (.func (.func F) #[] #[]))
    (h3 : W0.cell? ⟨B3, 0, none⟩ = some (.string d)) (h3' : W0.cell? ⟨B3, 1, none⟩ = some (.string s)) (x2 : ¬ X B2) (x3 : ¬ X B3) :
    Tells Fence.wide n Try.prog 52 #[.pointer (some ⟨B1, 0, none⟩), .pointer (some ⟨B2, 0, none⟩), .pointer (some ⟨B3, 0, none⟩)] encE (GE O T) X (fun xs => xs.map (·.1) = T.filter fun x => q x.1) (fun pre => ∃ k, pre.map (·.1) = (T.filter fun x => q x.1).take k) 128 W0 :=
  (those_tellsQ n F d s q hA X O p0 T hT U W0 hU hUW hO hX B1 B2 B3 h1 h2 h3 h3' x2 x3).less fun _ _ h => h.1
end Go.Proofs.Ytpfighkafmammaa

/-
  A list of entries that a range over a function fills: what Collect and Under answer. Conditions: those that each theorem names.
-/

namespace Go.Proofs.Ytpfighkafmammaa
open Go.RowKit Go.Shelf

attribute [local go_sem] Oper.semAt_some

theorem ownsRow_less {W : World} {b b' : Nat} {e : TypeId} {size n : Nat} {v : Value} {xs : List Value} (h : W.ownsRow b e size v n xs) (hb : b' ≤ b) : W.ownsRow b' e size v n xs := by
  refine ⟨h.1, ?_⟩
  rcases h.2 with h2 | ⟨g, cap, cur, e1, e2, e3⟩
  · exact .inl h2
  · exact .inr ⟨g, cap, cur, e1, Nat.le_trans hb e2, e3⟩
/-- 'out = append(out, ..)' where out lies in a box that is older than V, its row in memory that is newer. -/
theorem box_appended {V W w1 : World} {B : Nat} {t e : TypeId} {size : Nat} {v v' : Value} {k m : Nat} {xs ys : List Value} {tmp : Obj}
    (hv : Boxed W B t v) (hte : t ≠ e) (hrow : W.ownsRow V.heap.size e size v k xs) (hV : V.heap.size ≤ W.heap.size) (hown' : w1.ownsRow V.heap.size e size v' m ys) (hgrow : (W.alloc tmp).grownBy w1 v.ownBlock) :
    Boxed w1 B t v ∧ Boxed (w1.setCell ⟨B, 0, none⟩ v') B t v' ∧ (w1.setCell ⟨B, 0, none⟩ v').ownsRow V.heap.size e size v' m ys ∧ KeepsOthers W (w1.setCell ⟨B, 0, none⟩ v') ∧ ∀ X : Nat → Prop, X B → KX X V W (w1.setCell ⟨B, 0, none⟩ v') := by
  obtain ⟨a1, a2, _, a4, a5⟩ := hv.appended hte (ownsRow_less hrow (Nat.zero_le _)) (Nat.zero_le _) (Nat.zero_le _) (ownsRow_less hown' (Nat.zero_le _)) hgrow
  refine ⟨a1, a2, hown'.kept (grownBy_setCell' w1 B v') (.inr (a1.not_row hte hown').symm), a4, fun X hX => ⟨a5.os, a5.tape, a5.output, a5.size, fun k hk hx => ?_⟩⟩
  have hkB : k ≠ B := fun e => hx (e ▸ hX)
  refine (Below.heap_setCell w1 _ v' k hkB).trans ((hgrow.block k (by simp; omega) fun e => ?_).trans (Below.heap_alloc W tmp k (by omega)))
  rcases hrow.2 with ⟨rfl, _⟩ | ⟨g, cap, cur, rfl, h4, _⟩
  · simp [Value.ownBlock] at e
  · obtain rfl : k = g := by simpa [Value.ownBlock] using e
    omega

/-- What a loop that fills a list keeps: the box B, the row in it, what lies in V. -/
structure RowIn (O : Nat → Prop) (T : List En) (b B : Nat) (w V : World) (pre : List EP) (W : World) : Prop where
  box : ∃ u, Boxed W B 22 u ∧ W.ownsRow V.heap.size 44 2 u pre.length (flatE pre) ∧ True
  kx : V.heap.size ≤ W.heap.size ∧ KX (Bk (fun k => k = B) b) V V W
  all : ∀ x ∈ pre, GE O T V x
  v : Below b w V
theorem RowIn.tame (O : Nat → Prop) (T : List En) (b B : Nat) (w V : World) : Tame b (RowIn O T b B w V) := fun pre W W' row h hg hr =>
  ⟨holdsRow_own V.heap.size B 22 44 2 (fun pre : List EP => pre.length) flatE (fun _ _ => True) pre W W' row h.box hg fun r e => (hr r e).2,
   tame_kx (fun k => k = B) b V () W W' row h.kx hg hr, h.all, h.v⟩
theorem flatE_snoc (pre : List EP) (x : EP) : flatE (pre ++ [x]) = flatE pre ++ [.string x.1.1, .slice x.2.1 x.1.2.length x.2.2] := by rw [flatE_append]; simp [flatE, entL]
theorem KX.sv {X O : Nat → Prop} {V A : World} (h : KX X V V A) (hX : ∀ g, O g → ¬ X g) {r : Option Addr} {vs : List Vc.V} (hs : SV V r vs) (hp : Prov O V r vs) : SV A r vs := fun h0 => by
  obtain ⟨g, o, e, hlt, hc⟩ := hs h0
  obtain ⟨h1, h2⟩ := hp h0 g o e
  have hk : ∀ k, A.cell? ⟨g, k, none⟩ = V.cell? ⟨g, k, none⟩ := fun k => h.cell hlt (hX g h1)
  refine ⟨g, o, e, Nat.lt_of_lt_of_le hlt h.size, fun j v hj => ?_⟩
  obtain ⟨r', c', x0, x1, x2, x3, x4, x5, x6⟩ := hc j v hj
  refine ⟨r', c', (hk _).trans x0, (hk _).trans x1, (hk _).trans x2, (hk _).trans x3, (hk _).trans x4, x5, fun h3 => ?_⟩
  obtain ⟨g2, o2, e2, hg2, hc2⟩ := x6 h3
  have hk2 : ∀ k, A.cell? ⟨g2, k, none⟩ = V.cell? ⟨g2, k, none⟩ := fun k => h.cell hg2 (hX g2 (h2 j v r' c' hj x2 _ e2 h3))
  exact ⟨g2, o2, e2, Nat.lt_of_lt_of_le hg2 h.size, fun i d hi => by rw [hk2, hk2]; exact hc2 i d hi⟩
theorem KX.prov {X O : Nat → Prop} {V A : World} (h : KX X V V A) (hX : ∀ g, O g → ¬ X g) {r : Option Addr} {vs : List Vc.V} (hs : SV V r vs) (hp : Prov O V r vs) : Prov O A r vs := fun h0 g o e => by
  obtain ⟨g', o', e', hlt, hc⟩ := hs h0
  rw [e] at e'
  injection e' with e'
  injection e' with e1 e2
  subst e1
  subst e2
  obtain ⟨h1, h2⟩ := hp h0 g o e
  have hk : ∀ k, A.cell? ⟨g, k, none⟩ = V.cell? ⟨g, k, none⟩ := fun k => h.cell hlt (hX g h1)
  refine ⟨h1, fun j v r' c' hj hcell ad ead h3 => ?_⟩
  rw [hk] at hcell
  exact h2 j v r' c' hj hcell ad ead h3
/-- A list made: a row that is new, the leaves in memory of O. -/
def MadeQ (O : Nat → Prop) (w : World) (es : List En) (e : Ending) (w' : World) : Prop := ∃ (v : Value) (ps : List EP), e = .returned v ∧ ps.map (·.1) = es ∧ w'.ownsRow w.heap.size 44 2 v ps.length (flatE ps) ∧ (∀ x ∈ ps, x.1.2.length ≤ x.2.2 ∧ SV w' x.2.1 x.1.2 ∧ Prov O w' x.2.1 x.1.2) ∧ Below w.heap.size w w'
theorem RowIn.made {O : Nat → Prop} {T : List En} {b B : Nat} {w0 w V W : World} {pre : List EP} {v : Value} (h : RowIn O T b B w V pre W) (h0 : Below w0.heap.size w0 w) (hb : w0.heap.size ≤ b) (hbw : b ≤ w.heap.size) (hB : w0.heap.size ≤ B) (hO : ∀ g, O g → ¬ Bk (fun k => k = B) b g) (hv : Boxed W B 22 v) (D : Nat) {o o' : Obj} (hD : W.heap[D]? = some o) (ho : o.isCells = false) (hDb : D = b) :
    MadeQ O w0 (pre.map (·.1)) (.returned v) (W.putObj D o') := by
  subst hDb
  obtain ⟨u, hu, hr, _⟩ := h.box
  have e : u = v := by
    have h1 := hu.cell
    rw [hv.cell] at h1
    injection h1 with h1
    exact h1.symm
  subst e
  have ht := (RowIn.tame O T D B w V).put0 o' h hD ho
  have hVb : w0.heap.size ≤ V.heap.size := Nat.le_trans h0.size h.v.size
  refine ⟨u, pre, rfl, rfl, ownsRow_less (ownsRow_putObj hr o' hD ho) hVb, fun x hx => ?_, ?_⟩
  · obtain ⟨_, g2, g3, g4⟩ := h.all x hx
    exact ⟨g2, ht.kx.2.sv hO g3 g4, ht.kx.2.prov hO g3 g4⟩
  · have h1 : Below w0.heap.size w V := h.v.mono hb
    have h2 := ht.kx.2.toBelow (n := w0.heap.size) hVb (fun k hk => by rcases hk with hk | hk | hk <;> omega)
    exact (h0.trans h1).trans h2

set_option maxRecDepth 100000 in
set_option maxHeartbeats 400000 in
theorem those_any (F : Nat) (d s : ByteArray) (p0 : Option Addr) (w : World) :
    Calls Try.prog 30 #[.pointer p0, .agg #[.string d, .string s], .func (.func F) #[] #[]] w fun e w' => e = .returned (.func (.func 52) #[] #[.pointer (some ⟨w.heap.size, 0, none⟩), .pointer (some ⟨w.heap.size + 1 + 1, 0, none⟩), .pointer (some ⟨w.heap.size + 1, 0, none⟩)]) ∧
      w' = ((w.alloc (.cells #[.pointer p0] 26)).alloc (.cells #[.string d, .string s] 72)).alloc (.cells #[.func (.func F) #[] #[]] 73) := by
  go_enter Try.func30, Try.ntmps30
  go_wp2_with fail
  go_ret
  exact ⟨rfl, rfl⟩

/-- The tree's memory, and what is made from the loop on. -/
def OA (U : World) (b : Nat) : Nat → Prop := fun g => g < U.heap.size ∨ b + 2 ≤ g
set_option maxRecDepth 100000 in
set_option maxHeartbeats 2000000 in
theorem appendSeq_in (F : Nat) (d s : ByteArray) (q : ByteArray → Bool) (hA : Asked F d s q) (p0 : Option Addr) (T : List En) (hT : Tr T) (U w0 : World) (hU : TrAt U p0 T) (hUw : Below U.heap.size U w0)
    (B1 B2 B3 : Nat) (h1 : w0.cell? ⟨B1, 0, none⟩ = some (.pointer p0)) (h2 : w0.cell? ⟨B2, 0, none⟩ = some (.func (.func F) #[] #[])) (h3 : w0.cell? ⟨B3, 0, none⟩ = some (.string d)) (h3' : w0.cell? ⟨B3, 1, none⟩ = some (.string s)) :
    CallsIn Fence.wide 3 Try.prog 51 #[.slice none 0 0, .func (.func 52) #[] #[.pointer (some ⟨B1, 0, none⟩), .pointer (some ⟨B2, 0, none⟩), .pointer (some ⟨B3, 0, none⟩)]] w0 (MadeQ (OA U (w0.heap.size + 1)) w0 (T.filter fun x => q x.1)) := by
  obtain ⟨i0, hi, hz0, hz1, hz2⟩ := info_parts infoEn
  refine callsIn_of_wp_marks Try.func51 rfl trivial ?_ rfl
  simp only [Try.ntmps51, List.size_toArray, List.length_cons, List.length_nil, Nat.reduceAdd, Nat.reduceSub, Array.replicate_succ, Array.replicate_zero, List.push_toArray, List.append_toArray, List.nil_append, List.cons_append]
  have hbx := Boxed.new w0 22 (.slice none 0 0)
  have hb0 := below_alloc' (w := w0) (.cells #[.slice none 0 0] 22)
  have hsz : (w0.alloc (.cells #[.slice none 0 0] 22)).heap.size = w0.heap.size + 1 := by simp
  obtain ⟨w, hw⟩ : ∃ w, w0.alloc (.cells #[.slice none 0 0] 22) = w := ⟨_, rfl⟩
  rw [hw] at hbx hb0 hsz
  have hl2 : B2 < w0.heap.size := block_lt_of_cell h2
  have hl3 : B3 < w0.heap.size := block_lt_of_cell h3
  have c1 := (hb0.cell (p := ⟨B1, 0, none⟩) (block_lt_of_cell h1)).trans h1
  have c2 := (hb0.cell (p := ⟨B2, 0, none⟩) hl2).trans h2
  have c3 := (hb0.cell (p := ⟨B3, 0, none⟩) hl3).trans h3
  have c3' := (hb0.cell (p := ⟨B3, 1, none⟩) hl3).trans h3'
  have hUw2 := below_grow hUw (Nat.le_refl _) hb0
  have hUs := hUw.size
  clear h1 h2 h3 h3'
  gi_wp2_with fail
  refine range_told rfl (by decide) (gf := 52) (lb := #[.pointer (some ⟨B1, 0, none⟩), .pointer (some ⟨B2, 0, none⟩), .pointer (some ⟨B3, 0, none⟩)]) rfl trivial (enters_of Try.func52 (by kernel_rfl) rfl)
    (those_tells 2 F d s q hA (fun k => k = w0.heap.size) (OA U (w0.heap.size + 1)) p0 T hT U w hU hUw2 (fun g hg => by rw [hsz] at hg; exact hg) (fun k hk => by rw [hsz]; omega) B1 B2 B3 c1 c2 c3 c3' (by omega) (by omega)) (fun _ => rfl)
    (fun V pre W => RowIn (OA U (w0.heap.size + 1)) T w.heap.size w0.heap.size w V pre W) (fun _ _ _ => False)
    (fun V => RowIn.tame _ _ _ _ _ V) (fun _ _ _ _ _ hs _ _ => hs)
    (fun V hV => ⟨⟨_, (hV.block _ hbx.lt).trans hbx, World.ownsRow_nil _ _ _ _, trivial⟩, ⟨Nat.le_refl _, KX.refl _ _ _⟩, fun _ h => (by cases h), hV⟩)
    (fun x a' W => ∃ Bx, VRow W Bx 44 [.string x.1.1, .slice x.2.1 x.1.2.length x.2.2] ∧ a' = { tmps := #[.slice none 0 0, .func (.func 52) #[] #[.pointer (some ⟨B1, 0, none⟩), .pointer (some ⟨B2, 0, none⟩), .pointer (some ⟨B3, 0, none⟩)], .pointer (some ⟨w0.heap.size, 0, none⟩), undef, .slice none 0 0, .pointer (some ⟨Bx, 0, none⟩), .func (.func 52) #[] #[.pointer (some ⟨B1, 0, none⟩), .pointer (some ⟨B2, 0, none⟩), .pointer (some ⟨B3, 0, none⟩)], .agg #[.string x.1.1, .slice x.2.1 x.1.2.length x.2.2], undef, undef, undef, undef, undef], defers := [] })
    (fun x a' _ X Y row hs hg hr => by obtain ⟨Bx, h1, h2⟩ := hs; exact ⟨Bx, VRow.own Bx 44 _ () X Y row h1 hg (fun r e => (hr r e).2), h2⟩)
    ?assign ?body ?done ?stop
  case assign =>
    rintro l V pre x W K hrow hG hK
    simp only [encE]
    gi_wp2
    have hWV := hrow.kx.1
    refine hK _ _ ((KeepsOthers.alloc _ _).from _) (KX.below hWV (below_alloc' _)) ((RowIn.tame _ _ _ _ _ V).below hrow (below_alloc' _)) ⟨W.heap.size, VRow.new W 44 [.string x.1.1, .slice x.2.1 x.1.2.length x.2.2], rfl⟩
  case body =>
    rintro l V pre ⟨⟨P, L⟩, r, cc⟩ a' W hrow hG ⟨Bx, hX, rfl⟩ hlt
    obtain ⟨u, hv, hro, _⟩ := hrow.box
    have hkx := hrow.kx
    have hc := hv.cell
    dsimp only at hX ⊢
    have x0 : W.cell? ⟨Bx, 0, none⟩ = some (.string P) := hX.cell 0 _ rfl
    have x1 : W.cell? ⟨Bx, 1, none⟩ = some (.slice r L.length cc) := hX.cell 1 _ rfl
    have hWV := hkx.1
    gi_wp2_with (gi_at_builtin; refine wpListIn_append_own _ rfl _ _ 22 rfl V.heap.size 44 i0 _ 2 40 Try.underlying22 hi hz0 hz1 hz2 rfl (by decide) _ _ _ rfl (hro.alloc _) ⟨W.heap.size, 0, none⟩ 1 1 [.string P, .slice r L.length cc] rfl rfl (cell_two_new _ _ _ _) (by simp [Value.oneCell']) (by unfold maxLen; omega) (by omega) (by simp; omega) ?_; intro v' w2 hown' hgrow _; obtain ⟨g', cap', rfl⟩ := ownsRow_succ hown'; obtain ⟨hv1, hv2, hr2, hk2, hx2⟩ := box_appended hv (by decide) hro hWV hown' hgrow; have hc1 := hv1.cell; have hf1 := hv1.frozen)
    refine ⟨hk2.from _, hx2 (Bk (fun k => k = w0.heap.size) w.heap.size) (.inl rfl), ⟨⟨_, hv2, ?_, trivial⟩, ⟨Nat.le_trans hWV (hx2 (Bk (fun k => k = w0.heap.size) w.heap.size) (.inl rfl)).size, hkx.2.trans (hx2 (Bk (fun k => k = w0.heap.size) w.heap.size) (.inl rfl))⟩, fun y hy => ?_, hrow.v⟩⟩
    · rw [List.length_append, flatE_snoc]
      exact hr2
    · rcases List.mem_append.1 hy with hy | hy
      · exact hrow.all y hy
      · rw [List.mem_singleton.1 hy]
        exact hG
  case done =>
    rintro D V xs W hD hxs hrow hK
    obtain ⟨u, hv, hro, _⟩ := hrow.box
    have hc := hv.cell
    gi_wp2
    refine ⟨by simp, .inl ⟨_, _, rfl, run_takeDeferred hK, ?_⟩⟩
    refine ⟨_, results_tmp rfl _ _ _, ?_⟩
    rw [← hxs]
    exact hrow.made hb0 (by omega) (Nat.le_refl _) (Nat.le_refl _) (fun g hg hx => by
      have h2 : g < U.heap.size ∨ w0.heap.size + 1 + 2 ≤ g := hg
      have h3 : g = w0.heap.size ∨ g = w.heap.size ∨ g = w.heap.size + 1 := hx
      omega) hv D hK rfl hD
  case stop =>
    rintro D c pre W _ _ h _
    exact h.elim
end Go.Proofs.Ytpfighkafmammaa

/-
  What is below a directory, and some of it behind a text: what Under and List answer. Conditions: those that each theorem names.
-/

namespace Go.Proofs.Ytpfighkafmammaa
open Go.RowKit Go.Shelf

attribute [local go_sem] Oper.semAt_some

/-- The tree's memory, and what is made from w on. -/
def OB (U w : World) : Nat → Prop := fun g => g < U.heap.size ∨ w.heap.size ≤ g
theorem MadeQ.weak {U w w0 w' : World} {es : List En} {e : Ending} (h : MadeQ (OA U (w0.heap.size + 1)) w0 es e w') (hb : Below w.heap.size w w0) : MadeQ (OB U w) w es e w' := by
  obtain ⟨v, ps, h1, h2, h3, h4, h5⟩ := h
  refine ⟨v, ps, h1, h2, ownsRow_less h3 hb.size, fun x hx => ⟨(h4 x hx).1, (h4 x hx).2.1, (h4 x hx).2.2.imp16 fun g hg => ?_⟩, below_grow hb (Nat.le_refl _) h5⟩
  have h6 : g < U.heap.size ∨ w0.heap.size + 1 + 2 ≤ g := hg
  have h7 := hb.size
  show g < U.heap.size ∨ w.heap.size ≤ g
  omega
theorem own_shape {W : World} {base : Nat} {e : TypeId} {size n : Nat} {v : Value} {xs : List Value} (h : W.ownsRow base e size v n xs) : ∃ a c, v = .slice a n c := by
  rcases h.2 with ⟨rfl, rfl⟩ | ⟨g, cap, _, rfl, _⟩
  · exact ⟨_, _, rfl⟩
  · exact ⟨_, _, rfl⟩
theorem MadeQ.shown {O : Nat → Prop} {w w' : World} {es : List En} {e : Ending} (h : MadeQ O w es e w') :
    ∃ a cap, e = .returned (.slice a es.length cap) ∧ es.length ≤ cap ∧ ELO O w' a es ∧ (∀ g o, a = some ⟨g, o, none⟩ → w.heap.size ≤ g ∧ g < w'.heap.size) ∧ Below w.heap.size w w' := by
  obtain ⟨v, ps, rfl, rfl, h3, h4, h5⟩ := h
  rcases h3.2 with ⟨rfl, h0⟩ | ⟨g, cap, cur, rfl, hg, hh, c1, c2, c3, c4⟩
  · have : ps = [] := List.eq_nil_of_length_eq_zero h0
    subst this
    exact ⟨none, 0, rfl, Nat.le_refl _, fun h => absurd h (Nat.lt_irrefl _), fun _ _ e => (by cases e), h5⟩
  · refine ⟨some ⟨g, 0, none⟩, cap, by rw [List.length_map], by rw [List.length_map]; exact c1, fun _ => ⟨g, 0, rfl, ps, rfl, fun j u hu => ?_, h4⟩, fun g' o' e => ?_, h5⟩
    · have hj : j < (flatE ps).length := (List.getElem?_eq_some_iff.1 hu).1
      rw [flatE_len] at hj
      rw [Nat.zero_add, cell_of_row w' g j cur 44 (0, 0) hh]
      have h6 : (cur.toList.take (ps.length * 2))[j]? = (flatE ps)[j]? := by rw [c4]
      rw [List.getElem?_take_of_lt hj, hu] at h6
      simpa using h6
    · injection e with e
      injection e with e1 e2
      subst e1
      exact ⟨hg, (Array.getElem?_eq_some_iff.1 hh).1⟩
theorem ELO.el {O : Nat → Prop} {W : World} {a : Option Addr} {es : List En} (h : ELO O W a es) (hl : ∀ g o, a = some ⟨g, o, none⟩ → g < W.heap.size) : EL W a es := fun h0 => by
  obtain ⟨g, o, e, ps, h1, h2, h3⟩ := h h0
  refine ⟨g, o, e, hl g o e, fun j x hj => ?_⟩
  rw [← h1, List.getElem?_map] at hj
  obtain ⟨y, hy, rfl⟩ := Option.map_eq_some_iff.1 hj
  obtain ⟨h4, h5, _⟩ := h3 y (List.mem_of_getElem? hy)
  refine ⟨y.2.1, y.2.2, ?_, ?_, h4, h5⟩
  · exact h2 (j * 2) _ (by simpa using flatE_get ps j y hy 0 _ rfl)
  · have := h2 (j * 2 + 1) _ (flatE_get ps j y hy 1 _ rfl)
    rw [show o + j * 2 + 1 = o + (j * 2 + 1) by omega]
    exact this
theorem ELO.imp {O O' : Nat → Prop} {W : World} {a : Option Addr} {es : List En} (h : ELO O W a es) (hO : ∀ g, O g → O' g) : ELO O' W a es := fun h0 => by
  obtain ⟨g, o, e, ps, h1, h2, h3⟩ := h h0
  exact ⟨g, o, e, ps, h1, h2, fun x hx => ⟨(h3 x hx).1, (h3 x hx).2.1, (h3 x hx).2.2.imp16 hO⟩⟩
theorem MadeQ.made {O : Nat → Prop} {w w' : World} {es : List En} {e : Ending} (h : MadeQ O w es e w') : MadeE w es e w' := by
  obtain ⟨a, cap, h1, h2, h3, h4, h5⟩ := h.shown
  exact ⟨a, cap, h1, h2, h3.el fun g o e => (h4 g o e).2, h5⟩
theorem MadeQ.madeN {W0 W w' : World} {es : List En} {e : Ending} (h : MadeQ (OB W0 W) W es e w') : MadeN W0 W es e w' := by
  obtain ⟨a, cap, h1, h2, h3, h4, h5⟩ := h.shown
  refine ⟨a, cap, h1, h2, h3.el fun g o e => (h4 g o e).2, fun g hg1 hg2 => ⟨?_, fun o e => by have := (h4 g o e).1; omega⟩, h5⟩
  exact h3.imp fun g' hg' e => by
    injection e with e
    have h6 : g' < W0.heap.size ∨ W.heap.size ≤ g' := hg'
    omega

set_option maxRecDepth 100000 in
set_option maxHeartbeats 400000 in
theorem collect_any (F : Nat) (d s : ByteArray) (q : ByteArray → Bool) (hA : Asked F d s q) (p0 : Option Addr) (T : List En) (hT : Tr T) (U w0 : World) (hU : TrAt U p0 T) (hUw : Below U.heap.size U w0)
    (B1 B2 B3 : Nat) (h1 : w0.cell? ⟨B1, 0, none⟩ = some (.pointer p0)) (h2 : w0.cell? ⟨B2, 0, none⟩ = some (.func (.func F) #[] #[])) (h3 : w0.cell? ⟨B3, 0, none⟩ = some (.string d)) (h3' : w0.cell? ⟨B3, 1, none⟩ = some (.string s)) :
    Calls Try.prog 29 #[.func (.func 52) #[] #[.pointer (some ⟨B1, 0, none⟩), .pointer (some ⟨B2, 0, none⟩), .pointer (some ⟨B3, 0, none⟩)]] w0 (MadeQ (OA U (w0.heap.size + 1)) w0 (T.filter fun x => q x.1)) := by
  have K := hide (callsIn_wide.1 (appendSeq_in F d s q hA p0 T hT U w0 hU hUw B1 B2 B3 h1 h2 h3 h3'))
  clear hA hT hU hUw h1 h2 h3 h3'
  go_enter Try.func29, Try.ntmps29
  go_wp2_with fail
  refine (unhide K).mono ?_
  intro e w1 h
  obtain ⟨v, ps, rfl, hQ⟩ := h
  have HQ := hide hQ
  clear hQ K
  go_wp2_with fail
  go_ret
  exact ⟨v, ps, rfl, unhide HQ⟩
/-- The boxes that those makes. -/
def boxesT (w : World) (p0 : Option Addr) (d s : ByteArray) (F : Nat) : World := ((w.alloc (.cells #[.pointer p0] 26)).alloc (.cells #[.string d, .string s] 72)).alloc (.cells #[.func (.func F) #[] #[]] 73)
theorem boxesT_at (w : World) (p0 : Option Addr) (d s : ByteArray) (F : Nat) : Below w.heap.size w (boxesT w p0 d s F) ∧ (boxesT w p0 d s F).heap.size = w.heap.size + 3 ∧ (boxesT w p0 d s F).cell? ⟨w.heap.size, 0, none⟩ = some (.pointer p0) ∧
    (boxesT w p0 d s F).cell? ⟨w.heap.size + 1 + 1, 0, none⟩ = some (.func (.func F) #[] #[]) ∧ (boxesT w p0 d s F).cell? ⟨w.heap.size + 1, 0, none⟩ = some (.string d) ∧ (boxesT w p0 d s F).cell? ⟨w.heap.size + 1, 1, none⟩ = some (.string s) := by
  have r1 := ((VRow.new w 26 [.pointer p0]).alloc (.cells #[.string d, .string s] 72)).alloc (.cells #[.func (.func F) #[] #[]] 73)
  have r2 := (VRow.newAt (W := w.alloc (.cells #[.pointer p0] 26)) (T := 72) (n := w.heap.size + 1) (vs := [.string d, .string s]) (by simp)).alloc (.cells #[.func (.func F) #[] #[]] 73)
  have r3 := VRow.newAt (W := (w.alloc (.cells #[.pointer p0] 26)).alloc (.cells #[.string d, .string s] 72)) (T := 73) (n := w.heap.size + 1 + 1) (vs := [.func (.func F) #[] #[]]) (by simp)
  exact ⟨((below_alloc' (w := w) _).alloc (by simp) _).alloc (by simp; omega) _, by simp [boxesT], r1.cell 0 _ rfl, r3.cell 0 _ rfl, r2.cell 0 _ rfl, r2.cell 1 _ rfl⟩
theorem asked_below (d s : ByteArray) : Asked 31 d s (fun p => underE p d) := ⟨enters_of Try.func31 (by kernel_rfl) rfl, fun p hp r n c w => isBelow_any d s p hp r n c w⟩
theorem asked_within (d s : ByteArray) : Asked 35 d s (fun p => decide (p = d) || underE p d) := ⟨enters_of Try.func35 (by kernel_rfl) rfl, fun p hp r n c w => isWithin_any d s p hp r n c w⟩
theorem asked_behind (d s : ByteArray) (hs : s.size ≤ maxLen) : Asked 36 d s (fun p => decide (0 < cmpE p s)) := ⟨enters_of Try.func36 (by kernel_rfl) rfl, fun p hp r n c w => isBehind_any d s p (Nat.le_trans hp (by unfold maxLen; omega)) hs r n c w⟩
theorem asked_both (d s : ByteArray) (hs : s.size ≤ maxLen) : Asked 32 d s (fun p => underE p d && decide (0 < cmpE p s)) := ⟨enters_of Try.func32 (by kernel_rfl) rfl, fun p hp r n c w => isBoth_any d s p hp hs r n c w⟩

set_option maxRecDepth 100000 in
set_option maxHeartbeats 400000 in
theorem walkUnder_any (p0 : Option Addr) (T : List En) (hT : Tr T) (d : ByteArray) (U w : World) (hU : TrAt U p0 T) (hUw : Below U.heap.size U w) :
    Calls Try.prog 12 #[.pointer p0, .string d] w (MadeQ (OB U w) w (belowAll T d)) := by
  have KT := hide (those_any 31 d ⟨#[]⟩ p0 w)
  obtain ⟨hb, _, c1, c2, c3, c3'⟩ := boxesT_at w p0 d ⟨#[]⟩ 31
  have KC := hide (collect_any 31 d ⟨#[]⟩ _ (asked_below d ⟨#[]⟩) p0 T hT U _ hU (below_grow hUw (Nat.le_refl _) hb) _ _ _ c1 c2 c3 c3')
  have HB := hide hb
  rw [below_eq hT]
  clear hT hU hUw hb c1 c2 c3 c3'
  go_enter Try.func12, Try.ntmps12
  go_wp2_with fail
  refine (unhide KT).mono ?_
  rintro e w1 ⟨rfl, hw⟩
  have hw2 : boxesT w p0 d ⟨#[]⟩ 31 = w1 := hw.symm
  rw [hw2] at KC HB
  clear hw hw2 KT
  go_wp2_with fail
  refine (unhide KC).mono ?_
  intro e w2 h
  have h2 := h.weak (unhide HB)
  obtain ⟨v, ps, rfl, hQ⟩ := h2
  have HQ := hide hQ
  clear h hQ KC HB
  go_wp2_with fail
  go_ret
  exact ⟨v, ps, rfl, unhide HQ⟩
end Go.Proofs.Ytpfighkafmammaa

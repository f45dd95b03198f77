/-
  Two matrices in memory, and a list beside them: what learning does to them; the plain facts of the law of order.
-/
import Derived.Test.YtbgpdiinkkgieaaAwake
namespace Go.Proofs.Ytbgpdiinkkgieaa
open Go.RowKit

theorem learnL_idem {rows : List (List Vc.D)} (h : Vecs rows) (peer : Int) (v : List Vc.D) : learnL (learnL rows peer v).1 peer v = learnL rows peer v := by
  have e2 : ∀ r : List (List Vc.D), (learnL r peer v).2 = mayE r.length peer v := fun r => by
    unfold learnL
    split
    · rfl
    · rename_i h
      exact (Classical.not_not.1 h).symm
  refine Prod.ext ?_ (by rw [e2, e2, learnL_len])
  refine rows_ext (by simp [learnL_len]) (learnL_vecs (learnL_vecs h _ _) _ _) (learnL_vecs h _ _) fun i x => ?_
  rw [learnL_at (learnL_vecs h _ _), learnL_at h, learnL_len]
  split <;> omega
theorem learnAll_snoc {l : List (Int × List Vc.D)} {k : Nat} {f : Int × List Vc.D} (hf : l[k]? = some f) (rows : List (List Vc.D)) : learnAll rows (l.take (k + 1)) = (learnL (learnAll rows (l.take k)) f.1 f.2).1 := by
  rw [take_snocA hf]
  unfold learnAll
  rw [List.foldl_append]
  rfl
theorem mnR_none (n : Nat) (p : Int) : ∀ k, mnR (List.replicate n []) p k = 0
  | 0 => rfl
  | k + 1 => by
    have e : (List.replicate n ([] : List Vc.D))[k]?.getD [] = [] := by
      cases h : (List.replicate n ([] : List Vc.D))[k]? with
      | none => rfl
      | some d => exact (List.mem_replicate.1 (List.mem_of_getElem? h)).2
    rw [mnR, mnR_none n p k, e]
    have h0 : Vc.get [] p = 0 := by rw [Vc.get_vec (l := []) trivial]; rfl
    rw [h0]
    split <;> rfl
theorem stable_none (n : Nat) : IsStable (List.replicate n []) [] := ⟨trivial, fun p => by
  rw [mnR_none]
  split <;> rfl⟩
theorem IsStable.is {rows : List (List Vc.D)} {S : List Vc.D} (h : IsStable rows S) : S.length ≤ 64 := Vc.vec_len h.up

/-- Two matrices that own nothing in common and nothing that was there, and a list that neither owns. -/
structure DuoO (M : World → Addr → List (List Vc.D) → (Nat → Prop) → Prop) (w : World) (p q : Addr) (ra rb : List (List Vc.D)) (r : Option Addr) (s : List Vc.D) (W : World) (oa ob : Nat → Prop) : Prop where
  ma : M W p ra oa
  mb : M W q rb ob
  ga : ∀ g, oa g → w.heap.size ≤ g
  gb : ∀ g, ob g → w.heap.size ≤ g
  dis : ∀ g, oa g → ¬ ob g
  below : Below w.heap.size w W
  sl : Sl W r s
  sa : SProv (fun g => ¬ oa g) r s
  sb : SProv (fun g => ¬ ob g) r s
def Duo (M : World → Addr → List (List Vc.D) → (Nat → Prop) → Prop) (w : World) (p q : Addr) (ra rb : List (List Vc.D)) (r : Option Addr) (s : List Vc.D) (W : World) : Prop := ∃ oa ob, DuoO M w p q ra rb r s W oa ob
section
variable {M : World → Addr → List (List Vc.D) → (Nat → Prop) → Prop} {w W W' : World} {p q : Addr} {ra rb : List (List Vc.D)} {r : Option Addr} {s : List Vc.D}
theorem Duo.swap (h : Duo M w p q ra rb r s W) : Duo M w q p rb ra r s W := by
  obtain ⟨oa, ob, h⟩ := h
  exact ⟨ob, oa, h.mb, h.ma, h.gb, h.ga, fun g h1 h2 => h.dis g h2 h1, h.below, h.sl, h.sb, h.sa⟩
theorem Duo.after (P : Prg M) (h : Duo M w p q ra rb r s W) (hb : Below W.heap.size W W') : Duo M w p q ra rb r s W' := by
  obtain ⟨oa, ob, h⟩ := h
  exact ⟨oa, ob, P.after h.ma hb, P.after h.mb hb, h.ga, h.gb, h.dis, below_grow h.below (Nat.le_refl _) hb, h.sl.after hb, h.sa, h.sb⟩
theorem Duo.below (h : Duo M w p q ra rb r s W) : Below w.heap.size w W := by
  obtain ⟨oa, ob, h⟩ := h
  exact h.below
theorem Duo.sl (h : Duo M w p q ra rb r s W) : Sl W r s := by
  obtain ⟨oa, ob, h⟩ := h
  exact h.sl
theorem Duo.vecs (P : Prg M) (h : Duo M w p q ra rb r s W) : Vecs ra := by
  obtain ⟨oa, ob, h⟩ := h
  exact (P.vecs h.ma).1
theorem duo_learn (P : Prg M) (h : Duo M w p q ra rb r s W) (peer : Int) (rv : Option Addr) (c : Nat) (v : List Vc.D) (hv : v.length ≤ 100000) (hc : v.length ≤ c) (hs : Sl w rv v) :
    Calls Try.prog 12 #[.pointer (some p), .int .i64 peer, .slice rv v.length c] W fun e w' => e = .returned (.int .i64 (learnL ra peer v).2) ∧ Duo M w p q (learnL ra peer v).1 rb r s w' := by
  obtain ⟨oa, ob, h⟩ := h
  have hsp : SProv (fun g => ¬ oa g) rv v := fun ad e h0 h1 => by
    obtain ⟨g, o, e', hg, _⟩ := hs h0
    rw [e] at e'
    injection e' with e'
    subst e'
    exact Nat.lt_irrefl _ (Nat.lt_of_lt_of_le hg (h.ga _ h1))
  have hs2 : Sl W rv v := hs.after h.below
  refine (P.learn h.ma peer rv c v hv hc hs2 hsp).mono ?_
  rintro e w' ⟨oa', rfl, hm, ho, hb⟩
  refine ⟨rfl, oa', ob, hm, P.keep h.mb hb.size fun g hg => hb.block g (P.lt h.mb g hg) fun h1 => h.dis g h1 hg, own_beside h.below (Nat.le_refl _) h.ga ho, h.gb, fun g h1 h2 => ?_, below_beside h.below (Nat.le_refl _) h.ga hb, h.sl.beside h.sa hb, SProv.beside h.sl h.sa ho, h.sb⟩
  rcases ho g h1 with h3 | h3
  · exact h.dis g h3 h2
  · exact Nat.lt_irrefl _ (Nat.lt_of_lt_of_le (P.lt h.mb g h2) h3)
theorem duo_stable (P : Prg M) (h : Duo M w p q ra rb r s W) :
    Calls Try.prog 17 #[.pointer (some p)] W fun e w' => ∃ r' c, e = .returned (.slice r' (stableL ra).length c) ∧ (stableL ra).length ≤ c ∧ Duo M w p q ra rb r' (stableL ra) w' ∧ Duo M w p q ra rb r s w' := by
  have h0 := h
  obtain ⟨oa, ob, h⟩ := h
  refine (P.stable h.ma).mono ?_
  rintro e w' ⟨r', c, rfl, hc, hs, hp, hb⟩
  refine ⟨r', c, rfl, hc, ⟨oa, ob, P.after h.ma hb, P.after h.mb hb, h.ga, h.gb, h.dis, below_grow h.below (Nat.le_refl _) hb, hs, prov_fresh hp (P.lt h.ma), prov_fresh hp (P.lt h.mb)⟩, h0.after P hb⟩
/-- Learnt already, or not yet. -/
def DuoX (M : World → Addr → List (List Vc.D) → (Nat → Prop) → Prop) (w : World) (p q : Addr) (ra rb : List (List Vc.D)) (r : Option Addr) (s : List Vc.D) (peer : Int) (v : List Vc.D) (W : World) : Prop := ∃ st, Duo M w p q st rb r s W ∧ learnL st peer v = learnL ra peer v
theorem DuoX.start (P : Prg M) (h : Duo M w p q ra rb r s W) (hb : Below W.heap.size W W') (peer : Int) (v : List Vc.D) : DuoX M w p q ra rb r s peer v W' := ⟨ra, h.after P hb, rfl⟩
theorem DuoX.done (hv : Vecs ra) {peer : Int} {v : List Vc.D} (h : Duo M w p q (learnL ra peer v).1 rb r s W) : DuoX M w p q ra rb r s peer v W := ⟨_, h, learnL_idem hv peer v⟩
theorem DuoX.below {peer : Int} {v : List Vc.D} (h : DuoX M w p q ra rb r s peer v W) : Below w.heap.size w W := by
  obtain ⟨st, h, _⟩ := h
  exact h.below
theorem duoX_learn (P : Prg M) {peer : Int} {v : List Vc.D} (h : DuoX M w p q ra rb r s peer v W) (rv : Option Addr) (c : Nat) (hv : v.length ≤ 100000) (hc : v.length ≤ c) (hs : Sl w rv v) :
    Calls Try.prog 12 #[.pointer (some p), .int .i64 peer, .slice rv v.length c] W fun e w' => e = .returned (.int .i64 (learnL ra peer v).2) ∧ Duo M w p q (learnL ra peer v).1 rb r s w' := by
  obtain ⟨st, h, e⟩ := h
  have K := duo_learn P h peer rv c v hv hc hs
  rw [e] at K
  exact K
end
end Go.Proofs.Ytbgpdiinkkgieaa

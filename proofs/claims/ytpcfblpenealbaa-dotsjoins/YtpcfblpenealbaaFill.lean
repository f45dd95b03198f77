/-
  Plain facts on dots added one behind the other, and on gaps that are filled.
-/
import Derived.Test.YtpcfblpenealbaaAwake
namespace Go.Proofs.Ytpcfblpenealbaa.Vc

theorem card_is {B E B' E' : List D} {d : D} {is : Bool} (hs : SetOk B E) (hgood : checkS B E = 0 ∧ dotErr d = 0 → SetOk B' E' ∧ (∀ x, In B' E' x ↔ In B E x ∨ x = d) ∧ (is = true ↔ ¬ In B E d)) (hbad : ¬ (checkS B E = 0 ∧ dotErr d = 0) → B' = B ∧ E' = E ∧ is = false) :
    SetOk B' E' ∧ (∀ x, In B' E' x ↔ In B E x ∨ (x = d ∧ Ok d)) ∧ card B' E' = card B E + (if is = true then 1 else 0) ∧ (is = true ↔ Ok d ∧ ¬ In B E d) := by
  have hz := (checkS_zero B E).2 hs
  by_cases hd : dotErr d = 0
  · obtain ⟨h1, h2, h3⟩ := hgood ⟨hz, hd⟩
    have hok := (dotErr_zero d).1 hd
    refine ⟨h1, fun x => ?_, ?_, ?_⟩
    · rw [h2 x]; simp [hok]
    · by_cases hi : In B E d
      · have e : is = false := by
          cases h : is with
          | false => rfl
          | true => exact absurd hi (h3.1 h)
        rw [e, card_same hs h1 fun x => ⟨fun hx => ((h2 x).1 hx).elim id (fun e => by rw [e]; exact hi), fun hx => (h2 x).2 (.inl hx)⟩]
        simp
      · rw [h3.2 hi, card_add hs h1 d hi h2]
        simp
    · rw [h3]; simp [hok]
  · obtain ⟨rfl, rfl, rfl⟩ := hbad fun h => hd h.2
    have hok : ¬ Ok d := fun h => hd ((dotErr_zero d).2 h)
    exact ⟨hs, fun x => by simp [hok], by simp, by simp [hok]⟩

/-- The dots of a list that may be. -/
def Of (l : List D) (x : D) : Prop := x ∈ l ∧ Ok x
theorem of_snoc {l : List D} {k : Nat} {d : D} (h : l[k]? = some d) (x : D) : Of (l.take (k + 1)) x ↔ Of (l.take k) x ∨ (x = d ∧ Ok d) := by
  have hk := (List.getElem?_eq_some_iff.1 h).1
  unfold Of
  rw [List.take_succ_eq_append_getElem hk, (List.getElem?_eq_some_iff.1 h).2, List.mem_append, List.mem_singleton]
  constructor
  · rintro ⟨h1 | rfl, h2⟩
    · exact .inl ⟨h1, h2⟩
    · exact .inr ⟨rfl, h2⟩
  · rintro (⟨h1, h2⟩ | ⟨rfl, h2⟩)
    · exact ⟨.inl h1, h2⟩
    · exact ⟨.inr rfl, h2⟩

theorem few_len (c : Int) : ∀ l : List D, (l.flatMap fun d => upTo (d.1, c)).length = l.length * c.toNat
  | [] => by simp
  | d :: l => by
    rw [List.flatMap_cons, List.length_append, few_len c l, List.length_cons, Nat.succ_mul]
    unfold upTo
    simp
    omega
theorem gaps_few {B E P l : List D} (hin : ∀ x, In B E x → x ∈ l) (hc : ∀ x ∈ l, x.2 ≤ 40) (hl : l.length ≤ 12) (hg : IsGaps B E 600 P) : (∀ x, x ∈ P ↔ Gap B E x) ∧ P.length ≤ 480 ∧ Ris d0 P := by
  obtain ⟨⟨cur, gP, eP⟩, _⟩ := hg
  have h1 : P.length ≤ (l.flatMap fun d => upTo (d.1, 40)).length := nodup_len gP.ris.nodup fun x hx => by
    obtain ⟨y, hy, e, hlt⟩ := ((gP.mem x).1 hx).1.there
    have hyl := hin y (.inr hy)
    refine List.mem_flatMap.2 ⟨y, hyl, (mem_upTo _ _).2 ⟨e.symm, ((gP.mem x).1 hx).1.1, ?_⟩⟩
    have := hc y hyl
    show x.2 ≤ 40
    omega
  rw [few_len] at h1
  have h2 : P.length ≤ 480 := by
    have : (40 : Int).toNat = 40 := rfl
    rw [this] at h1
    omega
  refine ⟨fun x => ?_, h2, gP.ris⟩
  rcases eP with e | e
  · omega
  · rw [gP.mem x]
    exact ⟨fun h => h.1, fun h => ⟨h, e x h⟩⟩
/-- With its gaps filled a set has none. -/
theorem filled {B E B' E' : List D} (h' : SetOk B' E') (hm : ∀ x, In B' E' x ↔ In B E x ∨ Gap B E x) : E' = [] := by
  cases E' with
  | nil => rfl
  | cons d l =>
    exfalso
    have hd : d ∈ d :: l := List.mem_cons_self ..
    have hf := h'.far d hd
    have hb := look_bd d.1 h'.base
    -- some dot of d's peer, not ahead of d, is in the old set
    obtain ⟨y, hy, e, hl⟩ : ∃ y, In B E y ∧ y.1 = d.1 ∧ d.2 ≤ y.2 := by
      rcases (hm d).1 (.inr hd) with h | h
      · exact ⟨d, h, rfl, Int.le_refl _⟩
      · obtain ⟨_, _, y, hy, e, hl⟩ := h
        exact ⟨y, hy, e, by omega⟩
    have hn : ¬ In B' (d :: l) (d.1, look B' d.1 + 1) := by
      rintro (⟨_, h⟩ | h)
      · have h2 : look B' d.1 + 1 ≤ look B' d.1 := h
        omega
      · have h2 : look B' d.1 + 1 < look B' d.1 + 1 := h'.far _ h
        omega
    apply hn
    rw [hm]
    by_cases hi : In B E (d.1, look B' d.1 + 1)
    · exact .inl hi
    · exact .inr ⟨by show 1 ≤ look B' d.1 + 1; omega, hi, y, hy, e, by show look B' d.1 + 1 < y.2; omega⟩
theorem no_gaps {B P : List D} {m : Nat} (hg : IsGaps B [] m P) : P = [] := by
  obtain ⟨⟨cur, gP, _⟩, _⟩ := hg
  cases P with
  | nil => rfl
  | cons d l =>
    obtain ⟨y, hy, _⟩ := ((gP.mem d).1 (List.mem_cons_self ..)).1.there
    cases hy
theorem ris_take {l : List D} {k : Nat} {d : D} (hr : Ris d0 l) (h : l[k]? = some d) : d ∉ l.take k := by
  intro hd
  have hk := (List.getElem?_eq_some_iff.1 h).1
  have e := List.drop_eq_getElem_cons hk
  rw [(List.getElem?_eq_some_iff.1 h).2] at e
  have hr' := hr
  rw [← List.take_append_drop k l, e] at hr'
  exact ((ris_mid hr').1 d hd).irr
end Go.Proofs.Ytpcfblpenealbaa.Vc

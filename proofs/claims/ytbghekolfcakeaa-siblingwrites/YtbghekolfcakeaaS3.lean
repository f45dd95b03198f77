/-
  Plain facts on rows that are sorted by parts: no program, no world. Conditions: none but those that each theorem names.
-/
import Derived.Test.YtbghekolfcakeaaS1
namespace Go.Proofs.Ytbghekolfcakeaa
open Go.Shelf Go.RowKit Go.Lib Go.Sort

/-- An order out of a comparison and of where things stood at first. -/
structure Ord (cf : TP → TP → Int) (lt : TP → TP → Prop) : Prop where
  trans : ∀ {x y z : TP}, lt x y → lt y z → lt x z
  less : ∀ {x y : TP}, cf x y < 0 → lt x y
  more : ∀ {x y : TP}, ¬ cf x y < 0 → y.1 < x.1 → lt y x
def Srt (lt : TP → TP → Prop) (d : Array TP) (lo hi : Nat) : Prop := ∀ p q, lo ≤ p → p < q → q < hi → lt d[p]! d[q]!
def Sep (d : Array TP) (a m b : Nat) : Prop := ∀ p q, a ≤ p → p < m → m ≤ q → q < b → d[p]!.1 < d[q]!.1
structure Mix (lo hi : Nat) (d d' : Array TP) : Prop where
  size : d'.size = d.size
  out : ∀ p, p < lo ∨ hi ≤ p → d'[p]! = d[p]!
  into : ∀ p, lo ≤ p → p < hi → ∃ q, lo ≤ q ∧ q < hi ∧ d'[p]! = d[q]!
  onto : ∀ q, lo ≤ q → q < hi → ∃ p, lo ≤ p ∧ p < hi ∧ d'[p]! = d[q]!
theorem Mix.refl (lo hi : Nat) (d : Array TP) : Mix lo hi d d := ⟨rfl, fun _ _ => rfl, fun p h1 h2 => ⟨p, h1, h2, rfl⟩, fun p h1 h2 => ⟨p, h1, h2, rfl⟩⟩
theorem Mix.trans {lo hi : Nat} {d d' d'' : Array TP} (h : Mix lo hi d d') (h' : Mix lo hi d' d'') : Mix lo hi d d'' := by
  refine ⟨h'.size.trans h.size, fun p hp => (h'.out p hp).trans (h.out p hp), fun p h1 h2 => ?_, fun q h1 h2 => ?_⟩
  · obtain ⟨q, q1, q2, e⟩ := h'.into p h1 h2
    obtain ⟨r, r1, r2, e'⟩ := h.into q q1 q2
    exact ⟨r, r1, r2, e.trans e'⟩
  · obtain ⟨r, r1, r2, e⟩ := h.onto q h1 h2
    obtain ⟨p, p1, p2, e'⟩ := h'.onto r r1 r2
    exact ⟨p, p1, p2, e'.trans e⟩
theorem Mix.wide {lo hi lo' hi' : Nat} {d d' : Array TP} (h : Mix lo hi d d') (h1 : lo' ≤ lo) (h2 : hi ≤ hi') : Mix lo' hi' d d' := by
  refine ⟨h.size, fun p hp => h.out p (by omega), fun p p1 p2 => ?_, fun q q1 q2 => ?_⟩
  · by_cases hp : lo ≤ p ∧ p < hi
    · obtain ⟨q, q1, q2, e⟩ := h.into p hp.1 hp.2
      exact ⟨q, by omega, by omega, e⟩
    · exact ⟨p, p1, p2, h.out p (by omega)⟩
  · by_cases hq : lo ≤ q ∧ q < hi
    · obtain ⟨p, p1, p2, e⟩ := h.onto q hq.1 hq.2
      exact ⟨p, by omega, by omega, e⟩
    · exact ⟨q, q1, q2, h.out q (by omega)⟩
theorem rh_in {a m b lo hi p : Nat} (h1 : lo ≤ a) (h2 : a ≤ m) (h3 : m ≤ b) (h4 : b ≤ hi) (p1 : lo ≤ p) (p2 : p < hi) : lo ≤ rh a m b p ∧ rh a m b p < hi := by
  unfold rh
  split
  · omega
  · split <;> omega
theorem rh_inv {a m b : Nat} (h2 : a ≤ m) (h3 : m ≤ b) (p : Nat) : rh a m b (rh a (a + (b - m)) b p) = p := by
  unfold rh
  split
  · split <;> (try split) <;> omega
  · split
    · split <;> (try split) <;> omega
    · split <;> (try split) <;> omega
theorem rh_out {a m b p : Nat} (h2 : a ≤ m) (h3 : m ≤ b) (hp : p < a ∨ b ≤ p) : rh a m b p = p := by
  unfold rh
  split
  · omega
  · split <;> omega
theorem Mix.of_rh {a m b : Nat} {d d' : Array TP} (hs : d'.size = d.size) (h2 : a ≤ m) (h3 : m ≤ b) (h : ∀ p, d'[p]! = d[rh a m b p]!) : Mix a b d d' := by
  refine ⟨hs, fun p hp => by rw [h, rh_out h2 h3 hp], fun p p1 p2 => ?_, fun q q1 q2 => ?_⟩
  · obtain ⟨x1, x2⟩ := rh_in (Nat.le_refl a) h2 h3 (Nat.le_refl b) p1 p2
    exact ⟨_, x1, x2, h p⟩
  · obtain ⟨x1, x2⟩ := rh_in (m := a + (b - m)) (Nat.le_refl a) (by omega) (by omega) (Nat.le_refl b) q1 q2
    exact ⟨_, x1, x2, by rw [h, rh_inv h2 h3]⟩
theorem rh_id {a b p : Nat} (h : a ≤ b) : rh a a b p = p := by
  unfold rh
  split
  · omega
  · split <;> omega
theorem rh_id' {a b p : Nat} (h : a ≤ b) : rh a b b p = p := by
  unfold rh
  split
  · omega
  · split <;> omega
variable {cf : TP → TP → Int} {lt : TP → TP → Prop}
theorem Srt.same {d d' : Array TP} {lo hi : Nat} (h : Srt lt d lo hi) (e : ∀ p, lo ≤ p → p < hi → d'[p]! = d[p]!) : Srt lt d' lo hi := fun p q h1 h2 h3 => by
  rw [e p h1 (by omega), e q (by omega) h3]
  exact h p q h1 h2 h3
theorem Srt.le (O : Ord cf lt) {d : Array TP} {lo hi : Nat} (h : Srt lt d lo hi) {x : TP} {p q : Nat} (h1 : lo ≤ p) (h2 : p ≤ q) (h3 : q < hi) (hx : lt d[q]! x) : lt d[p]! x := by
  by_cases e : p = q
  · rw [e]; exact hx
  · exact O.trans (h p q h1 (by omega) h3) hx
theorem Srt.ge (O : Ord cf lt) {d : Array TP} {lo hi : Nat} (h : Srt lt d lo hi) {x : TP} {p q : Nat} (h1 : lo ≤ p) (h2 : p ≤ q) (h3 : q < hi) (hx : lt x d[p]!) : lt x d[q]! := by
  by_cases e : p = q
  · rw [← e]; exact hx
  · exact O.trans hx (h p q h1 (by omega) h3)
/-- One that stands last comes to its place. -/
theorem ins_last (O : Ord cf lt) {d d' : Array TP} {a m i : Nat} (h : Srt lt d a m) (hi : a ≤ i) (him : i ≤ m) (h1 : i = a ∨ lt d[i - 1]! d[m]!) (h2 : i = m ∨ lt d[m]! d[i]!) (hd : ∀ p, d'[p]! = d[rh i m (m + 1) p]!) : Srt lt d' a (m + 1) := by
  have e1 : ∀ p, p < i → d'[p]! = d[p]! := fun p hp => by rw [hd, show rh i m (m + 1) p = p by unfold rh; split <;> (try split) <;> omega]
  have e2 : d'[i]! = d[m]! := by rw [hd, show rh i m (m + 1) i = m by unfold rh; split <;> (try split) <;> omega]
  have e3 : ∀ p, i < p → p < m + 1 → d'[p]! = d[p - 1]! := fun p hp hq => by rw [hd, show rh i m (m + 1) p = p - 1 by unfold rh; split <;> (try split) <;> omega]
  intro p q p1 pq q2
  rcases Nat.lt_trichotomy p i with hp | hp | hp
  · rw [e1 p hp]
    have hb : lt d[i - 1]! d[m]! := h1.resolve_left (by omega)
    rcases Nat.lt_trichotomy q i with hq | hq | hq
    · rw [e1 q hq]; exact h p q p1 pq (by omega)
    · rw [hq, e2]; exact h.le O p1 (by omega) (by omega) hb
    · rw [e3 q hq q2]; exact h p (q - 1) p1 (by omega) (by omega)
  · rw [hp, e2, e3 q (by omega) q2]
    have hb : lt d[m]! d[i]! := h2.resolve_left (by omega)
    exact h.ge O hi (by omega) (by omega) hb
  · rw [e3 p hp (by omega), e3 q (by omega) q2]
    exact h (p - 1) (q - 1) (by omega) (by omega) (by omega)
/-- One that stands first comes to its place. -/
theorem ins_first (O : Ord cf lt) {d d' : Array TP} {a b e : Nat} (h : Srt lt d (a + 1) b) (he : a + 1 ≤ e) (heb : e ≤ b) (h1 : e = a + 1 ∨ lt d[e - 1]! d[a]!) (h2 : e = b ∨ lt d[a]! d[e]!) (hd : ∀ p, d'[p]! = d[rh a (a + 1) e p]!) : Srt lt d' a b := by
  have e1 : ∀ p, a ≤ p → p + 1 < e → d'[p]! = d[p + 1]! := fun p h0 hp => by rw [hd, show rh a (a + 1) e p = p + 1 by unfold rh; split <;> (try split) <;> omega]
  have e2 : d'[e - 1]! = d[a]! := by rw [hd, show rh a (a + 1) e (e - 1) = a by unfold rh; split <;> (try split) <;> omega]
  have e3 : ∀ p, e ≤ p → d'[p]! = d[p]! := fun p hp => by rw [hd, show rh a (a + 1) e p = p by unfold rh; split <;> (try split) <;> omega]
  intro p q p1 pq q2
  rcases Nat.lt_trichotomy p (e - 1) with hp | hp | hp
  · rw [e1 p p1 (by omega)]
    have hb : lt d[e - 1]! d[a]! := h1.resolve_left (by omega)
    rcases Nat.lt_trichotomy q (e - 1) with hq | hq | hq
    · rw [e1 q (by omega) (by omega)]; exact h (p + 1) (q + 1) (by omega) (by omega) (by omega)
    · rw [hq, e2]; exact h.le O (by omega) (by omega) (by omega) hb
    · rw [e3 q (by omega)]; exact h (p + 1) q (by omega) (by omega) q2
  · rw [hp, e2, e3 q (by omega)]
    have hb : lt d[a]! d[e]! := h2.resolve_left (by omega)
    exact h.ge O he (by omega) q2 hb
  · rw [e3 p (by omega), e3 q (by omega)]
    exact h p q (by omega) pq q2
theorem srt_join {d : Array TP} {a m b : Nat} (h1 : Srt lt d a m) (h2 : Srt lt d m b) (h3 : ∀ p q, a ≤ p → p < m → m ≤ q → q < b → lt d[p]! d[q]!) : Srt lt d a b := by
  intro p q p1 pq q2
  by_cases hq : q < m
  · exact h1 p q p1 pq hq
  · by_cases hp : p < m
    · exact h3 p q p1 hp (by omega) q2
    · exact h2 p q (by omega) pq q2
theorem srt_one (d : Array TP) {a b : Nat} (h : b ≤ a + 1) : Srt lt d a b := fun p q h1 h2 h3 => by omega
/-- Two sorted runs, their ends and heads exchanged so that what stands ahead of the middle is less than what stands behind it. -/
structure Halves (lt : TP → TP → Prop) (d' : Array TP) (a s mid e b : Nat) : Prop where
  s1 : Srt lt d' a s
  s2 : Srt lt d' s mid
  s3 : Srt lt d' mid e
  s4 : Srt lt d' e b
  x1 : Sep d' a s mid
  x2 : Sep d' mid e b
  cross : ∀ p q, a ≤ p → p < mid → mid ≤ q → q < b → lt d'[p]! d'[q]!
theorem halves (O : Ord cf lt) {d d' : Array TP} {a m b s e mid : Nat} (hu : Srt lt d a m) (hv : Srt lt d m b) (hx : Sep d a m b) (has : a ≤ s) (hsm : s ≤ m) (hme : m ≤ e) (heb : e ≤ b) (hmid : mid + m = s + e)
    (h1 : s = a ∨ e = b ∨ lt d[s - 1]! d[e]!) (h2 : s = m ∨ e = m ∨ lt d[e - 1]! d[s]!) (hd : ∀ p, d'[p]! = d[rh s m e p]!) : Halves lt d' a s mid e b := by
  have e1 : ∀ p, p < s → d'[p]! = d[p]! := fun p hp => by rw [hd, show rh s m e p = p by unfold rh; split <;> (try split) <;> omega]
  have e2 : ∀ p, s ≤ p → p < mid → d'[p]! = d[p + (m - s)]! := fun p h0 hp => by rw [hd, show rh s m e p = p + (m - s) by unfold rh; split <;> (try split) <;> omega]
  have e3 : ∀ p, mid ≤ p → p < e → d'[p]! = d[p - (e - m)]! := fun p h0 hp => by rw [hd, show rh s m e p = p - (e - m) by unfold rh; split <;> (try split) <;> omega]
  have e4 : ∀ p, e ≤ p → d'[p]! = d[p]! := fun p hp => by rw [hd, show rh s m e p = p by unfold rh; split <;> (try split) <;> omega]
  refine ⟨fun p q p1 pq q2 => ?_, fun p q p1 pq q2 => ?_, fun p q p1 pq q2 => ?_, fun p q p1 pq q2 => ?_, fun p q p1 p2 q1 q2 => ?_, fun p q p1 p2 q1 q2 => ?_, fun p q p1 p2 q1 q2 => ?_⟩
  · rw [e1 p (by omega), e1 q (by omega)]; exact hu p q p1 pq (by omega)
  · rw [e2 p (by omega) (by omega), e2 q (by omega) (by omega)]; exact hv _ _ (by omega) (by omega) (by omega)
  · rw [e3 p (by omega) (by omega), e3 q (by omega) (by omega)]; exact hu _ _ (by omega) (by omega) (by omega)
  · rw [e4 p (by omega), e4 q (by omega)]; exact hv p q (by omega) pq q2
  · rw [e1 p (by omega), e2 q (by omega) (by omega)]; exact hx _ _ (by omega) (by omega) (by omega) (by omega)
  · rw [e3 p (by omega) (by omega), e4 q (by omega)]; exact hx _ _ (by omega) (by omega) (by omega) (by omega)
  · by_cases hp : p < s
    · rw [e1 p hp]
      by_cases hq : q < e
      · rw [e3 q q1 hq]; exact hu _ _ p1 (by omega) (by omega)
      · rw [e4 q (by omega)]
        have hb : lt d[s - 1]! d[e]! := (h1.resolve_left (by omega)).resolve_left (by omega)
        exact hu.le O p1 (by omega) (by omega) (hv.ge O hme (by omega) q2 hb)
    · rw [e2 p (by omega) p2]
      by_cases hq : q < e
      · rw [e3 q q1 hq]
        have hb : lt d[e - 1]! d[s]! := (h2.resolve_left (by omega)).resolve_left (by omega)
        exact hv.le O (by omega) (by omega) (by omega) (hu.ge O has (by omega) (by omega) hb)
      · rw [e4 q (by omega)]; exact hv _ _ (by omega) (by omega) q2
theorem Mix.sep {d d' : Array TP} {a m b lo hi : Nat} (h : Sep d a m b) (hm : Mix lo hi d d') (hin : (a ≤ lo ∧ hi ≤ m) ∨ (m ≤ lo ∧ hi ≤ b) ∨ hi ≤ a ∨ b ≤ lo) : Sep d' a m b := by
  intro p q p1 p2 q1 q2
  have key : ∀ x, ∃ y, d'[x]! = d[y]! ∧ (x = y ∨ (lo ≤ x ∧ x < hi ∧ lo ≤ y ∧ y < hi)) := fun x => by
    by_cases hx : lo ≤ x ∧ x < hi
    · obtain ⟨y, y1, y2, e⟩ := hm.into x hx.1 hx.2
      exact ⟨y, e, .inr ⟨hx.1, hx.2, y1, y2⟩⟩
    · exact ⟨x, hm.out x (by omega), .inl rfl⟩
  obtain ⟨y, ey, hy⟩ := key p
  obtain ⟨z, ez, hz⟩ := key q
  rw [ey, ez]
  exact h y z (by omega) (by omega) (by omega) (by omega)
/-- The two halves, each sorted, make the whole. -/
theorem Halves.done {d1 d2 d3 : Array TP} {a s mid e b : Nat} (h : Halves lt d1 a s mid e b) (m1 : Mix a mid d1 d2) (m2 : Mix mid b d2 d3) (s1 : Srt lt d2 a mid) (s2 : Srt lt d3 mid b) : Srt lt d3 a b := by
  refine srt_join (s1.same fun p p1 p2 => m2.out p (by omega)) s2 fun p q p1 p2 q1 q2 => ?_
  obtain ⟨y, y1, y2, ey⟩ := m1.into p p1 p2
  obtain ⟨z, z1, z2, ez⟩ := m2.into q q1 q2
  rw [m2.out p (by omega), ey, ez, m1.out z (by omega)]
  exact h.cross y z y1 y2 z1 z2
end Go.Proofs.Ytbghekolfcakeaa

namespace Go.Proofs.Ytbghekolfcakeaa
open Go.Shelf Go.RowKit Go.Lib Go.Sort

def Sorted (k : Nat) (lt : TP → TP → Prop) (w0 : World) (g : Nat) (dk : Array TP) (a b : Nat) (e : Ending) (W' : World) : Prop := e = .returned (.tuple #[]) ∧ ∃ d', SWK encT k w0 g 0 d' W' ∧ Mix a b dk d' ∧ Srt lt d' a b
theorem ins_step {di dj : Array TP} {i jp : Nat} (hi : i < di.size) (hj : jp + 1 ≤ i) (hs : dj.size = di.size) (h : ∀ p, dj[p]! = di[rh (jp + 1) i (i + 1) p]!) : ∀ p, (swp dj (jp + 1) jp)[p]! = di[rh jp i (i + 1) p]! := fun p => by
  rw [swp_get dj (by omega) (by omega), h, h, h]
  have e : ∀ x y : Nat, x = y → di[x]! = di[y]! := fun x y e => by rw [e]
  split
  · refine e _ _ ?_
    unfold rh
    split <;> split <;> (try split) <;> (try split) <;> omega
  · split
    · refine e _ _ ?_
      unfold rh
      split <;> split <;> (try split) <;> (try split) <;> omega
    · refine e _ _ ?_
      unfold rh
      split <;> split <;> (try split) <;> (try split) <;> omega
theorem zadd {W : World} {P : Program} {g x k : Nat} {r : Result (Array Value)} (h : Sem.run P (loadCellsFrom ⟨g, 0 + x, none⟩ 0 k #[]) W = r) : Sem.run P (loadCellsFrom ⟨g, x, none⟩ 0 k #[]) W = r := by rw [Nat.zero_add] at h; exact h

set_option maxRecDepth 100000 in
set_option maxHeartbeats 2000000 in
theorem insertion_gen {P : Program} {k : Nat} (L : Lay P k) (F78 : P.funcs[78]? = some Try.f78) (gc : Nat) (cb : Array Value) (eg : ∀ args w, (callFunc gc args).run P w = .ok (.enter gc args) w) {cf : TP → TP → Int} {lt : TP → TP → Prop} (O : Ord cf lt)
    (w0 : World) (g : Nat) (d0 : Array TP) (R : RowK encT k w0 g 0 d0) (hcmp : CmpLays P gc cb encT k cf g 0 d0.size w0) (dk : Array TP) (hs : dk.size = d0.size) (cap a b : Nat) (hab : a ≤ b) (hb : b ≤ dk.size) (hsz : dk.size ≤ 100000)
    (htag : ∀ p q, a ≤ p → p < q → q < b → dk[p]!.1 < dk[q]!.1) (W : World) (S : SWK encT k w0 g 0 dk W) :
    Calls P 78 #[.slice (some ⟨g, 0, none⟩) dk.size cap, .int .i64 a, .int .i64 b, .func (.func gc) #[] cb] W (Sorted k lt w0 g dk a b) := by
  have mixed := L.mixed; have t3 := L.t3; have a3 := L.a3; have z3 := L.z3; have t4 := L.t4; have a4 := L.a4; have z4 := L.z4; have t22 := L.t22; have a22 := L.a22; have z22 := L.z22; have aE := L.aE; have zE := L.zE
  have u22 := run_underlying L.t22
  have SS : Aside (SWK encT k w0 g 0 dk W) := S
  have RR : Aside (RowK encT k w0 g 0 d0) := R
  have HC : Aside (CmpLays P gc cb encT k cf g 0 d0.size w0) := hcmp
  have HT := hide htag
  have HS := hide hs
  have OO := hide O
  clear S R hcmp htag O hs
  go_enter F78, Try.ntmps78
  go_wp2
  go_loopg [8] (b - a) (fun gh vi wr => ∃ (i : Nat) (di : Array TP), vi = .int .i64 i ∧ a < i ∧ i ≤ b + 1 ∧ b + 1 - i ≤ gh + 1 ∧ Aside (SWK encT k w0 g 0 di wr) ∧ Hid (Mix a (min i b) dk di) ∧ Hid (Srt lt di a (min i b)))
  case atStart => exact ⟨a + 1, dk, by go_num, by omega, by omega, by omega, SS, hide (Mix.refl _ _ _), hide (srt_one _ (by omega))⟩
  case round =>
    obtain ⟨i, di, rfl, hai, hib, hgh, S1, HM, HR⟩ := hrel
    have HDS := hide (unhide HM).size
    by_cases hlt : i < b
    · have hltz : (i : Int) < (b : Int) := by omega
      rw [show min i b = i by omega] at HM HR
      have HTI : Hid (∀ q, a ≤ q → q < i → di[q]!.1 < di[i]!.1) := hide (fun q q1 q2 => by
        obtain ⟨r, r1, r2, e⟩ := (unhide HM).into q q1 q2
        rw [e, (unhide HM).out i (by omega)]
        exact unhide HT r i r1 r2 hlt)
      go_wp2
      go_loopg [9] i (fun g2 vj wr2 => ∃ (j : Nat) (dj : Array TP), vj = .int .i64 j ∧ a ≤ j ∧ j ≤ i ∧ j ≤ g2 ∧ Hid (dj.size = di.size) ∧ Aside (SWK encT k w0 g 0 dj wr2) ∧ Hid (∀ p, dj[p]! = di[rh j i (i + 1) p]!) ∧ Hid (j = i ∨ lt di[i]! di[j]!))
      case atStart => exact ⟨i, di, rfl, by omega, Nat.le_refl _, Nat.le_refl _, hide rfl, S1, hide (fun p => by rw [rh_id (by omega)]), hide (.inl rfl)⟩
      case round =>
        obtain ⟨j, dj, rfl, haj, hji, hg2, HSJ, S3, HP, HJ⟩ := hrel
        have HQ : Hid (dj.size = d0.size) := hide ((unhide HSJ).trans ((unhide HDS).trans (unhide HS)))
        have HLEN : Hid (dj.size = dk.size ∧ di.size = dk.size) := hide ⟨(unhide HSJ).trans (unhide HDS), unhide HDS⟩
        have OUT : Hid (j = a ∨ lt di[j - 1]! di[i]! → Mix a (min (i + 1) b) dk dj ∧ Srt lt dj a (min (i + 1) b)) := hide (fun h1 => by
          rw [show min (i + 1) b = i + 1 by omega]
          exact ⟨((unhide HM).wide (Nat.le_refl _) (by omega)).trans ((Mix.of_rh (unhide HSJ) hji (by omega) (unhide HP)).wide haj (Nat.le_refl _)), ins_last (unhide OO) (unhide HR) haj hji h1 (unhide HJ) (unhide HP)⟩)
        by_cases hja : a < j
        · have hjaz : (a : Int) < (j : Int) := by omega
          obtain ⟨jp, rfl⟩ : ∃ jp, j = jp + 1 := ⟨j - 1, by omega⟩
          have ex : dj[jp + 1]! = di[i]! := by rw [unhide HP, show rh (jp + 1) i (i + 1) (jp + 1) = i by unfold rh; split <;> (try split) <;> omega]
          have ey : dj[jp]! = di[jp]! := by rw [unhide HP, show rh (jp + 1) i (i + 1) jp = jp by unfold rh; split <;> (try split) <;> omega]
          have HLT : Hid (cf di[i]! di[jp]! < 0 → lt di[i]! di[jp]!) := hide (unhide OO).less
          have HGT : Hid (¬ cf di[i]! di[jp]! < 0 → lt di[jp]! di[i]!) := hide (fun h => (unhide OO).more h (unhide HTI jp (by omega) (by omega)))
          have HNX : Hid (∀ p, (swp dj (jp + 1) jp)[p]! = di[rh jp i (i + 1) p]!) := hide (ins_step (by have := (unhide HLEN).2; omega) hji (unhide HSJ) (unhide HP))
          have hwp : IntKind.i64.wrap (jp : Int) = (jp : Int) := by rw [IntKind.wrap_i64]; omega
          have jz : (jp : Int) + 1 < (dk.size : Int) := by omega
          have jz1 : (jp : Int) < (dk.size : Int) := by omega
          have hjaz' : (a : Int) < (jp : Int) + 1 := by omega
          have p0 : (0 : Int) ≤ (jp : Int) + 1 := by omega
          have e0 : ((jp : Int) + 1).toNat = jp + 1 := by omega
          have l1 := fun n' os' => zadd (S3.out.ld RR.out (unhide HQ) P (jp + 1) (by have := (unhide HLEN).1; omega) n' os')
          have l2 := fun n' os' => zadd (S3.out.ld RR.out (unhide HQ) P jp (by have := (unhide HLEN).1; omega) n' os')
          have hcg := fun n' os' => S3.out.cmp HC.out (unhide HQ) dj[jp + 1]! dj[jp]! n' os'
          rw [ex] at l1 hcg
          rw [ey] at l2 hcg
          by_cases hlv : cf di[i]! di[jp]! < 0
          · go_wp2_with fail
            go_quiet_grown (first | (go_at_fn gc; refine Calls.grown_of (hcg _ _)))
            go_wp2_with fail
            have S4 : Aside (SWK encT k w0 g 0 dj (grow (wr.drewN nq) osq)) := S3.out.grown nq osq
            clear l1 l2 hcg S3
            generalize grow (wr.drewN nq) osq = wq at S4 ⊢
            have S5 : Aside (SWK encT k w0 g 0 (swp dj (jp + 1) jp) ((wq.drew.setCells g (0 + (jp + 1) * k) (encT dj[jp]!)).setCells g (0 + jp * k) (encT dj[jp + 1]!))) := S4.out.swapped RR.out (jp + 1) jp (by have := (unhide HLEN).1; omega) (by have := (unhide HLEN).1; omega)
            have m1 := S4.out.ld1 RR.out (unhide HQ) P (jp + 1) (by have := (unhide HLEN).1; omega)
            have m2 := S4.out.ld1 RR.out (unhide HQ) P jp (by have := (unhide HLEN).1; omega)
            have s1 := S4.out.st1 RR.out (unhide HQ) P (jp + 1) (by have := (unhide HLEN).1; omega) dj[jp]!
            have s2 := S4.out.st2 RR.out (unhide HQ) P (jp + 1) jp (by have := (unhide HLEN).1; omega) (by have := (unhide HLEN).1; omega) dj[jp]! dj[jp + 1]!
            have n1 : (encT dj[jp + 1]!).length = k := RR.out.hk _
            have n2 : (encT dj[jp]!).length = k := RR.out.hk _
            rw [Nat.zero_add] at m1 m2 s1
            rw [Nat.zero_add, Nat.zero_add] at s2 S5
            generalize encT dj[jp + 1]! = cI at S5 m1 s2 n1
            generalize encT dj[jp]! = cJ at S5 m2 s1 s2 n2
            clear S4 ex ey
            go_big_region_o
            clear m1 m2 s1 s2
            generalize (wq.drew.setCells g ((jp + 1) * k) cJ).setCells g (jp * k) cI = w2 at S5 ⊢
            all_goals go_wp2
            go_roundg jp
            case measure => omega
            case rel => exact ⟨jp, _, by first | rfl | go_num | (congr 1; omega), by omega, by omega, Nat.le_refl _, hide (by rw [size_swp]; exact unhide HSJ), S5, HNX, hide (.inr (unhide HLT hlv))⟩
          · go_wp2_with fail
            go_quiet_grown (first | (go_at_fn gc; refine Calls.grown_of (hcg _ _)))
            have S4 : Aside (SWK encT k w0 g 0 dj (grow (wr.drewN nq) osq)) := S3.out.grown nq osq
            clear l1 l2 hcg S3 ex ey
            go_wp2
            go_roundg (b - (i + 1))
            case measure => omega
            case rel =>
              have ho := unhide OUT (.inr (unhide HGT hlv))
              exact ⟨i + 1, dj, by go_num, by omega, by omega, by omega, S4, hide ho.1, hide ho.2⟩
        · have hjaz : decide ((j : Int) > (a : Int)) = false := decide_eq_false (by omega)
          have hjaz' : ¬ (a : Int) < (j : Int) := by omega
          have S4 : Aside (SWK encT k w0 g 0 dj wr.drew) := S3.out.drew
          go_wp2_with fail
          go_big_region_o
          all_goals go_wp2
          go_roundg (b - (i + 1))
          case measure => omega
          case rel =>
            have ho := unhide OUT (.inl (by omega))
            exact ⟨i + 1, dj, by go_num, by omega, by omega, by omega, S4, hide ho.1, hide ho.2⟩
    · have hltz : ¬ (i : Int) < (b : Int) := by omega
      rw [show min i b = b by omega] at HM HR
      go_wp2
      go_end0
      exact ⟨rfl, di, S1.out, unhide HM, unhide HR⟩
end Go.Proofs.Ytbghekolfcakeaa

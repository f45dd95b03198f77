/-
  What the leaves answer: why a dot may not be, and which peer a list begins with; a slice of dots in memory.
-/
import Derived.Test.YtklkacmeopfmhaaGreatRows
import Derived.Test.YtklkacmeopfmhaaGreatMath
import Derived.WalkKit
import Derived.WalkSpells
import Derived.WalkLawsBesides
import Derived.BigQuiet
import Derived.Outline
namespace Go.Proofs.YtklkacmeopfmhaaGreat
open Go.RowKit

theorem hide {p : Prop} (h : p) : Hid p := h
theorem unhide {p : Prop} (h : Hid p) : p := h
theorem ret_int {a b : Int} (h : a = b) : Ending.returned (.int .i64 a) = .returned (.int .i64 b) := by rw [h]
theorem ret_bool {a b : Bool} (h : a = b) : Ending.returned (.bool a) = .returned (.bool b) := by rw [h]
theorem below_grow {B : Nat} {a b c : World} (h : Below B a b) (hB : B ≤ a.heap.size) (h2 : Below b.heap.size b c) : Below B a c :=
  h.trans (h2.mono (Nat.le_trans hB h.size))

/-- A dot as a value. -/
def dotV (d : Vc.D) : Value := .agg #[.int .i64 d.1, .int .i64 d.2]

/-- A slice of dots, wherever it lies; nothing is asked of one that has none. -/
def Sl (W : World) (a : Option Addr) (ds : List Vc.D) : Prop :=
  0 < ds.length → ∃ g o, a = some ⟨g, o, none⟩ ∧ g < W.heap.size ∧ ∀ (j : Nat) (d : Vc.D), ds[j]? = some d → W.cell? ⟨g, o + j * 2, none⟩ = some (.int .i64 d.1) ∧ W.cell? ⟨g, o + j * 2 + 1, none⟩ = some (.int .i64 d.2)

theorem Sl.below {W W' : World} {n : Nat} {a : Option Addr} {ds : List Vc.D} (h : Sl W a ds) (hb : Below n W W') (hn : ∀ g o, a = some ⟨g, o, none⟩ → g < n) : Sl W' a ds := fun h0 => by
  obtain ⟨g, o, e, hg, hc⟩ := h h0
  refine ⟨g, o, e, Nat.lt_of_lt_of_le hg hb.size, fun j d hj => ?_⟩
  rw [hb.cell (p := ⟨g, o + j * 2, none⟩) (hn g o e), hb.cell (p := ⟨g, o + j * 2 + 1, none⟩) (hn g o e)]
  exact hc j d hj
theorem Sl.after {W W' : World} {a : Option Addr} {ds : List Vc.D} (h : Sl W a ds) (hb : Below W.heap.size W W') : Sl W' a ds := fun h0 => by
  obtain ⟨g, o, e, hg, hc⟩ := h h0
  refine ⟨g, o, e, Nat.lt_of_lt_of_le hg hb.size, fun j d hj => ?_⟩
  rw [hb.cell (p := ⟨g, o + j * 2, none⟩) hg, hb.cell (p := ⟨g, o + j * 2 + 1, none⟩) hg]
  exact hc j d hj
theorem Sl.drewN {W : World} {a : Option Addr} {ds : List Vc.D} (h : Sl W a ds) (n : Nat) : Sl (W.drewN n) a ds := h
theorem Sl.none (W : World) (a : Option Addr) : Sl W a [] := fun h => absurd h (Nat.lt_irrefl _)

set_option maxRecDepth 100000 in
set_option maxHeartbeats 400000 in
theorem dot_any (p c : Int) (w : World) :
    Calls Tryz.prog 77 #[.agg #[.int .i64 p, .int .i64 c]] w fun e w' => e = .returned (.int .i64 (Vc.dotErr (p, c))) ∧ Below w.heap.size w w' := by
  unfold Vc.dotErr
  go_enter Tryz.func77, Tryz.ntmps77
  go_wp2
  all_goals go_ret
  all_goals refine ⟨ret_int ?_, (Below.refl _ _).alloc (Nat.le_refl _) _⟩
  all_goals (first | omega | (split <;> omega))

set_option maxRecDepth 100000 in
set_option maxHeartbeats 400000 in
theorem refDot_any (p c : Int) (w : World) :
    Calls Tryz.prog 85 #[.agg #[.int .i64 p, .int .i64 c]] w fun e w' => e = .returned (.int .i64 (Vc.dotErr (p, c))) ∧ Below w.heap.size w w' := by
  unfold Vc.dotErr
  go_enter Tryz.func85, Tryz.ntmps85
  go_wp2
  all_goals go_ret
  all_goals refine ⟨ret_int ?_, (Below.refl _ _).alloc (Nat.le_refl _) _⟩
  all_goals (first | omega | (split <;> omega))

set_option maxRecDepth 100000 in
set_option maxHeartbeats 400000 in
theorem first_any (a : Option Addr) (cap : Nat) (ds : List Vc.D) (hb : ds.length ≤ 9223372036854775807) (w : World) (h : Sl w a ds) :
    Calls Tryz.prog 104 #[.slice a ds.length cap] w fun e w' => e = .returned (.int .i64 (Vc.first ds)) ∧ w' = w := by
  cases ds with
  | nil =>
    go_enter Tryz.func104, Tryz.ntmps104
    go_wp2
    go_ret
    exact ⟨rfl, rfl⟩
  | cons d l =>
    obtain ⟨g, o, rfl, hg, hc⟩ := h (by simp)
    have c0 : w.cell? ⟨g, o, none⟩ = some (.int .i64 d.1) := (hc 0 d rfl).1
    have HF := hide (show Vc.first (d :: l) = d.1 from rfl)
    obtain ⟨F, hF⟩ : ∃ F, Vc.first (d :: l) = F := ⟨_, rfl⟩
    obtain ⟨n, hn⟩ : ∃ n, (d :: l).length = n := ⟨_, rfl⟩
    have h0 : 0 < n := by rw [← hn]; simp
    rw [hn] at hb ⊢
    rw [hF] at HF ⊢
    have e : F = d.1 := unhide HF
    subst e
    clear h hc HF hF hn
    go_enter Tryz.func104, Tryz.ntmps104
    go_wp2
    go_ret
    exact ⟨rfl, rfl⟩
end Go.Proofs.YtklkacmeopfmhaaGreat

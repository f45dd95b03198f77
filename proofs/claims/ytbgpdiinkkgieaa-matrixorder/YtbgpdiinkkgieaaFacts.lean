/-
  Facts in memory, and whether there are too many of them.
-/
import Derived.Test.YtbgpdiinkkgieaaRefG
namespace Go.Proofs.Ytbgpdiinkkgieaa
open Go.RowKit

/-- A fact: that a peer has a vector for good, or that rows are merged. -/
structure Fc where
  peer : Int
  v : List Vc.D
  all : Bool
  rows : List (List Vc.D)
def FAt (W : World) (g o : Nat) (f : Fc) : Prop :=
  ∃ r c q d, W.cell? ⟨g, o, none⟩ = some (.int .i64 f.peer) ∧ W.cell? ⟨g, o + 1, none⟩ = some (.slice r f.v.length c) ∧ W.cell? ⟨g, o + 2, none⟩ = some (.bool f.all) ∧ W.cell? ⟨g, o + 3, none⟩ = some (.slice q f.rows.length d) ∧ f.v.length ≤ c ∧ f.rows.length ≤ d ∧ Sl W r f.v ∧ RL W q f.rows
theorem FAt.after {W W' : World} {g o : Nat} {f : Fc} (h : FAt W g o f) (hg : g < W.heap.size) (hb : Below W.heap.size W W') : FAt W' g o f := by
  obtain ⟨r, c, q, d, h0, h1, h2, h3, h4, h5, h6, h7⟩ := h
  refine ⟨r, c, q, d, ?_, ?_, ?_, ?_, h4, h5, h6.after hb, h7.after hb⟩
  all_goals rw [hb.cell (by exact hg)]
  all_goals assumption
def FL (W : World) (a : Option Addr) (fs : List Fc) : Prop :=
  0 < fs.length → ∃ g o, a = some ⟨g, o, none⟩ ∧ g < W.heap.size ∧ ∀ (j : Nat) (f : Fc), fs[j]? = some f → FAt W g (o + j * 4) f
theorem FL.after {W W' : World} {a : Option Addr} {fs : List Fc} (h : FL W a fs) (hb : Below W.heap.size W W') : FL W' a fs := fun h0 => by
  obtain ⟨g, o, e, hg, hc⟩ := h h0
  exact ⟨g, o, e, Nat.lt_of_lt_of_le hg hb.size, fun j v hj => (hc j v hj).after hg hb⟩
/-- A fact that is not too much. -/
def SmallF (f : Fc) : Prop := f.v.length ≤ 70 ∧ f.rows.length ≤ 70 ∧ ∀ ds ∈ f.rows, ds.length ≤ 70
def SmallFs (fs : List Fc) : Prop := fs.length ≤ 40 ∧ ∀ f ∈ fs, SmallF f
def GreatF (fs : List Fc) (w : World) (e : Ending) (w' : World) : Prop := ∃ B : Bool, e = .returned (.bool B) ∧ w' = w ∧ (B = false → SmallFs fs)
theorem all_snoc {α : Type} {Q : α → Prop} {l : List α} {k : Nat} {x : α} (h : l[k]? = some x) (hall : ∀ y ∈ l.take k, Q y) (hx : Q x) : ∀ y ∈ l.take (k + 1), Q y := fun y hy => by
  rw [take_snocA h] at hy
  rcases List.mem_append.1 hy with hy | hy
  · exact hall y hy
  · rw [List.mem_singleton.1 hy]; exact hx

set_option maxRecDepth 100000 in
set_option maxHeartbeats 1000000 in
theorem great_any (a : Option Addr) (cap : Nat) (fs : List Fc) (w : World) (h : FL w a fs) :
    Calls Try.prog 6 #[.slice a fs.length cap] w (GreatF fs w) := by
  have HS := hide h
  clear h
  obtain ⟨n, hn⟩ : ∃ n, fs.length = n := ⟨_, rfl⟩
  have HN := hide hn
  rw [hn]
  clear hn
  by_cases h40 : 40 < n
  · have hd : decide ((40 : Int) < (n : Int)) = true := decide_eq_true (by omega)
    go_enter Try.func6, Try.ntmps6
    go_wp2_with fail
    go_ret
    exact ⟨true, rfl, rfl, fun h => by cases h⟩
  · have hd : decide ((40 : Int) < (n : Int)) = false := decide_eq_false (by omega)
    go_enter Try.func6, Try.ntmps6
    go_wp2_with fail
    go_loopw [3] (fun i wr => ∃ k : Nat, k ≤ n ∧ i = .int .i64 k ∧ Hid (∀ f ∈ fs.take k, SmallF f) ∧ wr = w) (fun i _ => n - (intOf i).toNat)
    case atStart => exact ⟨0, Nat.zero_le _, rfl, hide (fun f hf => by simp at hf), rfl⟩
    case round =>
      obtain ⟨k, hk, rfl, HALL, rfl⟩ := hrel
      by_cases hlt : k < n
      · obtain ⟨f, hf⟩ : ∃ f, fs[k]? = some f := ⟨_, List.getElem?_eq_getElem (by have := unhide HN; omega)⟩
        obtain ⟨g, o, rfl, hg, hcell⟩ := unhide HS (by have := unhide HN; omega)
        obtain ⟨r, c, q, d, x0, x1, x2, x3, h4, h5, h6, h7⟩ := hcell k f hf
        have HFK := hide hf
        have H7 := hide h7
        have hkz : decide ((k : Int) < (n : Int)) = true := decide_eq_true (by omega)
        clear hcell hf hg h4 h5 h6 h7 x0 x2
        by_cases hv : 70 < f.v.length
        · have hdv : decide ((70 : Int) < (f.v.length : Int)) = true := decide_eq_true (by omega)
          go_wp2_with fail
          go_ret
          exact ⟨true, rfl, rfl, fun h => by cases h⟩
        · have hdv : decide ((70 : Int) < (f.v.length : Int)) = false := decide_eq_false (by omega)
          by_cases hr : 70 < f.rows.length
          · have hdr : decide ((70 : Int) < (f.rows.length : Int)) = true := decide_eq_true (by omega)
            go_wp2_with fail
            go_ret
            exact ⟨true, rfl, rfl, fun h => by cases h⟩
          · have hdr : decide ((70 : Int) < (f.rows.length : Int)) = false := decide_eq_false (by omega)
            have hr70 : f.rows.length ≤ 70 := by omega
            go_wp2_with fail
            go_loopw [4] (fun i wv => ∃ m : Nat, m ≤ f.rows.length ∧ i = .int .i64 m ∧ Hid (∀ ds ∈ f.rows.take m, ds.length ≤ 70) ∧ wv = wr) (fun i _ => f.rows.length - (intOf i).toNat)
            case atStart => exact ⟨0, Nat.zero_le _, rfl, hide (fun f hf => by simp at hf), rfl⟩
            case round =>
              obtain ⟨m, hm, rfl, HROW, hwv⟩ := hrel
              subst hwv
              by_cases hml : m < f.rows.length
              · obtain ⟨ds, hds⟩ : ∃ d, f.rows[m]? = some d := ⟨_, List.getElem?_eq_getElem hml⟩
                obtain ⟨g2, o2, rfl, hg2, hcell2⟩ := unhide H7 (by omega)
                obtain ⟨r2, c2, y0, y5, y6⟩ := hcell2 m ds hds
                by_cases h70 : 70 < ds.length
                · have hd7 : decide ((70 : Int) < (ds.length : Int)) = true := decide_eq_true (by omega)
                  clear hcell2 hds hg2 y5 y6
                  go_wp2_with fail
                  go_ret
                  exact ⟨true, rfl, rfl, fun h => by cases h⟩
                · have hd7 : decide ((70 : Int) < (ds.length : Int)) = false := decide_eq_false (by omega)
                  have HROW2 := hide (all_snoc (Q := fun ds => ds.length ≤ 70) hds (unhide HROW) (by omega))
                  clear hcell2 hds hg2 y5 y6
                  go_wp2_with fail
                  go_roundw
                  case rel => exact ⟨m + 1, by omega, by go_num, HROW2, by first | rfl | trivial⟩
                  case measure => simp [intOf]; omega
              · obtain rfl : m = f.rows.length := by omega
                have HALL2 := hide (all_snoc (Q := SmallF) (unhide HFK) (unhide HALL) ⟨by omega, by omega, fun ds hds => unhide HROW ds (by rw [List.take_length]; exact hds)⟩)
                go_wp2_with fail
                go_roundw
                case rel => exact ⟨k + 1, by omega, by go_num, HALL2, by first | rfl | trivial⟩
                case measure => simp [intOf]; omega
      · obtain rfl : k = n := by omega
        go_wp2_with fail
        go_ret
        exact ⟨false, rfl, rfl, fun _ => ⟨by have := unhide HN; omega, fun f hf => unhide HALL f (by rw [← unhide HN, List.take_length]; exact hf)⟩⟩
end Go.Proofs.Ytbgpdiinkkgieaa

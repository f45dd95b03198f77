/-
  Whether two trees are the same: the document's. Conditions: those that each theorem names.
-/
import Derived.Test.YtpfighkafmammaaB05
import Derived.Test.YtpfighkafmammaaB04
import Derived.Test.YtpfighkafmammaaD01
import Derived.Deep.RegionHeld3
import Derived.Test.YtpfighkafmammaaB01
import Derived.ProofKit
import Derived.OpenShut
import Derived.Deep.SlicePairs
import Derived.Lib.SmallJoins
import Derived.ChangeMaps5
import Derived.Test.YtpfighkafmammaaC02
import Derived.Lib.SlicesCompact
namespace Go.Proofs.Ytpfighkafmammaa
open Go.RowKit

theorem takeE_next {l m : List En} {k : Nat} {x y : En} (h : l.take k = m.take k) (hx : l[k]? = some x) (hy : m[k]? = some y) (e : x = y) : l.take (k + 1) = m.take (k + 1) := by
  rw [List.take_add_one, List.take_add_one, hx, hy, h, e]
theorem takeE_ne {l m : List En} {k : Nat} {x y : En} (hx : l[k]? = some x) (hy : m[k]? = some y) (e : x ≠ y) : l ≠ m := by
  rintro rfl
  rw [hx] at hy
  injection hy with hy
  exact e hy
theorem keepF {W0 w w' : World} {g i j g' i' j' : Nat} {x y x' y' : Value} (hg : g < W0.heap.size) (hg' : g' < W0.heap.size) (h : w.cell? ⟨g, i, none⟩ = some x ∧ w.cell? ⟨g, j, none⟩ = some y ∧ w.cell? ⟨g', i', none⟩ = some x' ∧ w.cell? ⟨g', j', none⟩ = some y' ∧ Below W0.heap.size W0 w) (hb : Below w.heap.size w w') :
    w'.cell? ⟨g, i, none⟩ = some x ∧ w'.cell? ⟨g, j, none⟩ = some y ∧ w'.cell? ⟨g', i', none⟩ = some x' ∧ w'.cell? ⟨g', j', none⟩ = some y' ∧ Below W0.heap.size W0 w' :=
  have hlt : g < w.heap.size := Nat.lt_of_lt_of_le hg h.2.2.2.2.size
  have hlt' : g' < w.heap.size := Nat.lt_of_lt_of_le hg' h.2.2.2.2.size
  ⟨(hb.cell (p := ⟨g, i, none⟩) hlt).trans h.1, (hb.cell (p := ⟨g, j, none⟩) hlt).trans h.2.1, (hb.cell (p := ⟨g', i', none⟩) hlt').trans h.2.2.1, (hb.cell (p := ⟨g', j', none⟩) hlt').trans h.2.2.2.1, below_grow h.2.2.2.2 (Nat.le_refl _) hb⟩
theorem drewF {W0 : World} {g i j g' i' j' : Nat} {x y x' y' : Value} (h0 : W0.cell? ⟨g, i, none⟩ = some x) (h1 : W0.cell? ⟨g, j, none⟩ = some y) (h2 : W0.cell? ⟨g', i', none⟩ = some x') (h3 : W0.cell? ⟨g', j', none⟩ = some y') :
    W0.drew.cell? ⟨g, i, none⟩ = some x ∧ W0.drew.cell? ⟨g, j, none⟩ = some y ∧ W0.drew.cell? ⟨g', i', none⟩ = some x' ∧ W0.drew.cell? ⟨g', j', none⟩ = some y' ∧ Below W0.heap.size W0 W0.drew := ⟨h0, h1, h2, h3, below_drew (Below.refl _ _)⟩
set_option maxRecDepth 100000 in
set_option maxHeartbeats 4000000 in
theorem refSameT_any (a b : Option Addr) (ca cb : Nat) (t u : List En) (hf : Eok t) (hg : Eok u) (w : World) (ha : EL w a t) (hb : EL w b u) (D : Bool) (hD : D = true ↔ t = u) :
    Calls Try.prog 11 #[.slice a t.length ca, .slice b u.length cb] w fun e w' => e = .returned (.bool D) ∧ Below w.heap.size w w' := by
  have HA := hide ha
  have HB := hide hb
  have HF := hide hf
  have HG := hide hg
  have HD := hide hD
  have hl := hf.len
  have hl2 := hg.len
  clear ha hb hf hg hD
  by_cases hlen : t.length = u.length
  · have hbe : ((t.length : Int) != (u.length : Int)) = false := by simp [hlen]
    have HLEN := hide hlen
    clear hlen
    go_enter Try.func11, Try.ntmps11
    go_wp2_with fail
    go_loopw [5] (fun i wr => ∃ k : Nat, k ≤ t.length ∧ i = .int .i64 k ∧ t.take k = u.take k ∧ Below w.heap.size w wr) (fun i _ => t.length - (intOf i).toNat)
    case atStart => exact ⟨0, Nat.zero_le _, rfl, rfl, Below.refl _ _⟩
    case round =>
      obtain ⟨k, hk, rfl, heq, hb⟩ := hrel
      have HEQ := hide heq
      have HBr := hide hb
      have S := (unhide HA).after hb
      have T := (unhide HB).after hb
      clear heq hb
      by_cases hlt : k < t.length
      · have hlt2 : k < u.length := by have := unhide HLEN; omega
        obtain ⟨x, hx⟩ : ∃ d, t[k]? = some d := ⟨_, List.getElem?_eq_getElem hlt⟩
        obtain ⟨y, hy⟩ : ∃ d, u[k]? = some d := ⟨_, List.getElem?_eq_getElem hlt2⟩
        obtain ⟨g, o, rfl, hg, hcell⟩ := S (by omega)
        obtain ⟨g', o', rfl, hg', hcell'⟩ := T (by omega)
        obtain ⟨q, d, h0, h1, h5, h6⟩ := hcell k x hx
        obtain ⟨q', d', h0', h1', h5', h6'⟩ := hcell' k y hy
        have HGa := hide hg
        have HGb := hide hg'
        have H6 := hide h6
        have H6' := hide h6'
        have hst := same_text x.1 y.1
        obtain ⟨V, hV⟩ := bool_of (x.2 = y.2)
        have K := hide fun W h h' => refSameVs_any q q' d d' x.2 y.2 ((unhide HF).few x (List.mem_of_getElem? hx)) ((unhide HG).few y (List.mem_of_getElem? hy)) W h h' V hV
        by_cases hxy : x.1 = y.1
        · rw [decide_eq_true hxy] at hst
          have HEQ2 : Hid (V = true → t.take (k + 1) = u.take (k + 1)) := hide (fun h => takeE_next (unhide HEQ) hx hy (Prod.ext hxy (hV.1 h)))
          have HNE : Hid (V = false → t ≠ u) := hide (fun h => takeE_ne hx hy fun e => by have := hV.2 (congrArg Prod.snd e); rw [h] at this; cases this)
          clear hcell hcell' hx hy h5 h6 h5' h6' hxy hV hg hg'
          go_wp2_with fail
          go_region_held3 (fun w' => w'.cell? ⟨g, o + k * 2, none⟩ = some (.string x.1) ∧ w'.cell? ⟨g, o + k * 2 + 1, none⟩ = some (.slice q x.2.length d) ∧ w'.cell? ⟨g', o' + k * 2, none⟩ = some (.string y.1) ∧ w'.cell? ⟨g', o' + k * 2 + 1, none⟩ = some (.slice q' y.2.length d') ∧ Below wr.heap.size wr w')
            (first | exact keepF (unhide HGa) (unhide HGb) (by assumption) (by assumption) | exact drewF h0 h1 h0' h1')
            (first
              | (go_at_call 28; refine (unhide K _ ((unhide H6).after (And.right (And.right (And.right (And.right (by assumption)))))) ((unhide H6').after (And.right (And.right (And.right (And.right (by assumption))))))).mono ?_; rintro e w4 ⟨rfl, hb4⟩))
          rename_i hHeld
          have HB4 := hide (below_grow (unhide HBr) (Nat.le_refl _) hHeld.2.2.2.2)
          clear hHeld h0 h1 h0' h1'
          cases V with
          | true =>
            go_wp2_with fail
            go_roundw
            case rel => exact ⟨k + 1, by omega, by go_num, unhide HEQ2 rfl, unhide HB4⟩
            case measure => simp [intOf]; omega
          | false =>
            obtain rfl : D = false := by
              cases D with
              | false => rfl
              | true => exact absurd ((unhide HD).1 rfl) (unhide HNE rfl)
            go_wp2_with fail
            go_ret
            exact ⟨rfl, unhide HB4⟩
        · rw [decide_eq_false hxy] at hst
          obtain rfl : D = false := by
            cases D with
            | false => rfl
            | true => exact absurd ((unhide HD).1 rfl) (takeE_ne hx hy fun e => hxy (congrArg Prod.fst e))
          clear hcell hcell' hx hy h5 h6 h5' h6' hxy hV hg hg'
          go_wp2_with fail
          refine wp_region_held_drew (S := fun W => W.cell? ⟨g, o + k * 2, none⟩ = some (.string x.1) ∧ W.cell? ⟨g', o' + k * 2, none⟩ = some (.string y.1)) (by kernel_rfl) ⟨h0, h0'⟩ (fun hS => ?_)
          refine wpAnyH_take (i := 0) (oi := { dst := some 17, op := Go.Op.move (Go.Operand.tmp 0), type := 22, pos := "ref.go:123", after := #[], guard := none }) (v := .slice (some ⟨g, o, none⟩) t.length ca) rfl (by kernel_rfl) (by kernel_rfl) (by kernel_rfl) (fun _ _ _ h => h) (Or.inl ⟨by rfl, ?_⟩) hS ?_
          · intro W hW; obtain ⟨hW1, hW2⟩ := hW; first | (go_simp; done) | (go_simp; with_reducible rfl)
          simp only [Act.put, List.setIfInBounds_toArray, List.set_cons_zero, List.set_cons_succ]
          refine wpAnyH_take (i := 1) (oi := { dst := some 18, op := Go.Op.move (Go.Operand.tmp 5), type := 3, pos := "ref.go:123", after := #[], guard := none }) (v := .int .i64 k) rfl (by kernel_rfl) (by kernel_rfl) (by kernel_rfl) (fun _ _ _ h => h) (Or.inl ⟨by rfl, ?_⟩) hS ?_
          · intro W hW; obtain ⟨hW1, hW2⟩ := hW; first | (go_simp; done) | (go_simp; with_reducible rfl)
          simp only [Act.put, List.setIfInBounds_toArray, List.set_cons_zero, List.set_cons_succ]
          refine wpAnyH_take (i := 2) (oi := { dst := some 19, op := Go.Op.indexAddr 22 (Go.Operand.tmp 17) (Go.Operand.tmp 18), type := 0, pos := "ref.go:123", after := #[{ on := 0, ground := Go.Ground.data }, { on := 1, ground := Go.Ground.data }], guard := none }) (v := .pointer (some ⟨g, o + k * 2, none⟩)) rfl (by kernel_rfl) (by kernel_rfl) (by kernel_rfl) (fun _ _ _ h => h) (Or.inl ⟨by rfl, ?_⟩) hS ?_
          · intro W hW; obtain ⟨hW1, hW2⟩ := hW; first | (go_simp; done) | (go_simp; with_reducible rfl)
          simp only [Act.put, List.setIfInBounds_toArray, List.set_cons_zero, List.set_cons_succ]
          refine wpAnyH_take (i := 3) (oi := { dst := some 20, op := Go.Op.fieldAddr 44 (Go.Operand.tmp 19) 0, type := 0, pos := "ref.go:123", after := #[{ on := 2, ground := Go.Ground.data }], guard := none }) (v := .pointer (some ⟨g, o + k * 2, none⟩)) rfl (by kernel_rfl) (by kernel_rfl) (by kernel_rfl) (fun _ _ _ h => h) (Or.inl ⟨by rfl, ?_⟩) hS ?_
          · intro W hW; obtain ⟨hW1, hW2⟩ := hW; first | (go_simp; done) | (go_simp; with_reducible rfl)
          simp only [Act.put, List.setIfInBounds_toArray, List.set_cons_zero, List.set_cons_succ]
          refine wpAnyH_take (i := 4) (oi := { dst := some 21, op := Go.Op.load 9 (Go.Operand.tmp 20), type := 9, pos := "ref.go:123", after := #[{ on := 3, ground := Go.Ground.data }], guard := none }) (v := .string x.1) rfl (by kernel_rfl) (by kernel_rfl) (by kernel_rfl) (fun _ _ _ h => h) (Or.inl ⟨by rfl, ?_⟩) hS ?_
          · intro W hW; obtain ⟨hW1, hW2⟩ := hW; first | (go_simp; done) | (go_simp; with_reducible rfl)
          simp only [Act.put, List.setIfInBounds_toArray, List.set_cons_zero, List.set_cons_succ]
          refine wpAnyH_take (i := 5) (oi := { dst := some 22, op := Go.Op.move (Go.Operand.tmp 1), type := 22, pos := "ref.go:123", after := #[], guard := none }) (v := .slice (some ⟨g', o', none⟩) u.length cb) rfl (by kernel_rfl) (by kernel_rfl) (by kernel_rfl) (fun _ _ _ h => h) (Or.inl ⟨by rfl, ?_⟩) hS ?_
          · intro W hW; obtain ⟨hW1, hW2⟩ := hW; first | (go_simp; done) | (go_simp; with_reducible rfl)
          simp only [Act.put, List.setIfInBounds_toArray, List.set_cons_zero, List.set_cons_succ]
          refine wpAnyH_take (i := 6) (oi := { dst := some 23, op := Go.Op.move (Go.Operand.tmp 5), type := 3, pos := "ref.go:123", after := #[], guard := none }) (v := .int .i64 k) rfl (by kernel_rfl) (by kernel_rfl) (by kernel_rfl) (fun _ _ _ h => h) (Or.inl ⟨by rfl, ?_⟩) hS ?_
          · intro W hW; obtain ⟨hW1, hW2⟩ := hW; first | (go_simp; done) | (go_simp; with_reducible rfl)
          simp only [Act.put, List.setIfInBounds_toArray, List.set_cons_zero, List.set_cons_succ]
          refine wpAnyH_take (i := 7) (oi := { dst := some 24, op := Go.Op.indexAddr 22 (Go.Operand.tmp 22) (Go.Operand.tmp 23), type := 0, pos := "ref.go:123", after := #[{ on := 5, ground := Go.Ground.data }, { on := 6, ground := Go.Ground.data }], guard := none }) (v := .pointer (some ⟨g', o' + k * 2, none⟩)) rfl (by kernel_rfl) (by kernel_rfl) (by kernel_rfl) (fun _ _ _ h => h) (Or.inl ⟨by rfl, ?_⟩) hS ?_
          · intro W hW; obtain ⟨hW1, hW2⟩ := hW; first | (go_simp; done) | (go_simp; with_reducible rfl)
          simp only [Act.put, List.setIfInBounds_toArray, List.set_cons_zero, List.set_cons_succ]
          refine wpAnyH_take (i := 8) (oi := { dst := some 25, op := Go.Op.fieldAddr 44 (Go.Operand.tmp 24) 0, type := 0, pos := "ref.go:123", after := #[{ on := 7, ground := Go.Ground.data }], guard := none }) (v := .pointer (some ⟨g', o' + k * 2, none⟩)) rfl (by kernel_rfl) (by kernel_rfl) (by kernel_rfl) (fun _ _ _ h => h) (Or.inl ⟨by rfl, ?_⟩) hS ?_
          · intro W hW; obtain ⟨hW1, hW2⟩ := hW; first | (go_simp; done) | (go_simp; with_reducible rfl)
          simp only [Act.put, List.setIfInBounds_toArray, List.set_cons_zero, List.set_cons_succ]
          refine wpAnyH_take (i := 9) (oi := { dst := some 26, op := Go.Op.load 9 (Go.Operand.tmp 25), type := 9, pos := "ref.go:123", after := #[{ on := 8, ground := Go.Ground.data }], guard := none }) (v := .string y.1) rfl (by kernel_rfl) (by kernel_rfl) (by kernel_rfl) (fun _ _ _ h => h) (Or.inl ⟨by rfl, ?_⟩) hS ?_
          · intro W hW; obtain ⟨hW1, hW2⟩ := hW; first | (go_simp; done) | (go_simp; with_reducible rfl)
          simp only [Act.put, List.setIfInBounds_toArray, List.set_cons_zero, List.set_cons_succ]
          refine wpAnyH_take (i := 10) (oi := { dst := some 27, op := Go.Op.binOp Go.BinOp.neq 9 (Go.Operand.tmp 21) (Go.Operand.tmp 26) 9, type := 4, pos := "ref.go:123", after := #[{ on := 4, ground := Go.Ground.data }, { on := 9, ground := Go.Ground.data }], guard := none }) (v := .bool true) rfl (by kernel_rfl) (by kernel_rfl) (by kernel_rfl) (fun _ _ _ h => h) (Or.inl ⟨by rfl, ?_⟩) hS ?_
          · intro W hW; obtain ⟨hW1, hW2⟩ := hW; first | (go_simp; done) | (go_simp; with_reducible rfl)
          simp only [Act.put, List.setIfInBounds_toArray, List.set_cons_zero, List.set_cons_succ]
          refine wpAnyH_take (i := 11) (oi := { dst := some 28, op := Go.Op.move (Go.Operand.tmp 27), type := 4, pos := "ref.go:123", after := #[{ on := 10, ground := Go.Ground.data }], guard := none }) (v := .bool true) rfl (by kernel_rfl) (by kernel_rfl) (by kernel_rfl) (fun _ _ _ h => h) (Or.inl ⟨by rfl, ?_⟩) hS ?_
          · intro W hW; obtain ⟨hW1, hW2⟩ := hW; first | (go_simp; done) | (go_simp; with_reducible rfl)
          simp only [Act.put, List.setIfInBounds_toArray, List.set_cons_zero, List.set_cons_succ]
          refine wpAnyH_take (i := 12) (oi := { dst := some 29, op := Go.Op.move (Go.Operand.tmp 0), type := 22, pos := "ref.go:123", after := #[{ on := 11, ground := Go.Ground.guard }], guard := some (11, false) }) (v := undef) rfl (by kernel_rfl) (by kernel_rfl) (by kernel_rfl) (fun _ _ _ h => h) (Or.inr ⟨by rfl, rfl⟩) hS ?_
          simp only [Act.put, List.setIfInBounds_toArray, List.set_cons_zero, List.set_cons_succ]
          refine wpAnyH_take (i := 13) (oi := { dst := some 30, op := Go.Op.move (Go.Operand.tmp 5), type := 3, pos := "ref.go:123", after := #[{ on := 11, ground := Go.Ground.guard }], guard := some (11, false) }) (v := undef) rfl (by kernel_rfl) (by kernel_rfl) (by kernel_rfl) (fun _ _ _ h => h) (Or.inr ⟨by rfl, rfl⟩) hS ?_
          simp only [Act.put, List.setIfInBounds_toArray, List.set_cons_zero, List.set_cons_succ]
          refine wpAnyH_take (i := 14) (oi := { dst := some 31, op := Go.Op.indexAddr 22 (Go.Operand.tmp 29) (Go.Operand.tmp 30), type := 0, pos := "ref.go:123", after := #[{ on := 12, ground := Go.Ground.data }, { on := 13, ground := Go.Ground.data }, { on := 11, ground := Go.Ground.guard }], guard := some (11, false) }) (v := undef) rfl (by kernel_rfl) (by kernel_rfl) (by kernel_rfl) (fun _ _ _ h => h) (Or.inr ⟨by rfl, rfl⟩) hS ?_
          simp only [Act.put, List.setIfInBounds_toArray, List.set_cons_zero, List.set_cons_succ]
          refine wpAnyH_take (i := 15) (oi := { dst := some 32, op := Go.Op.fieldAddr 44 (Go.Operand.tmp 31) 1, type := 0, pos := "ref.go:123", after := #[{ on := 14, ground := Go.Ground.data }, { on := 11, ground := Go.Ground.guard }], guard := some (11, false) }) (v := undef) rfl (by kernel_rfl) (by kernel_rfl) (by kernel_rfl) (fun _ _ _ h => h) (Or.inr ⟨by rfl, rfl⟩) hS ?_
          simp only [Act.put, List.setIfInBounds_toArray, List.set_cons_zero, List.set_cons_succ]
          refine wpAnyH_take (i := 16) (oi := { dst := some 33, op := Go.Op.load 42 (Go.Operand.tmp 32), type := 42, pos := "ref.go:123", after := #[{ on := 15, ground := Go.Ground.data }, { on := 11, ground := Go.Ground.guard }], guard := some (11, false) }) (v := undef) rfl (by kernel_rfl) (by kernel_rfl) (by kernel_rfl) (fun _ _ _ h => h) (Or.inr ⟨by rfl, rfl⟩) hS ?_
          simp only [Act.put, List.setIfInBounds_toArray, List.set_cons_zero, List.set_cons_succ]
          refine wpAnyH_take (i := 17) (oi := { dst := some 34, op := Go.Op.move (Go.Operand.tmp 1), type := 22, pos := "ref.go:123", after := #[{ on := 11, ground := Go.Ground.guard }], guard := some (11, false) }) (v := undef) rfl (by kernel_rfl) (by kernel_rfl) (by kernel_rfl) (fun _ _ _ h => h) (Or.inr ⟨by rfl, rfl⟩) hS ?_
          simp only [Act.put, List.setIfInBounds_toArray, List.set_cons_zero, List.set_cons_succ]
          refine wpAnyH_take (i := 18) (oi := { dst := some 35, op := Go.Op.move (Go.Operand.tmp 5), type := 3, pos := "ref.go:123", after := #[{ on := 11, ground := Go.Ground.guard }], guard := some (11, false) }) (v := undef) rfl (by kernel_rfl) (by kernel_rfl) (by kernel_rfl) (fun _ _ _ h => h) (Or.inr ⟨by rfl, rfl⟩) hS ?_
          simp only [Act.put, List.setIfInBounds_toArray, List.set_cons_zero, List.set_cons_succ]
          refine wpAnyH_take (i := 19) (oi := { dst := some 36, op := Go.Op.indexAddr 22 (Go.Operand.tmp 34) (Go.Operand.tmp 35), type := 0, pos := "ref.go:123", after := #[{ on := 17, ground := Go.Ground.data }, { on := 18, ground := Go.Ground.data }, { on := 11, ground := Go.Ground.guard }], guard := some (11, false) }) (v := undef) rfl (by kernel_rfl) (by kernel_rfl) (by kernel_rfl) (fun _ _ _ h => h) (Or.inr ⟨by rfl, rfl⟩) hS ?_
          simp only [Act.put, List.setIfInBounds_toArray, List.set_cons_zero, List.set_cons_succ]
          refine wpAnyH_take (i := 20) (oi := { dst := some 37, op := Go.Op.fieldAddr 44 (Go.Operand.tmp 36) 1, type := 0, pos := "ref.go:123", after := #[{ on := 19, ground := Go.Ground.data }, { on := 11, ground := Go.Ground.guard }], guard := some (11, false) }) (v := undef) rfl (by kernel_rfl) (by kernel_rfl) (by kernel_rfl) (fun _ _ _ h => h) (Or.inr ⟨by rfl, rfl⟩) hS ?_
          simp only [Act.put, List.setIfInBounds_toArray, List.set_cons_zero, List.set_cons_succ]
          refine wpAnyH_take (i := 21) (oi := { dst := some 38, op := Go.Op.load 42 (Go.Operand.tmp 37), type := 42, pos := "ref.go:123", after := #[{ on := 20, ground := Go.Ground.data }, { on := 11, ground := Go.Ground.guard }], guard := some (11, false) }) (v := undef) rfl (by kernel_rfl) (by kernel_rfl) (by kernel_rfl) (fun _ _ _ h => h) (Or.inr ⟨by rfl, rfl⟩) hS ?_
          simp only [Act.put, List.setIfInBounds_toArray, List.set_cons_zero, List.set_cons_succ]
          refine wpAnyH_take (i := 22) (oi := { dst := some 39, op := Go.Op.call { callee := Go.Callee.value (Go.Operand.func 28), args := #[Go.Operand.tmp 33, Go.Operand.tmp 38], argTypes := #[42, 42] }, type := 4, pos := "ref.go:123", after := #[{ on := 16, ground := Go.Ground.data }, { on := 21, ground := Go.Ground.data }, { on := 11, ground := Go.Ground.chain }, { on := 11, ground := Go.Ground.guard }], guard := some (11, false) }) (v := undef) rfl (by kernel_rfl) (by kernel_rfl) (by kernel_rfl) (fun _ _ _ h => h) (Or.inr ⟨by rfl, rfl⟩) hS ?_
          simp only [Act.put, List.setIfInBounds_toArray, List.set_cons_zero, List.set_cons_succ]
          refine wpAnyH_take (i := 23) (oi := { dst := some 40, op := Go.Op.unOp Go.UnOp.not 4 (Go.Operand.tmp 39), type := 4, pos := "ref.go:123", after := #[{ on := 22, ground := Go.Ground.data }, { on := 11, ground := Go.Ground.guard }], guard := some (11, false) }) (v := undef) rfl (by kernel_rfl) (by kernel_rfl) (by kernel_rfl) (fun _ _ _ h => h) (Or.inr ⟨by rfl, rfl⟩) hS ?_
          simp only [Act.put, List.setIfInBounds_toArray, List.set_cons_zero, List.set_cons_succ]
          refine wpAnyH_take (i := 24) (oi := { dst := some 41, op := Go.Op.pick (Go.Operand.tmp 28) (Go.Operand.const (Go.Value.bool true)) (Go.Operand.tmp 40), type := 4, pos := "ref.go:123", after := #[{ on := 11, ground := Go.Ground.data }, { on := 23, ground := Go.Ground.data }], guard := none }) (v := .bool true) rfl (by kernel_rfl) (by kernel_rfl) (by kernel_rfl) (fun _ _ _ h => h) (Or.inl ⟨by rfl, ?_⟩) hS ?_
          · intro W hW; obtain ⟨hW1, hW2⟩ := hW; first | (go_simp; done) | (go_simp; with_reducible rfl)
          simp only [Act.put, List.setIfInBounds_toArray, List.set_cons_zero, List.set_cons_succ]
          refine wpAnyH_done (by kernel_rfl) ?_ _
          have HB4 := hide (below_drew (unhide HBr))
          clear hS h0 h1 h0' h1'
          go_wp2_with fail
          go_ret
          exact ⟨rfl, unhide HB4⟩
      · obtain rfl : k = t.length := by omega
        obtain rfl : D = true := (unhide HD).2 (by have h := unhide HEQ; rw [List.take_length, unhide HLEN, List.take_length] at h; exact h)
        go_wp2_with fail
        go_ret
        exact ⟨rfl, unhide HBr⟩
  · have hbe : ((t.length : Int) != (u.length : Int)) = true := by simp; omega
    obtain rfl : D = false := by
      cases D with
      | false => rfl
      | true => exact absurd (by rw [(unhide HD).1 rfl]) hlen
    go_enter Try.func11, Try.ntmps11
    go_wp2_with fail
    go_ret
    exact ⟨rfl, Below.refl _ _⟩
end Go.Proofs.Ytpfighkafmammaa

/-
  Whether entries are too great to be asked about: the law's own look. Conditions: those that each theorem names.
-/

namespace Go.Proofs.Ytpfighkafmammaa
open Go.RowKit

/-- Entries that are asked about. -/
def SlightE (l : List En) (most : Nat) : Prop := l.length ≤ most ∧ ∀ x ∈ l, x.1.size ≤ 200 ∧ Slight x.2
def GreatMadeE (l : List En) (most : Nat) (w : World) (e : Ending) (w' : World) : Prop := ∃ D, e = .returned (.bool D) ∧ (D = false → SlightE l most) ∧ Below w.heap.size w w'
set_option maxRecDepth 100000 in
set_option maxHeartbeats 1000000 in
theorem greatE_any (a : Option Addr) (cap : Nat) (l : List En) (most : Nat) (hm : most ≤ 1000) (hl : l.length ≤ 9223372036854775807) (hp : ∀ x ∈ l, x.1.size ≤ 9223372036854775807) (w : World) (h : EL w a l) :
    Calls Try.prog 7 #[.slice a l.length cap, .int .i64 most] w (GreatMadeE l most w) := by
  have HS := hide h
  have HP := hide hp
  clear h hp
  by_cases hbig : most < l.length
  · have hd : decide (((most : Nat) : Int) < ((l.length : Nat) : Int)) = true := decide_eq_true (by omega)
    go_enter Try.func7, Try.ntmps7
    go_wp2_with fail
    go_ret
    exact ⟨true, rfl, fun h => (by cases h), Below.refl _ _⟩
  · have hd : decide (((most : Nat) : Int) < ((l.length : Nat) : Int)) = false := decide_eq_false (by omega)
    go_enter Try.func7, Try.ntmps7
    go_wp2_with fail
    go_loopw [5] (fun i wr => ∃ k : Nat, k ≤ l.length ∧ i = .int .i64 k ∧ (∀ j x, j < k → l[j]? = some x → x.1.size ≤ 200 ∧ Slight x.2) ∧ Below w.heap.size w wr) (fun i _ => l.length - (intOf i).toNat)
    case atStart => exact ⟨0, Nat.zero_le _, rfl, fun j x hj => absurd hj (Nat.not_lt_zero _), Below.refl _ _⟩
    case round =>
      obtain ⟨k, hk, rfl, hall, hb⟩ := hrel
      have HALL := hide hall
      have HB := hide hb
      clear hall
      by_cases hlt : k < l.length
      · obtain ⟨x, hx⟩ : ∃ x, l[k]? = some x := ⟨_, List.getElem?_eq_getElem hlt⟩
        obtain ⟨g, o, rfl, hg, hcell⟩ := (unhide HS).after hb (by omega)
        obtain ⟨q, c, x0, x1, h5, h6⟩ := hcell k x hx
        have H6 := hide h6
        have HX := hide hx
        have hxs := unhide HP x (List.mem_of_getElem? hx)
        clear hcell hx hg h6 hb
        by_cases h2 : 200 < x.1.size
        · have hd2 : decide ((200 : Int) < ((x.1.size : Nat) : Int)) = true := decide_eq_true (by omega)
          go_wp2_with fail
          go_ret
          exact ⟨true, rfl, fun h => (by cases h), unhide HB⟩
        · have hd2 : decide ((200 : Int) < ((x.1.size : Nat) : Int)) = false := decide_eq_false (by omega)
          have KG := hide (great_any wr.heap.size 1 (by omega) (fun _ => q) (fun _ => c) (fun _ => x.2) (wr.alloc (.cells #[.slice q x.2.length c] 42)) (fun j hj => by obtain rfl : j = 0 := (by omega); exact (VRow.new wr 42 [.slice q x.2.length c]).cell 0 _ rfl) (fun _ _ => (unhide H6).after (below_alloc' _)))
          have HA2 := hide (below_alloc' (w := wr) (.cells #[.slice q x.2.length c] 42))
          go_wp2_with fail
          refine (unhide KG).mono ?_
          rintro e w4 ⟨B, rfl, rfl, hB⟩
          have HBB := hide hB
          clear hB
          cases B with
          | true =>
            go_wp2_with fail
            go_ret
            exact ⟨true, rfl, fun h => (by cases h), below_grow (unhide HB) (Nat.le_refl _) (unhide HA2)⟩
          | false =>
            have HN : Hid (∀ j y, j < k + 1 → l[j]? = some y → y.1.size ≤ 200 ∧ Slight y.2) := hide (fun j y hj hy => by
              by_cases e : j = k
              · subst e
                rw [unhide HX] at hy
                injection hy with hy
                subst hy
                exact ⟨by omega, unhide HBB rfl 0 (by omega)⟩
              · exact unhide HALL j y (by omega) hy)
            go_wp2_with fail
            go_roundw
            case rel => exact ⟨k + 1, by omega, by go_num, unhide HN, below_grow (unhide HB) (Nat.le_refl _) (unhide HA2)⟩
            case measure => simp [intOf]; omega
      · obtain rfl : k = l.length := by omega
        go_wp2_with fail
        go_ret
        refine ⟨false, rfl, fun _ => ⟨by omega, fun x hx => ?_⟩, unhide HB⟩
        obtain ⟨j, hj, rfl⟩ := List.getElem_of_mem hx
        exact unhide HALL j _ hj (List.getElem?_eq_getElem hj)
end Go.Proofs.Ytpfighkafmammaa

/-
  What comes in, opened: a list of dots, a dot, a number.
-/

namespace Go.Proofs.Ytpfighkafmammaa
open Go.ChangeShapes Go.WideShapes Go.ChangeAt Go.RowKit Go.Deep

theorem cells59 : Try.prog.cellsOf 59 = 1 := by kernel_rfl
theorem cells58 : Try.prog.cellsOf 58 = 2 := by kernel_rfl
theorem cells3 : Try.prog.cellsOf 3 = 1 := by kernel_rfl

def numOf : Value → Int
  | .int _ n => n
  | _ => 0

set_option maxRecDepth 100000 in
theorem open_dots {H : Type} {enc : TypeId × Value → H} {W : World} {r : Reach} {base : Nat} {v0 : Value} {d0 : DataW H} {p0 : List MemPlace}
    (hv : Value.okWide Try.prog W r base 59 v0) (h : DataW.Trod enc Try.prog W 0 (fun _ => true) true 59 v0 d0 p0) :
    ∃ (a : Option Addr) (cap : Nat) (ds : List Vc.D), v0 = .slice a ds.length cap ∧ ds.length ≤ cap ∧ Sl W a ds := by
  obtain ⟨a0, len0, cap0, rfl⟩ := okWide_slice Try.underlying59 hv
  obtain ⟨fuel, hf⟩ := h
  rcases open_slice_pairs Try.underlying59 Try.underlying58 cells58 rfl rfl cells3 cells3 hf with ⟨hcs, hx⟩ | ⟨a, len, cap, m, n, V0, V1, D0, D1, P0, P1, hcs, _, hl, hm, hmm, hx, hall⟩
  · simp [Value.cells] at hcs
    obtain ⟨rfl, rfl, rfl⟩ := hcs
    exact ⟨none, 0, [], rfl, Nat.le_refl _, Sl.none _ _⟩
  · simp [Value.cells] at hcs
    obtain ⟨rfl, rfl, rfl⟩ := hcs
    simp only [if_true] at hmm
    have hbl : ((List.range len0).map fun i => (numOf (V0 i), numOf (V1 i))).length = len0 := by simp
    refine ⟨some a, cap0, (List.range len0).map fun i => (numOf (V0 i), numOf (V1 i)), by rw [hbl], by omega, fun h0 => ?_⟩
    rw [hbl] at h0
    obtain ⟨b, off, spot⟩ := a
    have hspot : spot = none := by simpa [Addr.add] using World.cell?_spot (hall 0 (by omega)).1
    subst hspot
    refine ⟨b, off, rfl, block_lt_of_cell (hall 0 (by omega)).1, fun j x hx => ?_⟩
    have hj := (List.getElem?_eq_some_iff.1 hx).1
    rw [hbl] at hj
    obtain ⟨c0, c1, t0, t1⟩ := hall j (by omega)
    obtain ⟨k0, e0, _, _⟩ := DataW.trod_int Try.underlying3 t0
    obtain ⟨k1, e1, _, _⟩ := DataW.trod_int Try.underlying3 t1
    simp only [List.cons.injEq, and_true] at e0 e1
    rw [add_plain] at c0 c1
    simp [hj] at hx
    subst hx
    rw [e0] at c0
    rw [e1] at c1
    rw [e0, e1]
    exact ⟨c0, c1⟩

set_option maxRecDepth 100000 in
theorem open_dot {H : Type} {enc : TypeId × Value → H} {W : World} {r : Reach} {base : Nat} {v0 : Value} {d0 : DataW H} {p0 : List MemPlace}
    (hv : Value.okWide Try.prog W r base 58 v0) (h : DataW.Trod enc Try.prog W 0 (fun _ => true) true 58 v0 d0 p0) :
    ∃ (p c : Int), v0 = .agg #[.int .i64 p, .int .i64 c] := by
  obtain ⟨v0, v1, y0, y1, n, rfl, _, _, t0, t1⟩ := Go.Joins.open_agg2 Try.underlying58 (by kernel_rfl) cells58 hv h
  obtain ⟨k0, e0, _, _⟩ := DataW.trod_int Try.underlying3 t0
  obtain ⟨k1, e1, _, _⟩ := DataW.trod_int Try.underlying3 t1
  simp only [List.cons.injEq, and_true] at e0 e1
  exact ⟨k0, k1, by rw [e0, e1]⟩
set_option maxRecDepth 100000 in
theorem open_int0 {H : Type} {enc : TypeId × Value → H} {W : World} {r : Reach} {base : Nat} {v0 : Value} {d0 : DataW H} {p0 : List MemPlace}
    (hv : Value.okWide Try.prog W r base 3 v0) (h : DataW.Trod enc Try.prog W 0 (fun _ => true) true 3 v0 d0 p0) :
    ∃ (n : Int), v0 = .int .i64 n := by
  obtain ⟨n, h1, _⟩ := open_int Try.underlying3 hv h
  exact ⟨n, h1⟩
end Go.Proofs.Ytpfighkafmammaa

/-
  Versions that come in, opened.
-/

namespace Go.Proofs.Ytpfighkafmammaa
open Go.ChangeShapes Go.WideShapes Go.ChangeAt Go.RowKit Go.Deep

section
variable {H : Type} {enc : TypeId × Value → H} {W : World}

theorem bytes58 : Try.prog.bytesOf 58 = 16 := by kernel_rfl
set_option maxRecDepth 100000 in
theorem mem_weightsAll {e : TypeId} {d : DataW H} {n : Nat} : ∀ {l : List (DataW H)}, d ∈ l → n ∈ d.weights Try.prog e → n ∈ DataW.weightsAll Try.prog e l
  | [], h, _ => by cases h
  | x :: l, h, hn => by
    rw [DataW.weightsAll]
    rcases List.mem_cons.1 h with rfl | h
    · exact List.mem_append_left _ hn
    · exact List.mem_append_right _ (mem_weightsAll h hn)
/-- What is read is no greater than a machine's memory. -/
def Reached (t : TypeId) (d : DataW H) : Prop := ∀ n ∈ d.weights Try.prog t, n ≤ reachBytes
set_option maxRecDepth 100000 in
theorem dots_of_trod {fuel : Nat} {v : Value} {x : DataW H × List MemPlace}
    (hf : DataW.trod enc Try.prog W 0 (fun _ => true) true fuel 59 [v] = some x) : ∃ (a : Option Addr) (cap : Nat) (ds : List Vc.D), v = .slice a ds.length cap ∧ ds.length ≤ cap ∧ cap ≤ maxLen ∧ Sl W a ds ∧ (Reached 59 x.1 → ds.length ≤ 8796093022208) := by
  rcases open_slice_pairs Try.underlying59 Try.underlying58 cells58 rfl rfl cells3 cells3 hf with ⟨hcs, _⟩ | ⟨a, len, cap, m, n, V0, V1, D0, D1, P0, P1, hcs, _, hl, hm, hmm, hx0, hall⟩
  · simp at hcs
    exact ⟨none, 0, [], hcs, Nat.le_refl _, Nat.zero_le _, Sl.none _ _, fun _ => by simp⟩
  · simp at hcs
    simp only [if_true] at hmm
    have hbl : ((List.range len).map fun i => (numOf (V0 i), numOf (V1 i))).length = len := by simp
    refine ⟨some a, cap, (List.range len).map fun i => (numOf (V0 i), numOf (V1 i)), by rw [hbl]; exact hcs, by omega, hm, fun h0 => ?_, fun hR => ?_⟩
    rotate_left
    · rw [hbl]
      have h9 := hR ((((List.range len).map fun i => DataW.agg [D0 i, D1 i]).length + ((List.range (m - len)).map fun j => DataW.agg [D0 (len + j), D1 (len + j)]).length) * Try.prog.bytesOf 58) (by rw [hx0]; simp [DataW.weights, Try.underlying59])
      rw [bytes58] at h9
      simp at h9
      unfold reachBytes at h9
      omega
    rw [hbl] at h0
    obtain ⟨b, off, spot⟩ := a
    have hspot : spot = none := by simpa [Addr.add] using World.cell?_spot (hall 0 (by omega)).1
    subst hspot
    refine ⟨b, off, rfl, block_lt_of_cell (hall 0 (by omega)).1, fun j x hx => ?_⟩
    have hj := (List.getElem?_eq_some_iff.1 hx).1
    rw [hbl] at hj
    obtain ⟨c0, c1, t0, t1⟩ := hall j (by omega)
    obtain ⟨k0, e0, _, _⟩ := DataW.trod_int Try.underlying3 t0
    obtain ⟨k1, e1, _, _⟩ := DataW.trod_int Try.underlying3 t1
    simp only [List.cons.injEq, and_true] at e0 e1
    rw [add_plain] at c0 c1
    simp [hj] at hx
    subst hx
    rw [e0] at c0
    rw [e1] at c1
    rw [e0, e1]
    exact ⟨c0, c1⟩
theorem cells61 : Try.prog.cellsOf 61 = 5 := by kernel_rfl
theorem cells4 : Try.prog.cellsOf 4 = 1 := by kernel_rfl
theorem cells9 : Try.prog.cellsOf 9 = 1 := by kernel_rfl
set_option maxRecDepth 100000 in
theorem ver_of_trod {fuel : Nat} {cs : List Value} {x : DataW H × List MemPlace} (hf : DataW.trod enc Try.prog W 0 (fun _ => true) true fuel 61 cs = some x) :
    ∃ (v : Vc.V) (r : Option Addr) (c : Nat), cs = verL v r c ∧ v.past.length ≤ c ∧ v.past.length ≤ 9223372036854775807 ∧ Sl W r v.past ∧ (Reached 61 x.1 → v.past.length ≤ 8796093022208) ∧ v.data.size ≤ 9223372036854775807 := by
  obtain ⟨xs, n, _, hx0, hlen, hxl, hall⟩ := DataW.trod_struct Try.underlying61 hf
  rw [cells61] at hlen
  match cs, hlen with
  | [c0, c1, c2, c3, c4], _ =>
    match xs, hxl with
    | [y0, y1, y2, y3], _ =>
      have g0 := hall 0 _ rfl
      have g1 := hall 1 _ rfl
      have g2 := hall 2 _ rfl
      have g3 := hall 3 _ rfl
      simp [cells58, cells59, cells4, cells9] at g0 g1 g2 g3
      obtain ⟨zs, m, _, _, _, hzl, hz⟩ := DataW.trod_struct Try.underlying58 g0
      match zs, hzl with
      | [z0, z1], _ =>
        have i0 := hz 0 _ rfl
        have i1 := hz 1 _ rfl
        simp [cells3] at i0 i1
        obtain ⟨p, e0, _, _⟩ := DataW.trod_int Try.underlying3 i0
        obtain ⟨k, e1, _, _⟩ := DataW.trod_int Try.underlying3 i1
        obtain ⟨r, c, ds, e2, h2, h3, h4, h9⟩ := dots_of_trod g1
        obtain ⟨b, e3, _⟩ := DataW.trod_bool Try.underlying4 g2
        obtain ⟨s, e4, _, w4⟩ := DataW.trod_string Try.underlying9 g3
        simp only [List.cons.injEq, and_true] at e0 e1 e3 e4
        refine ⟨⟨(p, k), ds, b, s⟩, r, c, ?_, h2, ?_, h4, fun hR => h9 fun q hq => hR q ?_, by unfold maxLen at w4; simpa using w4⟩
        · rw [e0, e1, e2, e3, e4]; rfl
        · unfold maxLen at h3; show ds.length ≤ _; omega
        · rw [hx0]
          simp only [DataW.weights, Try.underlying61, List.map_cons, List.map_nil, DataW.weightsEach]
          exact List.mem_append_right _ (List.mem_append_left _ hq)
set_option maxRecDepth 100000 in
theorem open_ver {r0 : Reach} {base : Nat} {v0 : Value} {d0 : DataW H} {p0 : List MemPlace}
    (hv : Value.okWide Try.prog W r0 base 61 v0) (h : DataW.Trod enc Try.prog W 0 (fun _ => true) true 61 v0 d0 p0) :
    ∃ (v : Vc.V) (r : Option Addr) (c : Nat), v0 = .agg (verL v r c).toArray ∧ v.past.length ≤ c ∧ v.past.length ≤ 9223372036854775807 ∧ Sl W r v.past := by
  obtain ⟨cs, rfl, hsz⟩ := okWide_struct Try.underlying61 hv
  obtain ⟨fuel, hf⟩ := h
  obtain ⟨v, r, c, e, h1, h2, h3, _⟩ := ver_of_trod hf
  refine ⟨v, r, c, ?_, h1, h2, h3⟩
  rw [← e]
  simp [Value.cells]
set_option maxRecDepth 100000 in
theorem open_vers_l {r0 : Reach} {base : Nat} {v0 : Value} {d0 : DataW H} {p0 : List MemPlace}
    (hv : Value.okWide Try.prog W r0 base 42 v0) (h : DataW.Trod enc Try.prog W 0 (fun _ => true) true 42 v0 d0 p0) :
    ∃ (a : Option Addr) (cap : Nat) (vs : List Vc.V), v0 = .slice a vs.length cap ∧ vs.length ≤ cap ∧ Short vs ∧ SV W a vs ∧ (Reached 42 d0 → Light vs) ∧ ∀ v ∈ vs, v.data.size ≤ 9223372036854775807 := by
  obtain ⟨a0, len0, cap0, rfl⟩ := okWide_slice Try.underlying42 hv
  obtain ⟨fuel, hf⟩ := h
  rcases open_slice Try.underlying42 hf with ⟨hcs, _⟩ | ⟨a, len, cap, m, n, D, Pl, hcs, _, hl, _, hmm, hx0, hall⟩
  · simp [Value.cells] at hcs
    obtain ⟨rfl, rfl, rfl⟩ := hcs
    exact ⟨none, 0, [], rfl, Nat.le_refl _, fun _ h => (by cases h), SV.none _ _, fun _ _ h => (by cases h), fun _ h => (by cases h)⟩
  · simp [Value.cells] at hcs
    obtain ⟨rfl, rfl, rfl⟩ := hcs
    simp only [if_true] at hmm
    obtain ⟨b, off, spot⟩ := a
    have each : ∀ i, i < len0 → ∃ q : Vc.V × Option Addr × Nat, (∀ j u, (verL q.1 q.2.1 q.2.2)[j]? = some u → W.cell? ((⟨b, off, spot⟩ : Addr).add (i * 5 + j)) = some u) ∧ q.1.past.length ≤ q.2.2 ∧ q.1.past.length ≤ 9223372036854775807 ∧ Sl W q.2.1 q.1.past ∧ (Reached 42 d0 → q.1.past.length ≤ 8796093022208) ∧ q.1.data.size ≤ 9223372036854775807 := by
      intro i hi
      obtain ⟨cs', h1, h2⟩ := hall i (by omega)
      rw [cells61] at h1
      obtain ⟨_, hlen, hcell⟩ := World.cells?_some h1
      obtain ⟨v, r, c, e, g1, g2, g3, g9, g10⟩ := ver_of_trod h2
      refine ⟨(v, r, c), fun j u hu => ?_, g1, g2, g3, fun hR => g9 fun z hz => hR z ?_, g10⟩
      rotate_left
      · injection hx0 with hd0 _
        rw [hd0]
        simp only [DataW.weights, Try.underlying42]
        exact List.mem_cons_of_mem _ (List.mem_append_left _ (mem_weightsAll (List.mem_map.2 ⟨i, List.mem_range.2 hi, rfl⟩) hz))
      have hj : j < 5 := (List.getElem?_eq_some_iff.1 hu).1
      have hc := hcell j (by omega)
      rw [add_add] at hc
      rw [hc, e]
      exact hu
    haveI : Inhabited Vc.V := ⟨zeroV⟩
    obtain ⟨q, hq⟩ := choose_lt each
    have hbl : ((List.range len0).map fun i => (q i).1).length = len0 := by simp
    refine ⟨some ⟨b, off, spot⟩, cap0, (List.range len0).map fun i => (q i).1, by rw [hbl], by omega, fun v hv' => ?_, fun h0 => ?_, fun hR v hv' => ?_, fun v hv' => ?_⟩
    · obtain ⟨i, hi, rfl⟩ := List.mem_map.1 hv'
      exact (hq i (List.mem_range.1 hi)).2.2.1
    · rw [hbl] at h0
      have hspot : spot = none := by simpa [Addr.add] using World.cell?_spot ((hq 0 h0).1 0 _ rfl)
      subst hspot
      have hb : b < W.heap.size := by have := block_lt_of_cell ((hq 0 h0).1 0 _ rfl); rw [add_plain] at this; exact this
      refine ⟨b, off, rfl, hb, fun j v hj => ?_⟩
      have hjl := (List.getElem?_eq_some_iff.1 hj).1
      rw [hbl] at hjl
      simp [hjl] at hj
      subst hj
      obtain ⟨hc, h1, _, h3, _⟩ := hq j hjl
      have cc : ∀ i u, (verL (q j).1 (q j).2.1 (q j).2.2)[i]? = some u → W.cell? ⟨b, off + j * 5 + i, none⟩ = some u := fun i u hu => by
        have := hc i u hu
        rw [add_plain, ← Nat.add_assoc] at this
        exact this
      exact ⟨(q j).2.1, (q j).2.2, cc 0 _ rfl, cc 1 _ rfl, cc 2 _ rfl, cc 3 _ rfl, cc 4 _ rfl, h1, h3⟩
    · obtain ⟨i, hi, rfl⟩ := List.mem_map.1 hv'
      exact (hq i (List.mem_range.1 hi)).2.2.2.2.1 hR
    · obtain ⟨i, hi, rfl⟩ := List.mem_map.1 hv'
      exact (hq i (List.mem_range.1 hi)).2.2.2.2.2
set_option maxRecDepth 100000 in
theorem open_vers {r0 : Reach} {base : Nat} {v0 : Value} {d0 : DataW H} {p0 : List MemPlace}
    (hv : Value.okWide Try.prog W r0 base 42 v0) (h : DataW.Trod enc Try.prog W 0 (fun _ => true) true 42 v0 d0 p0) :
    ∃ (a : Option Addr) (cap : Nat) (vs : List Vc.V), v0 = .slice a vs.length cap ∧ vs.length ≤ cap ∧ Short vs ∧ SV W a vs := by
  obtain ⟨a, cap, vs, h1, h2, h3, h4, _⟩ := open_vers_l hv h
  exact ⟨a, cap, vs, h1, h2, h3, h4⟩
set_option maxRecDepth 100000 in
theorem open_versd {r0 : Reach} {base : Nat} {v0 : Value} {d0 : DataW H} {p0 : List MemPlace}
    (hv : Value.okWide Try.prog W r0 base 42 v0) (h : DataW.Trod enc Try.prog W 0 (fun _ => true) true 42 v0 d0 p0) :
    ∃ (a : Option Addr) (cap : Nat) (vs : List Vc.V), v0 = .slice a vs.length cap ∧ vs.length ≤ cap ∧ Short vs ∧ (∀ v ∈ vs, v.data.size ≤ 9223372036854775807) ∧ SV W a vs := by
  obtain ⟨a, cap, vs, h1, h2, h3, h4, _, h5⟩ := open_vers_l hv h
  exact ⟨a, cap, vs, h1, h2, h3, h5, h4⟩
set_option maxRecDepth 100000 in
theorem open_strb {r0 : Reach} {base : Nat} {v0 : Value} {d0 : DataW H} {p0 : List MemPlace}
    (hv : Value.okWide Try.prog W r0 base 9 v0) (h : DataW.Trod enc Try.prog W 0 (fun _ => true) true 9 v0 d0 p0) : ∃ s : ByteArray, v0 = .string s ∧ s.size ≤ 9223372036854775807 := by
  obtain ⟨s, h1, _, _, h2⟩ := Go.ChangeMaps.open_string Try.underlying9 hv h
  unfold maxLen at h2
  exact ⟨s, h1, by simpa using h2⟩
set_option maxRecDepth 100000 in
theorem open_str0 {r0 : Reach} {base : Nat} {v0 : Value} {d0 : DataW H} {p0 : List MemPlace}
    (hv : Value.okWide Try.prog W r0 base 9 v0) (h : DataW.Trod enc Try.prog W 0 (fun _ => true) true 9 v0 d0 p0) : ∃ s : ByteArray, v0 = .string s := by
  obtain ⟨s, h1, _⟩ := Go.ChangeMaps.open_string Try.underlying9 hv h
  exact ⟨s, h1⟩
end
end Go.Proofs.Ytpfighkafmammaa

/-
  Entries in memory; entries that come in, opened. Conditions: those that each theorem names.
-/

namespace Go.Proofs.Ytpfighkafmammaa
open Go.ChangeShapes Go.WideShapes Go.ChangeAt Go.RowKit Go.Deep

def EnOk (x : En) : Prop := x.1.size ≤ 9223372036854775807 ∧ Short x.2 ∧ ∀ v ∈ x.2, v.data.size ≤ 9223372036854775807

section
variable {H : Type} {enc : TypeId × Value → H} {W : World}
theorem cellsE32 : Try.prog.cellsOf 42 = 1 := by kernel_rfl
theorem cellsE56 : Try.prog.cellsOf 61 = 5 := by kernel_rfl
theorem cellsE34 : Try.prog.cellsOf 44 = 2 := by kernel_rfl
set_option maxRecDepth 100000 in
theorem vers_of_trod {fuel : Nat} {v : Value} {x : DataW H × List MemPlace} (hf : DataW.trod enc Try.prog W 0 (fun _ => true) true fuel 42 [v] = some x) :
    ∃ (a : Option Addr) (cap : Nat) (vs : List Vc.V), v = .slice a vs.length cap ∧ vs.length ≤ cap ∧ Short vs ∧ (∀ v ∈ vs, v.data.size ≤ 9223372036854775807) ∧ SV W a vs := by
  rcases open_slice Try.underlying42 hf with ⟨hcs, _⟩ | ⟨a, len, cap, m, n, D, Pl, hcs, _, hl, _, hmm, hx0, hall⟩
  · simp at hcs
    exact ⟨none, 0, [], hcs, Nat.le_refl _, fun _ h => (by cases h), fun _ h => (by cases h), SV.none _ _⟩
  · simp at hcs
    simp only [if_true] at hmm
    obtain ⟨b, off, spot⟩ := a
    have each : ∀ i, i < len → ∃ q : Vc.V × Option Addr × Nat, (∀ j u, (verL q.1 q.2.1 q.2.2)[j]? = some u → W.cell? ((⟨b, off, spot⟩ : Addr).add (i * 5 + j)) = some u) ∧ q.1.past.length ≤ q.2.2 ∧ q.1.past.length ≤ 9223372036854775807 ∧ Sl W q.2.1 q.1.past ∧ q.1.data.size ≤ 9223372036854775807 := by
      intro i hi
      obtain ⟨cs', h1, h2⟩ := hall i (by omega)
      rw [cellsE56] at h1
      obtain ⟨_, hlen, hcell⟩ := World.cells?_some h1
      obtain ⟨v, r, c, e, g1, g2, g3, _, g10⟩ := ver_of_trod h2
      refine ⟨(v, r, c), fun j u hu => ?_, g1, g2, g3, g10⟩
      have hj : j < 5 := (List.getElem?_eq_some_iff.1 hu).1
      have hc := hcell j (by omega)
      rw [add_add] at hc
      rw [hc, e]
      exact hu
    haveI : Inhabited Vc.V := ⟨zeroV⟩
    obtain ⟨q, hq⟩ := choose_lt each
    have hbl : ((List.range len).map fun i => (q i).1).length = len := by simp
    refine ⟨some ⟨b, off, spot⟩, cap, (List.range len).map fun i => (q i).1, by rw [hbl]; exact hcs, by omega, fun v hv' => ?_, fun v hv' => ?_, fun h0 => ?_⟩
    · obtain ⟨i, hi, rfl⟩ := List.mem_map.1 hv'
      exact (hq i (List.mem_range.1 hi)).2.2.1
    · obtain ⟨i, hi, rfl⟩ := List.mem_map.1 hv'
      exact (hq i (List.mem_range.1 hi)).2.2.2.2
    · rw [hbl] at h0
      have hspot : spot = none := by simpa [Addr.add] using World.cell?_spot ((hq 0 h0).1 0 _ rfl)
      subst hspot
      have hb : b < W.heap.size := by have := block_lt_of_cell ((hq 0 h0).1 0 _ rfl); rw [add_plain] at this; exact this
      refine ⟨b, off, rfl, hb, fun j v hj => ?_⟩
      have hjl := (List.getElem?_eq_some_iff.1 hj).1
      rw [hbl] at hjl
      simp [hjl] at hj
      subst hj
      obtain ⟨hc, h1, _, h3, _⟩ := hq j hjl
      have cc : ∀ i u, (verL (q j).1 (q j).2.1 (q j).2.2)[i]? = some u → W.cell? ⟨b, off + j * 5 + i, none⟩ = some u := fun i u hu => by
        have := hc i u hu
        rw [add_plain, ← Nat.add_assoc] at this
        exact this
      exact ⟨(q j).2.1, (q j).2.2, cc 0 _ rfl, cc 1 _ rfl, cc 2 _ rfl, cc 3 _ rfl, cc 4 _ rfl, h1, h3⟩
set_option maxRecDepth 100000 in
theorem ent_of_trod {fuel : Nat} {cs : List Value} {x : DataW H × List MemPlace} (hf : DataW.trod enc Try.prog W 0 (fun _ => true) true fuel 44 cs = some x) :
    ∃ (y : En) (r : Option Addr) (c : Nat), cs = entL y r c ∧ y.2.length ≤ c ∧ EnOk y ∧ SV W r y.2 := by
  obtain ⟨xs, n, _, _, hlen, hxl, hall⟩ := DataW.trod_struct Try.underlying44 hf
  rw [cellsE34] at hlen
  match cs, hlen with
  | [c0, c1], _ =>
    match xs, hxl with
    | [y0, y1], _ =>
      have g0 := hall 0 _ rfl
      have g1 := hall 1 _ rfl
      simp [cells9, cellsE32] at g0 g1
      obtain ⟨s, e0, _, w0⟩ := DataW.trod_string Try.underlying9 g0
      obtain ⟨a, cap, vs, e1, h1, h2, h3, h4⟩ := vers_of_trod g1
      simp only [List.cons.injEq, and_true] at e0
      exact ⟨(s, vs), a, cap, by rw [e0, e1]; rfl, h1, ⟨by unfold maxLen at w0; simpa using w0, h2, h3⟩, h4⟩
set_option maxRecDepth 100000 in
theorem open_entries {r0 : Reach} {base : Nat} {v0 : Value} {d0 : DataW H} {p0 : List MemPlace}
    (hv : Value.okWide Try.prog W r0 base 22 v0) (h : DataW.Trod enc Try.prog W 0 (fun _ => true) true 22 v0 d0 p0) :
    ∃ (a : Option Addr) (cap : Nat) (es : List En), v0 = .slice a es.length cap ∧ es.length ≤ cap ∧ es.length ≤ 9223372036854775807 ∧ (∀ x ∈ es, EnOk x) ∧ EL W a es := by
  obtain ⟨a0, len0, cap0, rfl⟩ := okWide_slice Try.underlying22 hv
  obtain ⟨fuel, hf⟩ := h
  rcases open_slice Try.underlying22 hf with ⟨hcs, _⟩ | ⟨a, len, cap, m, n, D, Pl, hcs, _, hl, hmx, hmm, hx0, hall⟩
  · simp [Value.cells] at hcs
    obtain ⟨rfl, rfl, rfl⟩ := hcs
    exact ⟨none, 0, [], rfl, Nat.le_refl _, by simp, fun _ h => (by cases h), fun h => absurd h (Nat.lt_irrefl _)⟩
  · simp [Value.cells] at hcs
    obtain ⟨rfl, rfl, rfl⟩ := hcs
    simp only [if_true] at hmm
    obtain ⟨b, off, spot⟩ := a
    have each : ∀ i, i < len0 → ∃ q : En × Option Addr × Nat, (∀ j u, (entL q.1 q.2.1 q.2.2)[j]? = some u → W.cell? ((⟨b, off, spot⟩ : Addr).add (i * 2 + j)) = some u) ∧ q.1.2.length ≤ q.2.2 ∧ EnOk q.1 ∧ SV W q.2.1 q.1.2 := by
      intro i hi
      obtain ⟨cs', h1, h2⟩ := hall i (by omega)
      rw [cellsE34] at h1
      obtain ⟨_, hlen, hcell⟩ := World.cells?_some h1
      obtain ⟨y, r, c, e, g1, g2, g3⟩ := ent_of_trod h2
      refine ⟨(y, r, c), fun j u hu => ?_, g1, g2, g3⟩
      have hj : j < 2 := (List.getElem?_eq_some_iff.1 hu).1
      have hc := hcell j (by omega)
      rw [add_add] at hc
      rw [hc, e]
      exact hu
    haveI : Inhabited En := ⟨(⟨#[]⟩, [])⟩
    obtain ⟨q, hq⟩ := choose_lt each
    have hbl : ((List.range len0).map fun i => (q i).1).length = len0 := by simp
    refine ⟨some ⟨b, off, spot⟩, cap0, (List.range len0).map fun i => (q i).1, by rw [hbl], by omega, by unfold maxLen at hmx; omega, fun v hv' => ?_, fun h0 => ?_⟩
    · obtain ⟨i, hi, rfl⟩ := List.mem_map.1 hv'
      exact (hq i (List.mem_range.1 hi)).2.2.1
    · rw [hbl] at h0
      have hspot : spot = none := by simpa [Addr.add] using World.cell?_spot ((hq 0 h0).1 0 _ rfl)
      subst hspot
      have hb : b < W.heap.size := by have := block_lt_of_cell ((hq 0 h0).1 0 _ rfl); rw [add_plain] at this; exact this
      refine ⟨b, off, rfl, hb, fun j v hj => ?_⟩
      have hjl := (List.getElem?_eq_some_iff.1 hj).1
      rw [hbl] at hjl
      simp [hjl] at hj
      subst hj
      obtain ⟨hc, h1, _, h3⟩ := hq j hjl
      have cc : ∀ i u, (entL (q j).1 (q j).2.1 (q j).2.2)[i]? = some u → W.cell? ⟨b, off + j * 2 + i, none⟩ = some u := fun i u hu => by
        have := hc i u hu
        rw [add_plain, ← Nat.add_assoc] at this
        exact this
      exact ⟨(q j).2.1, (q j).2.2, cc 0 _ rfl, cc 1 _ rfl, h1, h3⟩
end
end Go.Proofs.Ytpfighkafmammaa

/-
  What a program's tree and walk must answer, as the laws of stage 16 want it; chapter 16's example. Conditions: those that each theorem names.
-/

namespace Go.Proofs.Ytpfighkafmammaa
open Go.RowKit

def nextT (T : List En) (s : ByteArray) : ByteArray × Bool := match (listT T ⟨#[]⟩ s 1)[0]? with | some x => (x.1, true) | none => (⟨#[]⟩, false)
/-- TA W p t: the pointer p is a tree that has t. -/
structure PrgW (TA : World → Option Addr → List En → Prop) : Prop where
  after : ∀ {W W' : World} {p : Option Addr} {t : List En}, TA W p t → Below W.heap.size W W' → TA W' p t
  of : ∀ (a : Option Addr) (cap : Nat) (l : List En), Eok l → ∀ W, EL W a l → Calls Try.prog 9 #[.slice a l.length cap] W fun e w' => ∃ q, e = .returned (.tuple #[.pointer q, .int .i64 (ofT l).2]) ∧ TA w' q (ofT l).1 ∧ Below W.heap.size W w'
  under : ∀ (q : Option Addr) (T : List En) (d : ByteArray), Tr T → d.size ≤ 200 → ∀ W, TA W q T → Calls Try.prog 12 #[.pointer q, .string d] W (MadeE W (belowAll T d))
  list : ∀ (q : Option Addr) (T : List En) (d s : ByteArray) (m : Int), Tr T → d.size ≤ 200 → s.size ≤ 200 → ∀ W, TA W q T → Calls Try.prog 14 #[.pointer q, .string d, .string s, .int .i64 m] W (MadeE W (listT T d s m))
  count : ∀ (q : Option Addr) (T : List En) (d : ByteArray), Tr T → d.size ≤ 200 → ∀ W, TA W q T → Calls Try.prog 16 #[.pointer q, .string d] W fun e w' => e = .returned (.int .i64 (countT T d : Nat)) ∧ Below W.heap.size W w'
  next : ∀ (q : Option Addr) (T : List En) (s : ByteArray), Tr T → s.size ≤ 200 → ∀ W, TA W q T → Calls Try.prog 18 #[.pointer q, .string s] W fun e w' => e = .returned (.tuple #[.string (nextT T s).1, .bool (nextT T s).2]) ∧ Below W.heap.size W w'
  dirs : ∀ (q : Option Addr) (T : List En) (d : ByteArray), Tr T → d.size ≤ 200 → ∀ W, TA W q T → Calls Try.prog 20 #[.pointer q, .string d] W (MadeT W (dirsT T d))
  depth : ∀ (q : Option Addr) (T : List En), Tr T → ∀ W, TA W q T → Calls Try.prog 22 #[.pointer q] W fun e w' => e = .returned (.int .i64 (depthT T : Nat)) ∧ Below W.heap.size W w'
theorem eok_sub {s T : List En} (h : Eok T) (hm : ∀ x ∈ s, x ∈ T) (hl : s.length ≤ T.length) : Eok s :=
  ⟨Nat.le_trans hl h.len, fun x hx => h.path x (hm x hx), fun x hx => h.few x (hm x hx), fun x hx => h.data x (hm x hx)⟩
theorem list_eok {T : List En} (h : Eok T) (d s : ByteArray) (m : Int) : Eok (listT T d s m) := eok_sub h list_mem (list_len T d s m)

theorem eok_of16 {l : List En} {most : Nat} (hs : SlightE l most) (hm : most ≤ 1000) (he : ∀ x ∈ l, EnOk x) : Eok l where
  len := by have := hs.1; omega
  path := fun x hx => by have := (hs.2 x hx).1; omega
  few := fun x hx => (he x hx).2.1.few (by have := ((hs.2 x hx).2).1; omega)
  data := fun x hx => (he x hx).2.2

structure StW (TA : World → Option Addr → List En → Prop) (w : World) (q r : Option Addr) (T : List En) (W : World) : Prop where
  b : Below w.heap.size w W
  t : TA W q T
  m : EL W r T
theorem StW.after {TA : World → Option Addr → List En → Prop} (P : PrgW TA) {w W W' : World} {q r : Option Addr} {T : List En} (h : StW TA w q r T W) (hb : Below W.heap.size W W') : StW TA w q r T W' := ⟨below_grow h.b (Nat.le_refl _) hb, P.after h.t hb, h.m.after hb⟩

/-! Chapter 16's example. -/
def awv : Vc.V := { dot := (1, 1), past := [], dead := false, data := ⟨#[]⟩ }
def awt : List En := [(⟨#[97]⟩, [awv]), (⟨#[97, 47, 98]⟩, [awv]), (⟨#[97, 47, 99, 47, 100]⟩, [awv])]
theorem awt_leaf : Vc.checkLeaf [awv] = 0 := by decide +kernel
theorem ofStep_ok (t : List En) (x : En) : ofStep (t, 0) x = setT t x.1 x.2 := if_neg (fun h => h rfl)
theorem awt_of : ofT awt = (awt, 0) := by
  have h1 : setT [] ⟨#[97]⟩ [awv] = ([(⟨#[97]⟩, [awv])], 0) := setT_fine (setE_fine (by decide +kernel) awt_leaf) (by decide)
  have h2 : setT [(⟨#[97]⟩, [awv])] ⟨#[97, 47, 98]⟩ [awv] = ([(⟨#[97]⟩, [awv]), (⟨#[97, 47, 98]⟩, [awv])], 0) := by
    have e : putT ⟨#[97, 47, 98]⟩ [awv] [(⟨#[97]⟩, [awv])] = [(⟨#[97]⟩, [awv]), (⟨#[97, 47, 98]⟩, [awv])] := by kernel_rfl
    have h := setT_fine (t := [(⟨#[97]⟩, [awv])]) (p := ⟨#[97, 47, 98]⟩) (l := [awv]) (setE_fine (by decide +kernel) awt_leaf) (by rw [e]; decide)
    rw [e] at h
    exact h
  have h3 : setT [(⟨#[97]⟩, [awv]), (⟨#[97, 47, 98]⟩, [awv])] ⟨#[97, 47, 99, 47, 100]⟩ [awv] = (awt, 0) := by
    have e : putT ⟨#[97, 47, 99, 47, 100]⟩ [awv] [(⟨#[97]⟩, [awv]), (⟨#[97, 47, 98]⟩, [awv])] = awt := by kernel_rfl
    have h := setT_fine (t := [(⟨#[97]⟩, [awv]), (⟨#[97, 47, 98]⟩, [awv])]) (p := ⟨#[97, 47, 99, 47, 100]⟩) (l := [awv]) (setE_fine (by decide +kernel) awt_leaf) (by rw [e]; decide)
    rw [e] at h
    exact h
  show ofStep (ofStep (ofStep ([], 0) (⟨#[97]⟩, [awv])) (⟨#[97, 47, 98]⟩, [awv])) (⟨#[97, 47, 99, 47, 100]⟩, [awv]) = _
  rw [ofStep_ok, h1, ofStep_ok, h2, ofStep_ok, h3]
theorem awt_tr : Tr awt := by have h := ofT_tr awt; rw [awt_of] at h; exact h
theorem awt_dirs : dirsT awt ⟨#[97]⟩ = [⟨#[99]⟩] := by decide +kernel
theorem awt_below : (belowAll awt ⟨#[97]⟩).length = 2 := by decide +kernel
theorem awt_depth : depthT awt = 3 := by decide +kernel

theorem awt_el {W : World} {B C : Nat} (hs : SV W (some ⟨B, 0, none⟩) [awv]) (h : VRow W C 44 (flatE [((⟨#[97]⟩, [awv]), some ⟨B, 0, none⟩, 1), ((⟨#[97, 47, 98]⟩, [awv]), some ⟨B, 0, none⟩, 1), ((⟨#[97, 47, 99, 47, 100]⟩, [awv]), some ⟨B, 0, none⟩, 1)])) : EL W (some ⟨C, 0, none⟩) awt := fun _ => ⟨C, 0, rfl, h.lt, fun j x hj => by
  match j, hj with
  | 0, hj => simp only [awt, List.getElem?_cons_zero, Option.some.injEq] at hj; subst hj; exact ⟨_, 1, h.cell 0 _ rfl, h.cell 1 _ rfl, by decide, hs⟩
  | 1, hj => simp only [awt, List.getElem?_cons_succ, List.getElem?_cons_zero, Option.some.injEq] at hj; subst hj; exact ⟨_, 1, h.cell 2 _ rfl, h.cell 3 _ rfl, by decide, hs⟩
  | 2, hj => simp only [awt, List.getElem?_cons_succ, List.getElem?_cons_zero, Option.some.injEq] at hj; subst hj; exact ⟨_, 1, h.cell 4 _ rfl, h.cell 5 _ rfl, by decide, hs⟩
  | j + 3, hj => simp [awt] at hj⟩

set_option maxRecDepth 100000 in
set_option maxHeartbeats 1000000 in
theorem awake16_any {TA : World → Option Addr → List En → Prop} (P : PrgW TA) (w : World) : Calls Try.prog 8 #[] w fun e w' => e = .returned (.bool true) ∧ Below w.heap.size w w' := by
  have HA := hide (below_alloc' (w := w) (.cells (verL awv none 0).toArray 61))
  have HV := hide (VRow.new w 61 (verL awv none 0))
  obtain ⟨w1, hw1⟩ : ∃ w1, w.alloc (.cells (verL awv none 0).toArray 61) = w1 := ⟨_, rfl⟩
  have HS1 : Hid (SV w1 (some ⟨w.heap.size, 0, none⟩) [awv]) := hide (hw1 ▸ one_sv (unhide HV) (Nat.le_refl _) (Sl.none _ _))
  have hw0 := hw1
  rw [hw1] at HA
  unfold verL awv at hw1
  have HB := hide (below_alloc' (w := w1) (.cells (flatE [((⟨#[97]⟩, [awv]), some ⟨w.heap.size, 0, none⟩, 1), ((⟨#[97, 47, 98]⟩, [awv]), some ⟨w.heap.size, 0, none⟩, 1), ((⟨#[97, 47, 99, 47, 100]⟩, [awv]), some ⟨w.heap.size, 0, none⟩, 1)]).toArray 44))
  have HR := hide (VRow.new w1 44 (flatE [((⟨#[97]⟩, [awv]), some ⟨w.heap.size, 0, none⟩, 1), ((⟨#[97, 47, 98]⟩, [awv]), some ⟨w.heap.size, 0, none⟩, 1), ((⟨#[97, 47, 99, 47, 100]⟩, [awv]), some ⟨w.heap.size, 0, none⟩, 1)]))
  have HEL := hide (awt_el ((unhide HS1).after (unhide HB)) (unhide HR))
  have KO := hide (P.of (some ⟨w1.heap.size, 0, none⟩) 3 awt awt_tr.eok _ (unhide HEL))
  rw [awt_of] at KO
  have KD := hide fun q W h => P.dirs q awt ⟨#[97]⟩ awt_tr (by decide) W h
  have KU := hide fun q W h => P.under q awt ⟨#[97]⟩ awt_tr (by decide) W h
  have KP := hide fun q W h => P.depth q awt awt_tr W h
  rw [awt_dirs] at KD
  rw [awt_depth] at KP
  have HBL := hide awt_below
  generalize belowAll awt ⟨#[97]⟩ = BL at KU HBL
  have hsz : w1.heap.size = w.heap.size + 1 := by rw [← hw0]; exact Array.size_push _
  have HSZ := hide hsz
  clear HV HS1 HR HEL hw0 hsz
  simp only [flatE, entL, List.cons_append, List.nil_append] at HB KO
  simp only [List.length_nil] at hw1
  go_enter Try.func8, Try.ntmps8
  go_wp2_with fail
  refine (unhide KO).mono ?_
  rintro e w2 ⟨q, rfl, ht, hb⟩
  have HB2 := hide (below_grow (below_grow (unhide HA) (Nat.le_refl _) (unhide HB)) (Nat.le_refl _) hb)
  have HT2 := hide ht
  clear hb ht KO HA HB hw1 HSZ
  go_wp2_with fail
  refine (unhide KD q w2 (unhide HT2)).mono ?_
  rintro e w3 ⟨a3, c3, rfl, hc3, hs3, _, hb⟩
  have HB3 := hide (below_grow (unhide HB2) (Nat.le_refl _) hb)
  have HT3 := hide (P.after (unhide HT2) hb)
  obtain ⟨g3, o3, rfl, hg3, hcell⟩ := hs3 (by decide)
  have z3 := hcell 0 _ rfl
  have HG3 := hide hg3
  clear hb hs3 hc3 hg3 hcell KD
  go_wp2_with fail
  refine (unhide KU q w3 (unhide HT3)).mono ?_
  rintro e w4 ⟨a4, c4, rfl, _, _, hb⟩
  have HB4 := hide (below_grow (unhide HB3) (Nat.le_refl _) hb)
  have HT4 := hide (P.after (unhide HT3) hb)
  have z4 := (hb.cell (p := ⟨g3, o3 + 0, none⟩) (unhide HG3)).trans z3
  rw [Nat.add_zero] at z4
  rw [unhide HBL]
  clear hb z3 KU
  go_wp2_with fail
  refine (unhide KP q w4 (unhide HT4)).mono ?_
  rintro e w5 ⟨rfl, hb⟩
  have HB5 := hide (below_grow (unhide HB4) (Nat.le_refl _) hb)
  clear hb KP
  go_wp2_with fail
  go_ret
  exact ⟨by first | rfl | simp, unhide HB5⟩
end Go.Proofs.Ytpfighkafmammaa

/-
  The walk of the statement that who lists again and again comes to all. Conditions: those that each theorem names.
-/

namespace Go.Proofs.Ytpfighkafmammaa
open Go.RowKit

/-- Entries made in memory that is new, or that was there when the tree came. -/
def MadeN (W0 W : World) (es : List En) (e : Ending) (w' : World) : Prop :=
  ∃ a cap, e = .returned (.slice a es.length cap) ∧ es.length ≤ cap ∧ EL w' a es ∧ (∀ g, W0.heap.size ≤ g → g < W.heap.size → ELN (some g) w' a es ∧ ∀ o, a ≠ some ⟨g, o, none⟩) ∧ Below W.heap.size W w'
def ListN (TA : World → Option Addr → List En → Prop) : Prop := ∀ (q : Option Addr) (T : List En) (d s : ByteArray) (m : Int), Tr T → d.size ≤ 200 → s.size ≤ 200 → ∀ W0 W, TA W0 q T → Below W0.heap.size W0 W → Calls Try.prog 14 #[.pointer q, .string d, .string s, .int .i64 m] W (MadeN W0 W (listT T d s m))
theorem of_len16 : ∀ (l : List En) (st : List En × Int), Tr st.1 → (l.foldl ofStep st).1.length ≤ st.1.length + l.length
  | [], st, _ => by simp
  | x :: l, st, h => by
    have h1 : Tr (ofStep st x).1 := of_tr [x] st h
    have h2 := of_len16 l (ofStep st x) h1
    have h3 : (ofStep st x).1.length ≤ st.1.length + 1 := by
      unfold ofStep
      split
      · omega
      · have h4 := len_put x.1 x.2 h.srt
        by_cases hz : (setT st.1 x.1 x.2).2 = 0
        · rw [(setT_zero hz).2.2]; exact h4
        · rw [setT_bad hz]; simp
    show (l.foldl ofStep (ofStep st x)).1.length ≤ _
    rw [List.length_cons]
    omega
theorem ofT_len16 (l : List En) : (ofT l).1.length ≤ l.length := by
  have h := of_len16 l ([], 0) Tr.nil
  simpa [ofT] using h
theorem u64_nonneg16 (n : Int) : 0 ≤ IntKind.u64.wrap n := by simp [IntKind.wrap, IntKind.signed, IntKind.bits]; omega
theorem behind_size {T : List En} (h : Tr T) (d : ByteArray) : ∀ n, (behindT (belowAll T d) n).size ≤ 51
  | 0 => show (⟨#[]⟩ : ByteArray).size ≤ 51 from by decide
  | n + 1 => by
    show (match (belowAll T d)[n]? with | some x => x.1 | none => ⟨#[]⟩ : ByteArray).size ≤ 51
    cases hx : (belowAll T d)[n]? with
    | none => decide
    | some x => exact path_size (h.path x (list_mem x (List.mem_of_getElem? hx)))
theorem chunk {u : List En} {n K : Nat} (hn : n < u.length) (hK : 0 < K) : ∃ c x, ((u.drop n).take K).length = c ∧ 0 < c ∧ c ≤ K ∧ n + c ≤ u.length ∧ ((u.drop n).take K)[c - 1]? = some x ∧ behindT u (n + c) = x.1 ∧ u.take n ++ (u.drop n).take K = u.take (n + c) := by
  have hl : ((u.drop n).take K).length = min K (u.length - n) := by rw [List.length_take, List.length_drop]
  have hc : 0 < min K (u.length - n) := by omega
  have hidx : ((u.drop n).take K)[min K (u.length - n) - 1]? = u[n + (min K (u.length - n) - 1)]? := by
    rw [List.getElem?_take_of_lt (by omega), List.getElem?_drop]
  obtain ⟨x, hx⟩ : ∃ x, u[n + (min K (u.length - n) - 1)]? = some x := ⟨_, List.getElem?_eq_getElem (by omega)⟩
  refine ⟨_, x, hl, hc, Nat.min_le_left _ _, by omega, hidx.trans hx, ?_, ?_⟩
  · rw [show n + min K (u.length - n) = (n + (min K (u.length - n) - 1)) + 1 by omega]
    show (match u[n + (min K (u.length - n) - 1)]? with | some x => x.1 | none => ⟨#[]⟩) = _
    rw [hx]
  · rw [List.take_add]
    congr 1
    by_cases h : K ≤ u.length - n
    · rw [Nat.min_eq_left h]
    · rw [Nat.min_eq_right (by omega), List.take_of_length_le (by rw [List.length_drop]; omega), List.take_of_length_le (by rw [List.length_drop]; exact Nat.le_refl _)]

set_option maxRecDepth 100000 in
set_option maxHeartbeats 2000000 in
theorem all_walk {TA : World → Option Addr → List En → Prop} (P : PrgW TA) (PL : ListN TA) (a : Option Addr) (cap : Nat) (l : List En) (hl : l.length ≤ 9223372036854775807) (he : ∀ x ∈ l, EnOk x) (d : ByteArray) (hd : d.size ≤ 9223372036854775807) (most : Int) (w : World) (h : EL w a l) :
    Calls Try.prog 5 #[.slice a l.length cap, .string d, .int .i64 most] w fun e w' => e = .returned (.bool true) ∧ Below w.heap.size w w' := by
  have KG := hide (greatE_any a cap l 20 (by omega) hl (fun x hx => (he x hx).1) w h)
  have HS := hide h
  have HOK := hide he
  have HP := hide P
  have HPL := hide PL
  have KA := hide fun W => awake16_any P W
  clear h he P PL
  go_enter Try.func5, Try.ntmps5
  go_wp2_with fail
  refine (unhide KG).mono ?_
  rintro e w1 ⟨D, rfl, hD, hb⟩
  have HB1 := hide hb
  have HS1 := hide ((unhide HS).after hb)
  clear hb KG
  cases D with
  | true =>
    clear hD
    go_wp2_with fail
    refine (unhide KA w1).mono ?_
    rintro e w2 ⟨rfl, hb⟩
    have HB2 := hide (below_grow (unhide HB1) (Nat.le_refl _) hb)
    clear hb
    go_wp2_with fail
    go_ret
    exact ⟨rfl, unhide HB2⟩
  | false =>
   by_cases hbig : 200 < d.size
   · have hbd : decide ((200 : Int) < ((d.size : Nat) : Int)) = true := decide_eq_true (by omega)
     clear hD
     go_wp2_with fail
     refine (unhide KA w1).mono ?_
     rintro e w2 ⟨rfl, hb⟩
     have HB2 := hide (below_grow (unhide HB1) (Nat.le_refl _) hb)
     clear hb
     go_wp2_with fail
     go_ret
     exact ⟨rfl, unhide HB2⟩
   · have hbd : decide ((200 : Int) < ((d.size : Nat) : Int)) = false := decide_eq_false (by omega)
     have HDS : Hid (d.size ≤ 200) := hide (by omega)
     have HEOK := hide (eok_of16 (hD rfl) (by omega) (unhide HOK))
     have KO := hide ((unhide HP).of a cap l (unhide HEOK) w1 (unhide HS1))
     have HTR := hide (ofT_tr l)
     have HTL : Hid ((ofT l).1.length ≤ 20) := hide (Nat.le_trans (ofT_len16 l) (hD rfl).1)
     generalize ofT l = R at KO HTR HTL
     obtain ⟨T, E⟩ := R
     dsimp only at KO HTR HTL
     obtain ⟨z, hz⟩ : ∃ z, (IntKind.u64.wrap most % 4).toNat = z := ⟨_, rfl⟩
     have hzz : (IntKind.u64.wrap most).tmod 4 = (z : Int) := by have := u64_nonneg16 most; rw [Int.tmod_eq_emod_of_nonneg this]; omega
     have hz1 : z < 4 := by have := u64_nonneg16 most; omega
     clear hz hD hbig hd HOK HEOK
     go_wp2_with fail
     refine (unhide KO).mono ?_
     rintro e w2 ⟨q, rfl, ht2, hb⟩
     have HB2 := hide (below_grow (unhide HB1) (Nat.le_refl _) hb)
     have HT2 := hide ht2
     clear hb ht2 KO HB1 HS1 hbd
     have KL := hide fun n W (hb : Below w2.heap.size w2 W) => (unhide HPL) q T d (behindT (belowAll T d) n) ((1 : Int) + z) (unhide HTR) (unhide HDS) (by have := behind_size (unhide HTR) d n; omega) w2 W (unhide HT2) hb
     have HLN := hide fun n (hn : n ≤ (belowAll T d).length) => list_next (unhide HTR) d hn ((1 : Int) + z)
     have KU := hide fun W h => (unhide HP).under q T d (unhide HTR) (unhide HDS) W h
     have HUE := hide (list_eok (unhide HTR).eok d ⟨#[]⟩ T.length)
     have HUE' : Hid (Eok (belowAll T d)) := hide (unhide HUE)
     have HUL : Hid ((belowAll T d).length ≤ 20) := hide (Nat.le_trans (list_len _ _ _ _) (unhide HTL))
     have HK1 : Hid (((1 : Int) + z).toNat = 1 + z) := hide (by omega)
     clear HUE
     generalize belowAll T d = UL at KL HLN KU HUE' HUL
     have KSm := hide fun r1 c1 r2 c2 W h1 h2 => refSameT_any r1 r2 c1 c2 UL UL (unhide HUE') (unhide HUE') W h1 h2 true (by simp)
     go_wp2_with fail
     go_loopw [10, 11, 12] (fun v b i wr => ∃ j n : Nat, j ≤ n ∧ n ≤ UL.length ∧ i = .int .i64 j ∧ b = .string (behindT UL n) ∧ OE wr w2.heap.size v (UL.take n) ∧ Below w2.heap.size w2 wr) (fun _ _ i _ => 30 - (intOf i).toNat)
     case atStart => exact ⟨0, 0, Nat.le_refl _, Nat.zero_le _, rfl, rfl, by rw [List.take_zero]; exact OE.nil _ _, Below.refl _ _⟩
     case round =>
       obtain ⟨j, n, hj, hn, rfl, rfl, hoe, hb⟩ := hrel
       have HO := hide hoe
       have HB := hide hb
       have hul := unhide HUL
       have KLn := hide (unhide KL n wr hb)
       rw [unhide HLN n hn, unhide HK1] at KLn
       clear hoe hb
       by_cases hlt : n < UL.length
       · obtain ⟨c, x, hc1, hc2, hc3, hc4, hc5, hc6, hc7⟩ := chunk (K := 1 + z) hlt (by omega)
         have HC5 := hide hc5
         have HC6 := hide hc6
         have HC7 := hide hc7
         generalize (UL.drop n).take (1 + z) = X at KLn hc1 HC5 HC7
         have HC1 := hide hc1
         clear hc5 hc6 hc7 hc1
         go_wp2_with fail
         refine (unhide KLn).mono ?_
         rintro e w3 ⟨r3, c3, rfl, _, hel, hN, hb⟩
         have HB3 := hide (below_grow (unhide HB) (Nat.le_refl _) hb)
         have HO3 := hide ((unhide HO).after hb)
         have hz3 := (unhide HB3).size
         obtain ⟨g3, o3, rfl, hg3, hcell⟩ := hel (by rw [unhide HC1]; omega)
         obtain ⟨q6, c6, x0, _, _, _⟩ := hcell (c - 1) x (unhide HC5)
         have HEN : Hid (ELN u10.ownBlock w3 (some ⟨g3, o3, none⟩) X ∧ ∀ g, u10.ownBlock = some g → g3 ≠ g) := hide (by
           cases hv : u10.ownBlock with
           | none => exact ⟨hel.eln (row := none) (fun g e => by cases e) (Below.refl _ _), fun g e => by cases e⟩
           | some gv =>
             obtain ⟨h1, h2⟩ := (unhide HO).lt gv hv
             obtain ⟨hn1, hn2⟩ := hN gv h1 h2
             exact ⟨hn1, fun g e e2 => by injection e with e; exact hn2 o3 (by rw [e2, e])⟩)
         obtain ⟨c1, rfl⟩ : ∃ c1, c = c1 + 1 := ⟨c - 1, by omega⟩
         rw [Nat.add_sub_cancel] at x0
         have X0 := hide x0
         have HG3 := hide hg3
         have hnl : (UL.take n).length ≤ 20 := by rw [List.length_take]; omega
         rw [unhide HC1]
         have hcK : decide ((1 : Int) + (z : Int) < ((c1 : Nat) : Int) + 1) = false := decide_eq_false (by omega)
         clear hel hN hb x0 hcell hg3 HO HB KLn HC5
         go_wp2_with (at_builtin; refine append_el (by rfl) _ _ (by rfl) w2.heap.size _ (UL.take n) (by rfl) (unhide HO3) _ (c1 + 1) c3 X (unhide HC1) (by rfl) (unhide HEN).1 (by rw [unhide HC1]; omega) hz3 ?_; intro v7 w7 hoe7 hb7 hg7; have HO7 := hide hoe7; have HB7 := hide ((unhide HB3).trans hb7); have x7 := (World.cell?_of_block (hg7.block g3 (unhide HG3) (fun e => (unhide HEN).2 _ e.symm rfl))).trans (unhide X0); clear hoe7 hb7 hg7)
         go_roundw
         case rel => exact ⟨j + 1, n + (c1 + 1), by omega, by omega, by go_num, by rw [unhide HC6], by rw [← unhide HC7]; exact unhide HO7, unhide HB7⟩
         case measure => simp [intOf]; omega
       · obtain rfl : n = UL.length := by omega
         rw [List.drop_length, List.take_nil] at KLn
         rw [List.take_length] at HO
         clear hlt
         go_wp2_with fail
         refine (unhide KLn).mono ?_
         rintro e w3 ⟨r3, c3, rfl, _, _, _, hb⟩
         have HB3 := hide (below_grow (unhide HB) (Nat.le_refl _) hb)
         have HO3 := hide ((unhide HO).after hb)
         have HT3 := hide ((unhide HP).after (unhide HT2) (unhide HB3))
         clear hb KLn HO HB
         obtain ⟨r8, c8, rfl, _, hel8⟩ := (unhide HO3).el
         have HR8 := hide hel8
         clear hel8
         go_wp2_with fail
         refine (unhide KU _ (unhide HT3)).mono ?_
         rintro e w4 ⟨r4, c4, rfl, _, hel4, hb⟩
         have HB4 := hide (below_grow (unhide HB3) (Nat.le_refl _) hb)
         have HR8' := hide ((unhide HR8).after hb)
         have HR4 := hide hel4
         clear hb hel4 HR8
         go_wp2_with fail
         refine (unhide KSm r8 c8 r4 c4 _ (unhide HR8') (unhide HR4)).mono ?_
         rintro e w5 ⟨rfl, hb⟩
         have HB5 := hide (below_grow (unhide HB4) (Nat.le_refl _) hb)
         clear hb
         go_wp2_with fail
         refine (unhide KA _).mono ?_
         rintro e w6 ⟨rfl, hb⟩
         have HB6 := hide (below_grow (unhide HB2) (Nat.le_refl _) (below_grow (unhide HB5) (Nat.le_refl _) hb))
         clear hb
         go_wp2_with fail
         refine bodyPost_ret (results_tmp rfl _ _ _) rfl ⟨by first | rfl | simp, unhide HB6⟩
end Go.Proofs.Ytpfighkafmammaa

/-
  Plain facts: what is below a directory is what is right below it, and what is below its directories. Conditions: those that each theorem names.
-/

namespace Go.Proofs.Ytpfighkafmammaa
open Go.RowKit

/-- What lies deeper than right below d. -/
def deepT (t : List En) (d : ByteArray) : List En := t.filter fun x => decide ((partsE d).length + 1 < (partsE x.1).length)
theorem dirs_step_eq (d : ByteArray) (out : List ByteArray) (x : En) : (if underE x.1 d = true then dirsStep d out x else out) = if decide ((partsE d).length + 1 < (partsE x.1).length) = true then nameStep d out x else out := by
  unfold dirsStep nameStep
  by_cases hu : underE x.1 d = true
  · rw [if_pos hu, if_neg (show ¬ underE x.1 d = false by rw [hu]; decide)]
    by_cases hq : (partsE d).length + 1 < (partsE x.1).length
    · rw [decide_eq_true hq, if_pos rfl]
      by_cases hl : out.getLast? = some (nm x.1 d)
      · rw [if_pos hl, if_neg (fun h => h.2 hl)]
      · rw [if_neg hl, if_pos ⟨hq, hl⟩]
    · rw [decide_eq_false hq, if_neg (fun h => hq h.1), if_neg (by decide)]
  · rw [if_neg hu, if_pos (show underE x.1 d = false by simpa using hu)]
    split <;> rfl
theorem dirs_eq {t : List En} (h : Tr t) (d : ByteArray) : dirsT t d = namesT (deepT t d) d := by
  unfold dirsT namesT deepT
  rw [below_eq h, List.foldl_filter, List.foldl_filter]
  congr 1
  funext out x
  exact dirs_step_eq d out x
theorem dirs_below {t : List En} (h : Tr t) {d s : ByteArray} (hs : s ∈ dirsT t d) : Dir d ∧ isN s = true ∧ partsE (downE d s) = partsE d ++ [s.data.toList] ∧ (partsE d).length + 1 < 4 := by
  rw [dirs_eq h] at hs
  obtain ⟨h1, h2, h3⟩ := names_dir hs
  refine ⟨h1, h2, parts_down h1 h2 h3, ?_⟩
  obtain ⟨x, hx, _⟩ := (mem_names s).1 hs
  have h4 := of_decide_eq_true (List.mem_filter.1 hx).2
  have h5 : (partsE x.1).length ≤ 4 := Pth.Pt.parts_le _
  omega
theorem grp_deep {t : List En} (h : Tr t) {d s : ByteArray} (hs : s ∈ dirsT t d) : grpT (deepT t d) d s = belowAll t (downE d s) := by
  obtain ⟨h1, h2, h3, _⟩ := dirs_below h hs
  have hl : (partsE (downE d s)).length = (partsE d).length + 1 := by rw [h3, List.length_append]; rfl
  unfold grpT belowT deepT
  rw [List.filter_filter, below_eq h]
  refine List.filter_congr fun x hx => ?_
  unfold atU
  by_cases hu : underE x.1 (downE d s) = true
  · have h5 : (partsE (downE d s)).length < (partsE x.1).length := ((Pth.Pt.under_names _ _).1 hu).2.2.1
    have hq : decide ((partsE d).length + 1 < (partsE x.1).length) = true := decide_eq_true (by omega)
    rw [hu, hq, Bool.or_true]
    rfl
  · have hf : underE x.1 (downE d s) = false := by simpa using hu
    rw [hf, Bool.or_false]
    by_cases e : x.1 = downE d s
    · rw [decide_eq_false (show ¬ (partsE d).length + 1 < (partsE x.1).length by rw [e, hl]; omega), Bool.and_false]
    · rw [decide_eq_false e, Bool.false_and]
theorem dirs_pos {t : List En} (h : Tr t) {d s : ByteArray} (hs : s ∈ dirsT t d) : belowAll t (downE d s) ≠ [] := by
  rw [← grp_deep h hs]
  rw [dirs_eq h] at hs
  exact grp_pos hs
theorem under_names_len {x : En} {d : ByteArray} (h : underE x.1 d = true) : (partsE d).length < (partsE x.1).length := ((Pth.Pt.under_names _ _).1 h).2.2.1
theorem deep_filter {t : List En} (d : ByteArray) : underT (deepT t d) d = (t.filter fun x => underE x.1 d).filter fun x => !decide ((partsE x.1).length = (partsE d).length + 1) := by
  unfold underT deepT
  rw [List.filter_filter, List.filter_filter]
  refine List.filter_congr fun x _ => ?_
  by_cases hu : underE x.1 d = true
  · have h1 := under_names_len hu
    rw [hu, Bool.true_and, Bool.and_true]
    by_cases e : (partsE x.1).length = (partsE d).length + 1
    · rw [decide_eq_true e, decide_eq_false (by omega)]; rfl
    · rw [decide_eq_false e, decide_eq_true (by omega)]; rfl
  · have hf : underE x.1 d = false := by simpa using hu
    rw [hf, Bool.false_and, Bool.and_false]
theorem filter_both {α : Type} (p : α → Bool) : ∀ l : List α, (l.filter p).length + (l.filter fun x => !p x).length = l.length
  | [] => rfl
  | x :: l => by
    have ih := filter_both p l
    cases hp : p x with
    | true => rw [List.filter_cons_of_pos hp, List.filter_cons_of_neg (by simp [hp]), List.length_cons, List.length_cons]; omega
    | false => rw [List.filter_cons_of_neg (by simp [hp]), List.filter_cons_of_pos (by simp [hp]), List.length_cons, List.length_cons]; omega
/-- What is below a directory: what is right below it, and what is below its directories. -/
theorem parts_count {t : List En} (h : Tr t) (d : ByteArray) : ((belowAll t d).filter fun x => decide ((partsE x.1).length = (partsE d).length + 1)).length + ((dirsT t d).map fun s => (belowAll t (downE d s)).length).sum = (belowAll t d).length := by
  have h1 := filter_both (fun x : En => decide ((partsE x.1).length = (partsE d).length + 1)) (belowAll t d)
  have h2 : ((dirsT t d).map fun s => (belowAll t (downE d s)).length).sum = ((belowAll t d).filter fun x => !decide ((partsE x.1).length = (partsE d).length + 1)).length := by
    rw [below_eq h d, ← deep_filter, ← under_groups (show Srt (deepT t d) from srt_filter h.srt _) d, List.length_flatMap, ← dirs_eq h]
    congr 1
    exact List.map_congr_left fun s hs => by rw [← grp_deep h hs]
  rw [h2]
  exact h1
end Go.Proofs.Ytpfighkafmammaa

/-
  Plain facts: how many are at and below a directory, which comes next, which directories there are: lists that are filtered. Conditions: those that each theorem names.
-/

namespace Go.Proofs.Ytpfighkafmammaa
open Go.RowKit

theorem count_split (d : ByteArray) : ∀ l : List En, (l.filter fun x => decide (x.1 = d) || underE x.1 d).length = (l.filter fun x => underE x.1 d).length + (l.filter fun x => decide (x.1 = d)).length
  | [] => rfl
  | x :: l => by
    have ih := count_split d l
    by_cases e : x.1 = d
    · have hu : underE x.1 d = false := by rw [e]; exact under_irr d
      rw [List.filter_cons_of_pos (p := fun x : En => decide (x.1 = d) || underE x.1 d) (by simp [e]), List.filter_cons_of_neg (p := fun x : En => underE x.1 d) (by simp [hu]), List.filter_cons_of_pos (p := fun x : En => decide (x.1 = d)) (by simp [e])]
      simp only [List.length_cons]
      omega
    · by_cases hu : underE x.1 d = true
      · rw [List.filter_cons_of_pos (p := fun x : En => decide (x.1 = d) || underE x.1 d) (by simp [hu]), List.filter_cons_of_pos (p := fun x : En => underE x.1 d) hu, List.filter_cons_of_neg (p := fun x : En => decide (x.1 = d)) (by simp [e])]
        simp only [List.length_cons]
        omega
      · rw [List.filter_cons_of_neg (p := fun x : En => decide (x.1 = d) || underE x.1 d) (by simp [hu, e]), List.filter_cons_of_neg (p := fun x : En => underE x.1 d) hu, List.filter_cons_of_neg (p := fun x : En => decide (x.1 = d)) (by simp [e])]
        exact ih
theorem count_eq {t : List En} (h : Tr t) (d : ByteArray) : countT t d = (t.filter fun x => decide (x.1 = d) || underE x.1 d).length := by
  unfold countT
  rw [below_eq h, count_split]
theorem next_eq {t : List En} (h : Tr t) (s : ByteArray) : (listT t ⟨#[]⟩ s 1)[0]? = (t.filter fun x => decide (0 < cmpE x.1 s))[0]? := by
  rw [list_eq, List.filter_congr (q := fun x => decide (0 < cmpE x.1 s)) (fun x hx => by unfold listP; rw [under_root (h.path x hx), Bool.true_and])]
  rw [List.getElem?_take_of_lt (by decide)]

/-! One of each row of the same. -/
section
variable {α : Type} [Inhabited α] [DecidableEq α]
def onceStep (out : List α) (z : α) : List α := if out.getLast? ≠ some z then out ++ [z] else out
theorem cu_last (d : Array α) : ∀ m, (Lib.compactUpTo d (m + 1)).getLast? = some d[m]!
  | 0 => by
    rw [Lib.compactUpTo_succ, Lib.keeps_lt_one d 0 (by omega), if_pos rfl]
    simp
  | m + 1 => by
    rw [Lib.compactUpTo_succ]
    by_cases hk : Lib.keeps d (m + 1) = true
    · rw [if_pos hk]
      simp
    · rw [if_neg hk, List.append_nil, cu_last d m]
      have h : d[m + 1]! = d[m + 1 - 1]! := by
        by_cases e : d[m + 1]! = d[m + 1 - 1]!
        · exact e
        · exact absurd (Lib.keeps_pos e) hk
      rw [h]
      rfl
theorem cu_fold (zs : List α) : ∀ m, m ≤ zs.length → Lib.compactUpTo zs.toArray m = (zs.take m).foldl onceStep []
  | 0, _ => rfl
  | m + 1, hm => by
    have ih := cu_fold zs m (by omega)
    obtain ⟨z, hz⟩ : ∃ z, zs[m]? = some z := ⟨_, List.getElem?_eq_getElem (by omega)⟩
    have hzm : zs.toArray[m]! = z := by simp [hz]
    rw [Lib.compactUpTo_succ, List.take_add_one, hz, List.foldl_append, ← ih, hzm]
    show _ = onceStep (Lib.compactUpTo zs.toArray m) z
    unfold onceStep
    cases m with
    | zero =>
      rw [Lib.keeps_lt_one _ 0 (by omega), if_pos rfl, if_pos (by show (List.getLast? ([] : List α)) ≠ _; simp)]
    | succ k =>
      rw [cu_last]
      by_cases e : zs.toArray[k]! = z
      · have hk : Lib.keeps zs.toArray (k + 1) = false := Lib.keeps_neg (by omega) (by rw [hzm]; exact e.symm)
        rw [hk, e, if_neg (by decide), if_neg (fun h => h rfl), List.append_nil]
      · have hk : Lib.keeps zs.toArray (k + 1) = true := Lib.keeps_pos (by rw [hzm]; exact fun h => e h.symm)
        rw [hk, if_pos rfl, if_pos (fun h => e (Option.some.inj h))]
theorem compact_fold (zs : List α) : Lib.compact zs = zs.foldl onceStep [] := by
  unfold Lib.compact
  rw [cu_fold zs _ (Nat.le_refl _), List.take_length]
end
/-- What is deeper than right below d. -/
def deepP (d : ByteArray) (x : En) : Bool := decide ((partsE d).length + 1 < (partsE x.1).length)
def rawT (t : List En) (d : ByteArray) : List ByteArray := ((belowAll t d).filter (deepP d)).map fun x => nm x.1 d
theorem lists_last (bs : List ByteArray) (b : ByteArray) : (Pth.lists bs).getLast? = some b.data.toList ↔ bs.getLast? = some b := by
  unfold Pth.lists
  rw [List.getLast?_map]
  cases bs.getLast? with
  | none => simp
  | some c =>
    simp only [Option.map_some, Option.some.injEq]
    exact ⟨Pth.data_inj c b, fun h => by rw [h]⟩
theorem raw_fold (d : ByteArray) : ∀ (l : List En) (out : List ByteArray), Pth.lists (l.foldl (dirsStep d) out) = (Pth.lists ((l.filter (deepP d)).map fun x => nm x.1 d)).foldl onceStep (Pth.lists out)
  | [], _ => rfl
  | x :: l, out => by
    show Pth.lists (l.foldl (dirsStep d) (dirsStep d out x)) = _
    rw [raw_fold d l]
    unfold dirsStep
    by_cases hq : (partsE d).length + 1 < (partsE x.1).length
    · rw [List.filter_cons_of_pos (show deepP d x = true from decide_eq_true hq)]
      show _ = (Pth.lists ((l.filter (deepP d)).map fun x => nm x.1 d)).foldl onceStep (onceStep (Pth.lists out) (nm x.1 d).data.toList)
      congr 1
      unfold onceStep
      by_cases hl : out.getLast? = some (nm x.1 d)
      · rw [if_neg (fun h => h.2 hl), if_neg (fun h => h ((lists_last _ _).2 hl))]
      · rw [if_pos ⟨hq, hl⟩, if_pos (fun h => hl ((lists_last _ _).1 h)), Pth.lists_snoc]
    · rw [List.filter_cons_of_neg (show ¬ deepP d x = true by unfold deepP; rw [decide_eq_false hq]; decide), if_neg (fun h => hq h.1)]
theorem dirs_raw (t : List En) (d : ByteArray) : Lib.compact (Pth.lists (rawT t d)) = Pth.lists (dirsT t d) := by
  rw [compact_fold]
  exact (raw_fold d (belowAll t d) []).symm
theorem raw_len (t : List En) (d : ByteArray) : (rawT t d).length ≤ t.length := by
  unfold rawT
  rw [List.length_map]
  have h := List.length_filter_le (deepP d) (belowAll t d)
  exact Nat.le_trans h (list_len t d ⟨#[]⟩ t.length)
end Go.Proofs.Ytpfighkafmammaa

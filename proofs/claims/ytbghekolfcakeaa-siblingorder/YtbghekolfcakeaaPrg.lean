/-
  What the program's functions must answer, as the laws want it.
-/
import Derived.Test.YtbghekolfcakeaaRefWin
import Derived.Test.YtbghekolfcakeaaRefSyncW
import Derived.Test.YtbghekolfcakeaaRefWrites
import Derived.Test.YtbghekolfcakeaaGreat
namespace Go.Proofs.Ytbghekolfcakeaa
open Go.RowKit

structure Prg : Prop where
  checkLeaf : ∀ (a : Option Addr) (cap : Nat) (vs : List Vc.V), Few vs → vs.length ≤ cap → ∀ w, SV w a vs → Calls Try.prog 11 #[.slice a vs.length cap] w fun e w' => e = .returned (.int .i64 (Vc.checkLeaf vs)) ∧ Below w.heap.size w w'
  check : ∀ (v : Vc.V) (r : Option Addr) (c : Nat), v.past.length ≤ 9223372036854775807 → v.past.length ≤ c → ∀ w, Sl w r v.past → Calls Try.prog 13 #[.agg (verL v r c).toArray] w fun e w' => e = .returned (.int .i64 (Vc.chkV v)) ∧ Below w.heap.size w w'
  covers : ∀ (v u : Vc.V) (r q : Option Addr) (c d : Nat), v.past.length ≤ 9223372036854775807 → u.past.length ≤ 9223372036854775807 → v.past.length ≤ c → u.past.length ≤ d → ∀ w, Sl w r v.past → Sl w q u.past → Calls Try.prog 15 #[.agg (verL v r c).toArray, .agg (verL u q d).toArray] w fun e w' => e = .returned (.bool (Vc.covers v u)) ∧ Below w.heap.size w w'
  cover : ∀ (a : Option Addr) (cap : Nat) (vs : List Vc.V), Few vs → vs.length ≤ cap → ∀ w, SV w a vs → Calls Try.prog 18 #[.slice a vs.length cap] w (Made w (Vc.coverL vs))
  write : ∀ (O : Nat → Prop) (a : Option Addr) (cap : Nat) (vs : List Vc.V), Few vs → vs.length ≤ cap → ∀ (p n : Int) (data : ByteArray) w, (∀ g, w.heap.size ≤ g → O g) → SV w a vs → Prov O w a vs → Calls Try.prog 20 #[.slice a vs.length cap, .agg #[.int .i64 p, .int .i64 n], .string data] w (MadeVE O w (Vc.writeF vs (p, n) data))
  erase : ∀ (O : Nat → Prop) (a : Option Addr) (cap : Nat) (vs : List Vc.V), Few vs → vs.length ≤ cap → ∀ (p n : Int) w, (∀ g, w.heap.size ≤ g → O g) → SV w a vs → Prov O w a vs → Calls Try.prog 22 #[.slice a vs.length cap, .agg #[.int .i64 p, .int .i64 n]] w (MadeVE O w (Vc.eraseF vs (p, n)))
  winner : ∀ (a : Option Addr) (cap : Nat) (vs : List Vc.V), Few vs → (∀ v ∈ vs, v.past.length ≤ 100000) → vs.length ≤ cap → ∀ w, SV w a vs → Calls Try.prog 25 #[.slice a vs.length cap] w (WinMade vs w)
  live : ∀ (a : Option Addr) (cap : Nat) (vs : List Vc.V), Few vs → (∀ v ∈ vs, v.past.length ≤ 100000) → vs.length ≤ cap → ∀ w, SV w a vs → Calls Try.prog 28 #[.slice a vs.length cap] w (MadeV All w (Vc.live vs))
  wins : ∀ (v u : Vc.V) (r q : Option Addr) (c d : Nat), v.past.length ≤ c → u.past.length ≤ d → ∀ w, Sl w r v.past → Sl w q u.past → Calls Try.prog 30 #[.agg (verL v r c).toArray, .agg (verL u q d).toArray] w fun e w' => e = .returned (.bool (winsV v u)) ∧ Below w.heap.size w w'
  sync : ∀ (O : Nat → Prop) (ra rb : Option Addr) (ca cb : Nat) (a b : List Vc.V), Few a → Few b → a.length ≤ ca → b.length ≤ cb → ∀ w, (∀ g, w.heap.size ≤ g → O g) → SV w ra a → SV w rb b → Prov O w ra a → Prov O w rb b → Calls Try.prog 32 #[.slice ra a.length ca, .slice rb b.length cb] w (Synced O a b w)
  same : ∀ (ra rb : Option Addr) (ca cb : Nat) (a b : List Vc.V), Few a → Few b → a.length ≤ ca → b.length ≤ cb → ∀ w, SV w ra a → SV w rb b → ∀ D : Bool, (D = true ↔ a = b) → Calls Try.prog 34 #[.slice ra a.length ca, .slice rb b.length cb] w fun e w' => e = .returned (.bool D) ∧ Below w.heap.size w w'

theorem few_leaf {l : List Vc.V} (h : Vc.LeafOk l) : Few l := ⟨by have := h.len; omega, fun v hv => by have := Vc.vec_len (h.up.mem hv).1.past; omega⟩
theorem few_sync {a b s : List Vc.V} (h1 : Vc.checkLeaf a = 0 ∧ Vc.checkLeaf b = 0 → Vc.IsSync a b s) (h2 : ¬ (Vc.checkLeaf a = 0 ∧ Vc.checkLeaf b = 0) → s = []) : Few s ∧ Vc.LeafOk s := by
  have hl : Vc.LeafOk s := by
    by_cases h : Vc.checkLeaf a = 0 ∧ Vc.checkLeaf b = 0
    · exact (h1 h).leaf
    · rw [h2 h]; exact Vc.leaf_nil
  exact ⟨few_leaf hl, hl⟩
end Go.Proofs.Ytbghekolfcakeaa

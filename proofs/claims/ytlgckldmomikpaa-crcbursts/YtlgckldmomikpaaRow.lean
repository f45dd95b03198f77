/-
  A row of bytes in a block of the call's own: its cells, a store into it, its text.
-/
import Derived.Test.YtlgckldmomikpaaOpen
import Derived.Deep.OwnRows
namespace Go.Proofs.Ytlgckldmomikpaa
open Go.RowKit

def byteVal (b : UInt8) : Value := .int .u8 (b.toNat : Int)
def Rowed (W : World) (B : Nat) (bs : List UInt8) : Prop := W.heap[B]? = some (.cells (bs.map byteVal).toArray 5 (0, 0))

theorem Rowed.cell {W : World} {B : Nat} {bs : List UInt8} (h : Rowed W B bs) (k : Nat) (hk : k < bs.length) : W.cell? ⟨B, k, none⟩ = some (.int .u8 (bs[k].toNat : Int)) := by
  simp [World.cell?, show W.heap[B]? = _ from h, hk, byteVal]
theorem Rowed.frozen {W : World} {B : Nat} {bs : List UInt8} (h : Rowed W B bs) (k : Nat) : W.frozen? ⟨B, k, none⟩ = false := by
  simp [World.frozen?, show W.heap[B]? = _ from h]
theorem Rowed.set {W : World} {B : Nat} {bs : List UInt8} (h : Rowed W B bs) (k : Nat) (b : UInt8) : Rowed (W.setCell ⟨B, k, none⟩ (.int .u8 (b.toNat : Int))) B (bs.set k b) := by
  obtain ⟨hlt, hk⟩ := Array.getElem?_eq_some_iff.1 h
  show (W.heap.modify B _)[B]? = _
  rw [Array.getElem?_eq_getElem (by rw [Array.size_modify]; exact hlt), Array.getElem_modify_self, hk]
  simp [byteVal, List.map_set]
theorem Rowed.below {W W' : World} {n B : Nat} {bs : List UInt8} (h : Rowed W B bs) (hb : Below n W W') (hn : B < n) : Rowed W' B bs := (hb.block B hn).trans h
theorem Rowed.new (W : World) (n : Nat) : Rowed (W.alloc (.cells (madeCells #[.int .u8 0] n) 5)) W.heap.size (List.replicate n 0) := by
  refine (World.alloc_heap_new W _).trans ?_
  congr 2
  apply Array.ext
  · simp [madeCells]
  · intro i h1 h2
    simp [madeCells, byteVal, Nat.mod_one]
theorem Rowed.text {W : World} {B : Nat} {bs : List UInt8} (h : Rowed W B bs) (cap : Nat) :
    (convert 36 9 (.slice (some ⟨B, 0, none⟩) bs.length cap)).run Try.prog W = .ok (.string ⟨bs.toArray⟩) W := by
  refine run_convert_bytes_back W 36 9 5 ⟨B, 0, none⟩ cap bs Try.underlying36 Try.underlying5 Try.underlying9 fun j hj => ?_
  have e3 : (⟨B, 0, none⟩ : Addr).add j = ⟨B, j, none⟩ := by simp [Addr.add]; exact fun h => h.symm
  rw [e3]
  exact h.cell j hj

theorem info5 : (Try.prog.info? 5).map (fun i => (i.zero, i.size, i.bytes)) = some (some (.int .u8 0), 1, 1) := by kernel_rfl

theorem run_min4 (a b c n : Nat) (h1 : n ≤ a) (h2 : n ≤ b) (h3 : n ≤ c) (h4 : n ≤ 2000) (h5 : n = a ∨ n = b ∨ n = c ∨ n = 2000) (w : World) :
    (Builtin.min_ #[3, 3, 3, 3] 3 #[.int .i64 (a : Int), .int .i64 (b : Int), .int .i64 (c : Int), .int .i64 2000]).run Try.prog w = .ok (.int .i64 (n : Int)) w := by
  have e : (n : Int) = min (min (min (a : Int) b) c) 2000 := by omega
  rw [e]
  simp [Builtin.min_, Builtin.min2]
  omega
end Go.Proofs.Ytlgckldmomikpaa

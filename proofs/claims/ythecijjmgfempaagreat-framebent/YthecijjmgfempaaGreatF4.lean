/-
  The message of a frame: the program's Open.
-/
import Derived.Test.YthecijjmgfempaaGreatF0
namespace Go.Proofs.YthecijjmgfempaaGreat
open Go.RowKit

theorem oZ_lit (l : List UInt8) : oZ l = [.string (str l), .int .i64 0, .int .i64 0, .int .i64 0, .int .i64 0, .bool false, .string ⟨#[]⟩, .int .u8 0, .int .u8 0, .int .u8 0, .int .u8 0, .int .u8 0, .int .u8 0, .int .u8 0, .int .u8 0, .int .u8 0, .int .u8 0, .int .u8 0, .int .u8 0, .int .u8 0, .int .u8 0, .int .u8 0, .int .u8 0, .int .u8 0, .int .u8 0, .int .u8 0, .int .u8 0, .int .u8 0, .int .u8 0, .int .u8 0, .int .u8 0, .int .u8 0, .int .u8 0, .int .u8 0, .int .u8 0, .int .u8 0, .int .u8 0, .int .u8 0, .int .u8 0, .slice none 0 0, .slice none 0 0, .string ⟨#[]⟩] := by
  show Value.string (str l) :: mZ = _
  rw [mZ_lit]
theorem fun_at (P : Value) (j : Nat) (hj : j < 7) : ([.func (.func 12) #[P] #[], .func (.func 13) #[P] #[], .func (.func 14) #[P] #[], .func (.func 15) #[P] #[], .func (.func 16) #[P] #[], .func (.func 17) #[P] #[], .func (.func 18) #[P] #[]] : List Value)[j]? = some (.func (.func (12 + j)) #[P] #[]) := by
  have hc : j = 0 ∨ j = 1 ∨ j = 2 ∨ j = 3 ∨ j = 4 ∨ j = 5 ∨ j = 6 := by omega
  rcases hc with rfl | rfl | rfl | rfl | rfl | rfl | rfl <;> rfl
theorem calls_at12 : ∀ (args : Array Value) (w : World), (callFunc 12 args).run Tryz.prog w = .ok (.enter 12 args) w := fun _ _ => by kernel_rfl
theorem calls_at13 : ∀ (args : Array Value) (w : World), (callFunc 13 args).run Tryz.prog w = .ok (.enter 13 args) w := fun _ _ => by kernel_rfl
theorem calls_at14 : ∀ (args : Array Value) (w : World), (callFunc 14 args).run Tryz.prog w = .ok (.enter 14 args) w := fun _ _ => by kernel_rfl
theorem calls_at15 : ∀ (args : Array Value) (w : World), (callFunc 15 args).run Tryz.prog w = .ok (.enter 15 args) w := fun _ _ => by kernel_rfl
theorem calls_at16 : ∀ (args : Array Value) (w : World), (callFunc 16 args).run Tryz.prog w = .ok (.enter 16 args) w := fun _ _ => by kernel_rfl
theorem calls_at17 : ∀ (args : Array Value) (w : World), (callFunc 17 args).run Tryz.prog w = .ok (.enter 17 args) w := fun _ _ => by kernel_rfl
theorem calls_at18 : ∀ (args : Array Value) (w : World), (callFunc 18 args).run Tryz.prog w = .ok (.enter 18 args) w := fun _ _ => by kernel_rfl
theorem calls_at (j : Nat) (hj : j < 7) : ∀ (args : Array Value) (w : World), (callFunc (12 + j) args).run Tryz.prog w = .ok (.enter (12 + j) args) w := by
  have hc : j = 0 ∨ j = 1 ∨ j = 2 ∨ j = 3 ∨ j = 4 ∨ j = 5 ∨ j = 6 := by omega
  rcases hc with rfl | rfl | rfl | rfl | rfl | rfl | rfl
  · exact calls_at12
  · exact calls_at13
  · exact calls_at14
  · exact calls_at15
  · exact calls_at16
  · exact calls_at17
  · exact calls_at18
set_option maxRecDepth 100000 in
set_option maxHeartbeats 2000000 in
theorem open_any (l : List UInt8) (hl : l.length ≤ 40000000) (w : World) : Calls Tryz.prog 7 #[.string (str l)] w (ReadMade w (openF l)) := by
  have hmf : ∀ (fn : Fn) (first cap : Array Value) (w : World), (Instr.makeFunc fn first cap).run Tryz.prog w = .ok (.func fn first cap) w := fun _ _ _ _ => rfl
  have HB2 := hide ((below_alloc' (w := w) (.cells #[.int .i64 0, .int .i64 0, .int .i64 0, .int .i64 0, .bool false, .string ⟨#[]⟩, .int .u8 0, .int .u8 0, .int .u8 0, .int .u8 0, .int .u8 0, .int .u8 0, .int .u8 0, .int .u8 0, .int .u8 0, .int .u8 0, .int .u8 0, .int .u8 0, .int .u8 0, .int .u8 0, .int .u8 0, .int .u8 0, .int .u8 0, .int .u8 0, .int .u8 0, .int .u8 0, .int .u8 0, .int .u8 0, .int .u8 0, .int .u8 0, .int .u8 0, .int .u8 0, .int .u8 0, .int .u8 0, .int .u8 0, .int .u8 0, .int .u8 0, .int .u8 0, .slice none 0 0, .slice none 0 0, .string ⟨#[]⟩] 28)).alloc (by simp) (.cells #[.string ⟨#[]⟩, .int .i64 0, .int .i64 0, .int .i64 0, .int .i64 0, .bool false, .string ⟨#[]⟩, .int .u8 0, .int .u8 0, .int .u8 0, .int .u8 0, .int .u8 0, .int .u8 0, .int .u8 0, .int .u8 0, .int .u8 0, .int .u8 0, .int .u8 0, .int .u8 0, .int .u8 0, .int .u8 0, .int .u8 0, .int .u8 0, .int .u8 0, .int .u8 0, .int .u8 0, .int .u8 0, .int .u8 0, .int .u8 0, .int .u8 0, .int .u8 0, .int .u8 0, .int .u8 0, .int .u8 0, .int .u8 0, .int .u8 0, .int .u8 0, .int .u8 0, .int .u8 0, .slice none 0 0, .slice none 0 0, .string ⟨#[]⟩] 44))
  have HZ0 : Hid (VRow ((w.alloc (.cells #[.int .i64 0, .int .i64 0, .int .i64 0, .int .i64 0, .bool false, .string ⟨#[]⟩, .int .u8 0, .int .u8 0, .int .u8 0, .int .u8 0, .int .u8 0, .int .u8 0, .int .u8 0, .int .u8 0, .int .u8 0, .int .u8 0, .int .u8 0, .int .u8 0, .int .u8 0, .int .u8 0, .int .u8 0, .int .u8 0, .int .u8 0, .int .u8 0, .int .u8 0, .int .u8 0, .int .u8 0, .int .u8 0, .int .u8 0, .int .u8 0, .int .u8 0, .int .u8 0, .int .u8 0, .int .u8 0, .int .u8 0, .int .u8 0, .int .u8 0, .int .u8 0, .slice none 0 0, .slice none 0 0, .string ⟨#[]⟩] 28)).alloc (.cells #[.string ⟨#[]⟩, .int .i64 0, .int .i64 0, .int .i64 0, .int .i64 0, .bool false, .string ⟨#[]⟩, .int .u8 0, .int .u8 0, .int .u8 0, .int .u8 0, .int .u8 0, .int .u8 0, .int .u8 0, .int .u8 0, .int .u8 0, .int .u8 0, .int .u8 0, .int .u8 0, .int .u8 0, .int .u8 0, .int .u8 0, .int .u8 0, .int .u8 0, .int .u8 0, .int .u8 0, .int .u8 0, .int .u8 0, .int .u8 0, .int .u8 0, .int .u8 0, .int .u8 0, .int .u8 0, .int .u8 0, .int .u8 0, .int .u8 0, .int .u8 0, .int .u8 0, .int .u8 0, .slice none 0 0, .slice none 0 0, .string ⟨#[]⟩] 44)) w.heap.size 28 mZ) := hide (by rw [mZ_lit]; exact (VRow.new w 28 [.int .i64 0, .int .i64 0, .int .i64 0, .int .i64 0, .bool false, .string ⟨#[]⟩, .int .u8 0, .int .u8 0, .int .u8 0, .int .u8 0, .int .u8 0, .int .u8 0, .int .u8 0, .int .u8 0, .int .u8 0, .int .u8 0, .int .u8 0, .int .u8 0, .int .u8 0, .int .u8 0, .int .u8 0, .int .u8 0, .int .u8 0, .int .u8 0, .int .u8 0, .int .u8 0, .int .u8 0, .int .u8 0, .int .u8 0, .int .u8 0, .int .u8 0, .int .u8 0, .int .u8 0, .int .u8 0, .int .u8 0, .int .u8 0, .int .u8 0, .int .u8 0, .slice none 0 0, .slice none 0 0, .string ⟨#[]⟩]).alloc _)
  have HZ1 : Hid (VRow ((w.alloc (.cells #[.int .i64 0, .int .i64 0, .int .i64 0, .int .i64 0, .bool false, .string ⟨#[]⟩, .int .u8 0, .int .u8 0, .int .u8 0, .int .u8 0, .int .u8 0, .int .u8 0, .int .u8 0, .int .u8 0, .int .u8 0, .int .u8 0, .int .u8 0, .int .u8 0, .int .u8 0, .int .u8 0, .int .u8 0, .int .u8 0, .int .u8 0, .int .u8 0, .int .u8 0, .int .u8 0, .int .u8 0, .int .u8 0, .int .u8 0, .int .u8 0, .int .u8 0, .int .u8 0, .int .u8 0, .int .u8 0, .int .u8 0, .int .u8 0, .int .u8 0, .int .u8 0, .slice none 0 0, .slice none 0 0, .string ⟨#[]⟩] 28)).alloc (.cells #[.string ⟨#[]⟩, .int .i64 0, .int .i64 0, .int .i64 0, .int .i64 0, .bool false, .string ⟨#[]⟩, .int .u8 0, .int .u8 0, .int .u8 0, .int .u8 0, .int .u8 0, .int .u8 0, .int .u8 0, .int .u8 0, .int .u8 0, .int .u8 0, .int .u8 0, .int .u8 0, .int .u8 0, .int .u8 0, .int .u8 0, .int .u8 0, .int .u8 0, .int .u8 0, .int .u8 0, .int .u8 0, .int .u8 0, .int .u8 0, .int .u8 0, .int .u8 0, .int .u8 0, .int .u8 0, .int .u8 0, .int .u8 0, .int .u8 0, .int .u8 0, .int .u8 0, .int .u8 0, .slice none 0 0, .slice none 0 0, .string ⟨#[]⟩] 44)) (w.heap.size + 1) 44 [.string ⟨#[]⟩, .int .i64 0, .int .i64 0, .int .i64 0, .int .i64 0, .bool false, .string ⟨#[]⟩, .int .u8 0, .int .u8 0, .int .u8 0, .int .u8 0, .int .u8 0, .int .u8 0, .int .u8 0, .int .u8 0, .int .u8 0, .int .u8 0, .int .u8 0, .int .u8 0, .int .u8 0, .int .u8 0, .int .u8 0, .int .u8 0, .int .u8 0, .int .u8 0, .int .u8 0, .int .u8 0, .int .u8 0, .int .u8 0, .int .u8 0, .int .u8 0, .int .u8 0, .int .u8 0, .int .u8 0, .int .u8 0, .int .u8 0, .int .u8 0, .int .u8 0, .int .u8 0, .slice none 0 0, .slice none 0 0, .string ⟨#[]⟩]) := hide (VRow.newAt (by simp))
  have HSZ : Hid (((w.alloc (.cells #[.int .i64 0, .int .i64 0, .int .i64 0, .int .i64 0, .bool false, .string ⟨#[]⟩, .int .u8 0, .int .u8 0, .int .u8 0, .int .u8 0, .int .u8 0, .int .u8 0, .int .u8 0, .int .u8 0, .int .u8 0, .int .u8 0, .int .u8 0, .int .u8 0, .int .u8 0, .int .u8 0, .int .u8 0, .int .u8 0, .int .u8 0, .int .u8 0, .int .u8 0, .int .u8 0, .int .u8 0, .int .u8 0, .int .u8 0, .int .u8 0, .int .u8 0, .int .u8 0, .int .u8 0, .int .u8 0, .int .u8 0, .int .u8 0, .int .u8 0, .int .u8 0, .slice none 0 0, .slice none 0 0, .string ⟨#[]⟩] 28)).alloc (.cells #[.string ⟨#[]⟩, .int .i64 0, .int .i64 0, .int .i64 0, .int .i64 0, .bool false, .string ⟨#[]⟩, .int .u8 0, .int .u8 0, .int .u8 0, .int .u8 0, .int .u8 0, .int .u8 0, .int .u8 0, .int .u8 0, .int .u8 0, .int .u8 0, .int .u8 0, .int .u8 0, .int .u8 0, .int .u8 0, .int .u8 0, .int .u8 0, .int .u8 0, .int .u8 0, .int .u8 0, .int .u8 0, .int .u8 0, .int .u8 0, .int .u8 0, .int .u8 0, .int .u8 0, .int .u8 0, .int .u8 0, .int .u8 0, .int .u8 0, .int .u8 0, .int .u8 0, .int .u8 0, .slice none 0 0, .slice none 0 0, .string ⟨#[]⟩] 44)).heap.size = w.heap.size + 2) := hide (by simp)
  have HO : Hid (∀ v ∈ ([.string (str l), .int .i64 0, .int .i64 0, .int .i64 0, .int .i64 0, .bool false, .string ⟨#[]⟩, .int .u8 0, .int .u8 0, .int .u8 0, .int .u8 0, .int .u8 0, .int .u8 0, .int .u8 0, .int .u8 0, .int .u8 0, .int .u8 0, .int .u8 0, .int .u8 0, .int .u8 0, .int .u8 0, .int .u8 0, .int .u8 0, .int .u8 0, .int .u8 0, .int .u8 0, .int .u8 0, .int .u8 0, .int .u8 0, .int .u8 0, .int .u8 0, .int .u8 0, .int .u8 0, .int .u8 0, .int .u8 0, .int .u8 0, .int .u8 0, .int .u8 0, .int .u8 0, .slice none 0 0, .slice none 0 0, .string ⟨#[]⟩] : List Value), v.oneCell' = true) := hide (by rw [← oZ_lit]; intro v hv; rcases List.mem_cons.1 hv with rfl | hv; exact rfl; exact mZ_one v hv)
  obtain ⟨A, hA⟩ : ∃ A, openF l = A := ⟨_, rfl⟩
  have HA := hide hA
  have HFW : Hid (FewM A.1) := hide (by rw [← hA]; exact openF_few l)
  have HL := hide hl
  rw [hA]
  clear hA hl
  go_enter Tryz.func7, Tryz.ntmps7
  go_wp2_with ((with_reducible refine at44 ?_); (refine store_row (by rfl) 44 (.tmp 4) (.tmp 10) (by rfl) (w.heap.size + 1) [.string (str l), .int .i64 0, .int .i64 0, .int .i64 0, .int .i64 0, .bool false, .string ⟨#[]⟩, .int .u8 0, .int .u8 0, .int .u8 0, .int .u8 0, .int .u8 0, .int .u8 0, .int .u8 0, .int .u8 0, .int .u8 0, .int .u8 0, .int .u8 0, .int .u8 0, .int .u8 0, .int .u8 0, .int .u8 0, .int .u8 0, .int .u8 0, .int .u8 0, .int .u8 0, .int .u8 0, .int .u8 0, .int .u8 0, .int .u8 0, .int .u8 0, .int .u8 0, .int .u8 0, .int .u8 0, .int .u8 0, .int .u8 0, .int .u8 0, .int .u8 0, .int .u8 0, .slice none 0 0, .slice none 0 0, .string ⟨#[]⟩] (by rfl) (by rfl) 44 [.string ⟨#[]⟩, .int .i64 0, .int .i64 0, .int .i64 0, .int .i64 0, .bool false, .string ⟨#[]⟩, .int .u8 0, .int .u8 0, .int .u8 0, .int .u8 0, .int .u8 0, .int .u8 0, .int .u8 0, .int .u8 0, .int .u8 0, .int .u8 0, .int .u8 0, .int .u8 0, .int .u8 0, .int .u8 0, .int .u8 0, .int .u8 0, .int .u8 0, .int .u8 0, .int .u8 0, .int .u8 0, .int .u8 0, .int .u8 0, .int .u8 0, .int .u8 0, .int .u8 0, .int .u8 0, .int .u8 0, .int .u8 0, .int .u8 0, .int .u8 0, .int .u8 0, .int .u8 0, .slice none 0 0, .slice none 0 0, .string ⟨#[]⟩] (unhide HZ1) 42 size44 rfl rfl (unhide HO) ?_); intro w1 ho1 hr1; rw [← oZ_lit] at hr1; have HO1 := hide ho1; have HR1 := hide hr1; clear ho1 hr1)
  have HB := hide (((unhide HB2).trans ((unhide HO1).below (by simp))).trans ((below_alloc' (w := w1) (.cells #[.func (.func 12) #[.pointer (some ⟨w.heap.size + 1, 0, none⟩)] #[], .func (.func 13) #[.pointer (some ⟨w.heap.size + 1, 0, none⟩)] #[], .func (.func 14) #[.pointer (some ⟨w.heap.size + 1, 0, none⟩)] #[], .func (.func 15) #[.pointer (some ⟨w.heap.size + 1, 0, none⟩)] #[], .func (.func 16) #[.pointer (some ⟨w.heap.size + 1, 0, none⟩)] #[], .func (.func 17) #[.pointer (some ⟨w.heap.size + 1, 0, none⟩)] #[], .func (.func 18) #[.pointer (some ⟨w.heap.size + 1, 0, none⟩)] #[]] 45)).mono (by have h := (unhide HO1).size; have h2 := unhide HSZ; omega)))
  go_loopw [7, 8, 21] (fun _ _ i wr => ∃ j : Nat, j ≤ 7 ∧ i = .int .i64 j ∧ Beside (· = w.heap.size + 1) (w1.alloc (.cells #[.func (.func 12) #[.pointer (some ⟨w.heap.size + 1, 0, none⟩)] #[], .func (.func 13) #[.pointer (some ⟨w.heap.size + 1, 0, none⟩)] #[], .func (.func 14) #[.pointer (some ⟨w.heap.size + 1, 0, none⟩)] #[], .func (.func 15) #[.pointer (some ⟨w.heap.size + 1, 0, none⟩)] #[], .func (.func 16) #[.pointer (some ⟨w.heap.size + 1, 0, none⟩)] #[], .func (.func 17) #[.pointer (some ⟨w.heap.size + 1, 0, none⟩)] #[], .func (.func 18) #[.pointer (some ⟨w.heap.size + 1, 0, none⟩)] #[]] 45)) wr ∧ At (w.heap.size + 1) (w.heap.size + 3) A j wr) (fun _ _ i _ => 7 - (intOf i).toNat)
  case atStart => exact ⟨0, Nat.zero_le _, rfl, Beside.refl _ _, Or.inl ⟨by omega, l, unhide HA, unhide HL, (unhide HR1).alloc _⟩⟩
  case round =>
    obtain ⟨j, hj, rfl, hbe, hat⟩ := hrel
    have HBE := hide hbe
    have HAT := hide hat
    have HS1 : Hid (w1.heap.size = w.heap.size + 2) := hide (by have h := (unhide HO1).size; have h2 := unhide HSZ; omega)
    have HR0 := hide (((unhide HZ0).only (unhide HO1) (by omega)).alloc (.cells #[.func (.func 12) #[.pointer (some ⟨w.heap.size + 1, 0, none⟩)] #[], .func (.func 13) #[.pointer (some ⟨w.heap.size + 1, 0, none⟩)] #[], .func (.func 14) #[.pointer (some ⟨w.heap.size + 1, 0, none⟩)] #[], .func (.func 15) #[.pointer (some ⟨w.heap.size + 1, 0, none⟩)] #[], .func (.func 16) #[.pointer (some ⟨w.heap.size + 1, 0, none⟩)] #[], .func (.func 17) #[.pointer (some ⟨w.heap.size + 1, 0, none⟩)] #[], .func (.func 18) #[.pointer (some ⟨w.heap.size + 1, 0, none⟩)] #[]] 45) |>.beside hbe (by omega))
    clear hbe hat
    by_cases hlt : j < 7
    · have x0 : wr.cell? ⟨w1.heap.size, j, none⟩ = some (.func (.func (12 + j)) #[.pointer (some ⟨w.heap.size + 1, 0, none⟩)] #[]) := ((VRow.new w1 45 [.func (.func 12) #[.pointer (some ⟨w.heap.size + 1, 0, none⟩)] #[], .func (.func 13) #[.pointer (some ⟨w.heap.size + 1, 0, none⟩)] #[], .func (.func 14) #[.pointer (some ⟨w.heap.size + 1, 0, none⟩)] #[], .func (.func 15) #[.pointer (some ⟨w.heap.size + 1, 0, none⟩)] #[], .func (.func 16) #[.pointer (some ⟨w.heap.size + 1, 0, none⟩)] #[], .func (.func 17) #[.pointer (some ⟨w.heap.size + 1, 0, none⟩)] #[], .func (.func 18) #[.pointer (some ⟨w.heap.size + 1, 0, none⟩)] #[]]).beside (unhide HBE) (by have := unhide HS1; omega)).cell j _ (fun_at _ j hlt)
      have KN := hide (step_next (O := w.heap.size + 1) (n := w.heap.size + 3) (A := A) (w := wr) (j := j) (by omega) (by have h := (unhide HBE).size; have h2 := unhide HS1; have h3 : (w1.alloc (.cells #[.func (.func 12) #[.pointer (some ⟨w.heap.size + 1, 0, none⟩)] #[], .func (.func 13) #[.pointer (some ⟨w.heap.size + 1, 0, none⟩)] #[], .func (.func 14) #[.pointer (some ⟨w.heap.size + 1, 0, none⟩)] #[], .func (.func 15) #[.pointer (some ⟨w.heap.size + 1, 0, none⟩)] #[], .func (.func 16) #[.pointer (some ⟨w.heap.size + 1, 0, none⟩)] #[], .func (.func 17) #[.pointer (some ⟨w.heap.size + 1, 0, none⟩)] #[], .func (.func 18) #[.pointer (some ⟨w.heap.size + 1, 0, none⟩)] #[]] 45)).heap.size = w1.heap.size + 1 := (by simp); omega) (unhide HAT))
      have hcf := calls_at j hlt
      generalize 12 + j = F at x0 KN hcf
      go_wp2_with fail
      refine (unhide KN).mono ?_
      rintro e w2 ⟨r, rfl, hb, g1, g2⟩
      have HBE2 := hide ((unhide HBE).trans hb)
      have HR02 := hide ((unhide HR0).beside hb (by omega))
      have HG1 := hide g1
      have HG2 := hide g2
      clear hb g1 g2 x0 KN
      by_cases hr : r = 0
      · subst hr
        have HN := hide (unhide HG2 rfl)
        clear HG1 HG2
        go_wp2_with fail
        go_roundw
        case rel => exact ⟨j + 1, by omega, by go_num, unhide HBE2, unhide HN⟩
        case measure => simp [intOf]; omega
      · have hne : (r != 0) = true := bne_iff_ne.2 hr
        have hA := unhide HG1 hr
        subst hA
        go_wp2_with ((with_reducible refine atS27 ?_); (refine store_row (by rfl) 28 (.tmp 2) (.tmp 29) (by rfl) w.heap.size [.int .i64 0, .int .i64 0, .int .i64 0, .int .i64 0, .bool false, .string ⟨#[]⟩, .int .u8 0, .int .u8 0, .int .u8 0, .int .u8 0, .int .u8 0, .int .u8 0, .int .u8 0, .int .u8 0, .int .u8 0, .int .u8 0, .int .u8 0, .int .u8 0, .int .u8 0, .int .u8 0, .int .u8 0, .int .u8 0, .int .u8 0, .int .u8 0, .int .u8 0, .int .u8 0, .int .u8 0, .int .u8 0, .int .u8 0, .int .u8 0, .int .u8 0, .int .u8 0, .int .u8 0, .int .u8 0, .int .u8 0, .int .u8 0, .int .u8 0, .int .u8 0, .slice none 0 0, .slice none 0 0, .string ⟨#[]⟩] (by rfl) (by rfl) 28 mZ (unhide HR02) 41 sizeM rfl mZ_len (by rw [← mZ_lit]; exact mZ_one) ?_); intro w9 ho9 hr9; have HO9 := hide ho9; have HR9 := hide hr9; clear ho9 hr9)
        refine bodyPost_ret (v := .tuple #[.agg (mL zeroM none 0 none 0).toArray, .int .i64 r]) ?_ rfl ⟨none, 0, none, 0, rfl, Fresh.nil _ _, RProv.none _ _ _, Sl.none _ _, RL.none _ _, ?_⟩
        · have h9 := unhide HR9
          rw [← mZ_lit] at h9
          exact results_msg7 _ _ w.heap.size _ _ rfl rfl h9 mZ_len
        · exact ((unhide HB).trans ((unhide HBE2).below (unhide HB).size (by rintro g rfl; omega))).trans ((unhide HO9).below (Nat.le_refl _))
    · obtain rfl : j = 7 := by omega
      obtain ⟨h0, lz, a, c, b, d, hv, h1, h2, h3, h4⟩ : A.2 = 0 ∧ ∃ l a c b d, VRow wr (w.heap.size + 1) 44 (oL l A.1 a c b d) ∧ Fresh (w.heap.size + 3) a A.1.ctx ∧ RProv (fun g => w.heap.size + 3 ≤ g) wr b A.1.rows ∧ Sl wr a A.1.ctx ∧ RL wr b A.1.rows := by
        rcases unhide HAT with ⟨h6, _⟩ | ⟨_, h0, h⟩
        · omega
        · exact ⟨h0, h⟩
      obtain ⟨m, E⟩ := A
      dsimp only at h0 hv h1 h2 h3 h4
      subst h0
      have HV := hide hv
      have HX1 := hide h1
      have HX2 := hide h2
      have HX3 := hide h3
      have HX4 := hide h4
      have HLN := hide (mL_len (unhide HFW).root a c b d)
      have HON := hide (mL_one m a c b d)
      clear hv h1 h2 h3 h4
      go_wp2_with (first
        | ((with_reducible refine at27 ?_); (refine load_found (by rfl) (.tmp 32) (by rfl) (w.heap.size + 1) (by rfl) (mL m a c b d) (unhide HV) (unhide HLN) ?_))
        | ((with_reducible refine atS27 ?_); (refine store_row (by rfl) 28 (.tmp 2) (.tmp 33) (by rfl) w.heap.size (mL m a c b d) (by rfl) (by rfl) 28 mZ (unhide HR0) 41 sizeM (unhide HLN) mZ_len (unhide HON) ?_); intro w9 ho9 hr9; have HO9 := hide ho9; have HR9 := hide hr9; clear ho9 hr9))
      refine bodyPost_ret (v := .tuple #[.agg (mL m a c b d).toArray, .int .i64 0]) ?_ rfl ⟨a, c, b, d, rfl, (unhide HX1).weak (by omega), ((unhide HX2).beside (unhide HX4) (unhide HO9).beside (by omega)).weak (fun g hg => by have h8 : w.heap.size + 3 ≤ g := hg; omega), ?_, ?_, ?_⟩
      · exact results_msg7 _ _ w.heap.size _ _ rfl rfl (unhide HR9) (unhide HLN)
      · exact (unhide HX3).beside (unhide HO9).beside ((unhide HX1).ne (by omega))
      · exact (unhide HX4).beside (unhide HX2) (unhide HO9).beside (by omega)
      · exact ((unhide HB).trans ((unhide HBE).below (unhide HB).size (by rintro g rfl; omega))).trans ((unhide HO9).below (Nat.le_refl _))
end Go.Proofs.YthecijjmgfempaaGreat

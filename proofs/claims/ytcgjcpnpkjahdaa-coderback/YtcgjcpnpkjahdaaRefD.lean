/-
  What the document's writer does with a digest; digests in memory.
-/
import Derived.Test.YtcgjcpnpkjahdaaRefW
namespace Go.Proofs.Ytcgjcpnpkjahdaa
open Go.RowKit

theorem size33 : (Try.prog.info? 34).map (·.size) = some 32 := by kernel_rfl
theorem run_build33 (w : World) : (Instr.build 34 #[]).run Try.prog w = .ok (.agg (zero32.map byteVal).toArray) w := by kernel_rfl
theorem one_bytes (bs : List UInt8) : ∀ v ∈ bs.map byteVal, v.oneCell' = true := by
  intro v hv
  obtain ⟨x, _, rfl⟩ := List.mem_map.1 hv
  rfl
theorem mid_set {α : Type} (L S : List α) (k : Nat) (hL : k < L.length) (hS : k < S.length) : (L.take k ++ S.drop k).set k L[k] = L.take (k + 1) ++ S.drop (k + 1) := by
  rw [List.set_append_right _ _ (by simp; omega), List.take_succ_eq_append_getElem hL, List.length_take, Nat.min_eq_left (by omega), Nat.sub_self]
  rw [List.drop_eq_getElem_cons hS, List.set_cons_zero, List.append_assoc, List.singleton_append]
theorem mid_setQ {α : Type} (L S : List α) (k : Nat) (x : α) (hx : L[k]? = some x) (hS : k < S.length) : (L.take k ++ S.drop k).set k x = L.take (k + 1) ++ S.drop (k + 1) := by
  obtain ⟨h, rfl⟩ := List.getElem?_eq_some_iff.1 hx
  exact mid_set L S k h hS
theorem mid_get {α : Type} (L S : List α) (k : Nat) (hL : k ≤ L.length) : (L.take k ++ S.drop k)[k]? = S[k]? := by
  rw [List.getElem?_append_right (by simp; omega)]
  simp [Nat.min_eq_left hL]
theorem str_one (x : UInt8) : (⟨#[x]⟩ : ByteArray) = str [x] := rfl

set_option maxRecDepth 100000 in
set_option maxHeartbeats 400000 in
theorem refDigestW_any (q : Nat) (st : St) (d : List UInt8) (hd : d.length = 32) (hs : st.1.length ≤ 100000000) (w : World) (h : Doc w q 32 st) :
    Calls Try.prog 13 #[.pointer (some ⟨q, 0, none⟩), .agg (d.map byteVal).toArray] w (DocMade q 32 w (wDigest st d) (.tuple #[])) := by
  have KD := hide fun w' (hb : Below w.heap.size w w') => refput_any q st true d (fun _ => by omega) w' (h.after hb)
  unfold wDigest
  clear h
  have HD := hide hd
  have HR0 := hide (VRow.new w 34 (d.map byteVal))
  have HB0 := hide (below_alloc' (w := w) (.cells (d.map byteVal).toArray 34))
  clear hd
  go_enter Try.func13, Try.ntmps13
  go_wp2_with fail
  go_loopw [4, 5] (fun s i wr => ∃ k : Nat, k ≤ 32 ∧ s = .string (str (d.take k)) ∧ i = .int .i64 k ∧ Hid (VRow wr w.heap.size 34 (d.map byteVal) ∧ Below w.heap.size w wr)) (fun _ i _ => 32 - (intOf i).toNat)
  case atStart => exact ⟨0, Nat.zero_le _, rfl, rfl, hide ⟨unhide HR0, unhide HB0⟩⟩
  case round =>
    obtain ⟨k, hk, rfl, rfl, HH⟩ := hrel
    by_cases hlt : k < 32
    · obtain ⟨x, hx⟩ : ∃ x, d[k]? = some x := ⟨_, List.getElem?_eq_getElem (by rw [unhide HD]; exact hlt)⟩
      have x0 : wr.cell? ⟨w.heap.size, k, none⟩ = some (.int .u8 (x.toNat : Int)) := (unhide HH).1.cell k _ (by rw [List.getElem?_map, hx]; rfl)
      have hcv := run_string_one x (x.toNat : Int) rfl
      rw [str_one] at hcv
      have hcat := cat_ok (a := d.take k) (b := [x]) (by rw [List.length_take, unhide HD]; simp; omega)
      have HT : Hid (str (d.take k) ++ str [x] = str (d.take (k + 1))) := hide (by rw [str_append, List.take_add_one, hx]; rfl)
      have HHA : Hid (VRow (wr.alloc (.cells #[.int .u8 (x.toNat : Int)] 5)) w.heap.size 34 (d.map byteVal) ∧ Below w.heap.size w (wr.alloc (.cells #[.int .u8 (x.toNat : Int)] 5))) := hide ⟨(unhide HH).1.alloc _, (unhide HH).2.alloc (unhide HH).2.size _⟩
      clear hx
      go_wp2_with fail
      go_roundw
      case rel => exact ⟨k + 1, by omega, by rw [unhide HT], by go_num, HHA⟩
      case measure => simp [intOf]; omega
    · obtain rfl : k = 32 := by omega
      have ht : d.take 32 = d := List.take_of_length_le (by rw [unhide HD]; exact Nat.le_refl _)
      rw [ht]
      clear ht
      go_wp2_with fail
      refine (unhide KD _ (unhide HH).2).mono ?_
      rintro e w2 hm
      obtain ⟨rfl, h2, h3⟩ := docMade_of (unhide HH).2 hm
      have H2 := hide h2
      have H3 := hide h3
      clear hm h2 h3
      go_wp2_with fail
      go_end0
      exact ⟨rfl, unhide H2, unhide H3⟩
end Go.Proofs.Ytcgjcpnpkjahdaa

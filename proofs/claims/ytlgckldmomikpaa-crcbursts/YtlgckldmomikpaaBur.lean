/-
  What is turned within four bytes is seen.
-/
import Derived.Test.YtlgckldmomikpaaRow
import Derived.Test.YtlgckldmomikpaaTurn
import Derived.Lib.ConvBytes
namespace Go.Proofs.Ytlgckldmomikpaa
open Go.RowKit

def Bytes (W : World) (B : Nat) (bs : List UInt8) : Prop :=
  ∃ cs fz, W.heap[B]? = some (.cells cs 5 fz) ∧ bs.length ≤ fz.1 ∧ ∀ j (h : j < bs.length), cs[j]? = some (.int .u8 (bs[j].toNat : Int))

theorem Bytes.cell {W : World} {B : Nat} {bs : List UInt8} (h : Bytes W B bs) (k : Nat) (hk : k < bs.length) : W.cell? ⟨B, k, none⟩ = some (.int .u8 (bs[k].toNat : Int)) := by
  obtain ⟨cs, fz, h1, h2, h3⟩ := h
  simp [World.cell?, h1, h3 k hk]
theorem Bytes.frozen {W : World} {B : Nat} {bs : List UInt8} (h : Bytes W B bs) (k : Nat) (hk : k < bs.length) : W.frozen? ⟨B, k, none⟩ = false := by
  obtain ⟨cs, ⟨lo, hi⟩, h1, h2, h3⟩ := h
  have h2 : bs.length ≤ lo := h2
  simp [World.frozen?, h1]
  omega
theorem Bytes.set {W : World} {B : Nat} {bs : List UInt8} (h : Bytes W B bs) (k : Nat) (b : UInt8) : Bytes (W.setCell ⟨B, k, none⟩ (.int .u8 (b.toNat : Int))) B (bs.set k b) := by
  obtain ⟨cs, fz, h1, h2, h3⟩ := h
  obtain ⟨hlt, hk⟩ := Array.getElem?_eq_some_iff.1 h1
  refine ⟨cs.setIfInBounds k (.int .u8 (b.toNat : Int)), fz, ?_, by rw [List.length_set]; exact h2, fun j hj => ?_⟩
  · show (W.heap.modify B _)[B]? = _
    rw [Array.getElem?_eq_getElem (by rw [Array.size_modify]; exact hlt), Array.getElem_modify_self, hk]
    simp
  · rw [List.length_set] at hj
    have hc := h3 j hj
    have hcl := (Array.getElem?_eq_some_iff.1 hc).1
    by_cases e : k = j
    · subst e
      rw [Array.getElem?_setIfInBounds_self_of_lt hcl, List.getElem_set_self]
    · rw [Array.getElem?_setIfInBounds_ne e, List.getElem_set_ne e, hc]
theorem Bytes.lt {W : World} {B : Nat} {bs : List UInt8} (h : Bytes W B bs) : B < W.heap.size := by
  obtain ⟨cs, fz, h1, h2, h3⟩ := h
  exact (Array.getElem?_eq_some_iff.1 h1).1
theorem Bytes.text {W : World} {B : Nat} {bs : List UInt8} (h : Bytes W B bs) (cap : Nat) :
    (convert 36 9 (.slice (some ⟨B, 0, none⟩) bs.length cap)).run Try.prog W = .ok (.string ⟨bs.toArray⟩) W := by
  refine run_convert_bytes_back W 36 9 5 ⟨B, 0, none⟩ cap bs Try.underlying36 Try.underlying5 Try.underlying9 fun j hj => ?_
  have e3 : (⟨B, 0, none⟩ : Addr).add j = ⟨B, j, none⟩ := by simp [Addr.add]; exact fun h => h.symm
  rw [e3]
  exact h.cell j hj
theorem Bytes.new (W : World) (s : ByteArray) : Bytes (Go.Lib.bytesWorld W 5 s) W.heap.size s.data.toList := by
  refine ⟨_, _, Go.Lib.bytesWorld_at_new W 5 s, ?_, fun j hj => ?_⟩
  · simp [Go.Lib.bytesCells]
  · have hj' : j < s.size := by simpa using hj
    simp [Go.Lib.bytesCells, Array.getElem?_append, hj']
theorem first_at (a1 : Int) (n : Nat) (hn : n ≤ 3000) : ∃ F : Nat, F ≤ n ∧ wrap64 ((IntKind.u64.wrap a1).tmod ((n : Int) + 4 - 3)) = (F : Int) := by
  rw [IntKind.wrap_u64]
  have h0 : 0 ≤ a1 % 18446744073709551616 := Int.emod_nonneg _ (by decide)
  generalize a1 % 18446744073709551616 = x at h0
  rw [Int.tmod_eq_emod_of_nonneg h0, show (n : Int) + 4 - 3 = (n : Int) + 1 from by omega]
  have h1 := Int.emod_nonneg x (show (n : Int) + 1 ≠ 0 by omega)
  have h2 := Int.emod_lt_of_pos x (show 0 < (n : Int) + 1 by omega)
  refine ⟨(x % ((n : Int) + 1)).toNat, by omega, ?_⟩
  generalize x % ((n : Int) + 1) = y at h1 h2
  rw [Int.toNat_of_nonneg h1]
  simp only [wrap64]
  omega
theorem below_bytes (W : World) (s : ByteArray) : Below W.heap.size W (Go.Lib.bytesWorld W 5 s) :=
  ⟨rfl, rfl, rfl, by rw [Go.Lib.bytesWorld_size]; omega, fun k hk => Go.Lib.bytesWorld_at_old W 5 s k hk⟩

set_option maxRecDepth 100000 in
set_option maxHeartbeats 1000000 in
theorem bur_walk (a0 : ByteArray) (a1 : Int) (m : Nat) (hm : m < 4294967296) (h3 : a0.size ≤ 3000) (w : World) :
    Calls Try.prog 6 #[.string a0, .int .i64 a1, .int .u32 (m : Int)] w fun e w' => e = .returned (.bool true) ∧ Below w.heap.size w w' := by
  go_enter Try.func6, Try.ntmps6
  go_wp2_with fail
  refine (Seal_any _ (by omega) _).mono ?_
  rintro e w1 ⟨rfl, hb1⟩
  obtain ⟨S, hS⟩ : ∃ S, ByteArray.mk (Crc.sealL a0.data.toList).toArray = S := ⟨_, rfl⟩
  have hSd : S.data.toList = Crc.sealL a0.data.toList := by rw [← hS]
  have hSz : S.size = a0.size + 4 := by rw [← hS, ByteArray.size_mk', List.size_toArray]; unfold Crc.sealL; rw [List.length_append, Crc.le_len]; rfl
  rw [hS]
  have HSd := hide hSd
  have HSz := hide hSz
  have hcv : ∀ W : World, (convert 9 36 (.string S)).run Try.prog W = .ok (.slice (some ⟨W.heap.size, 0, none⟩) (a0.size + 4) (grownCap W (a0.size + 4) 0 5)) (Go.Lib.bytesWorld W 5 S) := by
    intro W
    rw [← hSz]
    exact Go.Lib.run_convert_string_bytes W 9 36 5 S Try.underlying9 Try.underlying36 Try.underlying5
  clear hS hSd hSz
  obtain ⟨F, hF, he⟩ := first_at a1 a0.size h3
  have HE := hide he
  clear he
  go_wp2_with fail
  rw [unhide HE]
  clear HE hcv
  go_loopw [9] (fun i wr => ∃ (k : Nat) (bs : List UInt8), k ≤ 4 ∧ i = .int .i64 k ∧ Crc.Turned (Crc.sealL a0.data.toList) F m k bs ∧ Bytes wr w1.heap.size bs ∧ Below w.heap.size w wr) (fun i _ => 4 - (intOf i).toNat)
  case atStart => exact ⟨0, S.data.toList, by omega, rfl, by rw [unhide HSd]; exact Crc.turned_none _ _ _, Bytes.new w1 S, hb1.trans ((below_bytes w1 S).mono hb1.size)⟩
  case round =>
    obtain ⟨k, bs, hk, rfl, htur, hrow, hbl⟩ := hrel
    have hlen : bs.length = a0.size + 4 := by rw [htur.1]; unfold Crc.sealL; rw [List.length_append, Crc.le_len]; simp
    have HT := hide htur
    have HR := hide hrow
    have HB := hide hbl
    by_cases hlt : k < 4
    · obtain ⟨x, hx⟩ : ∃ x, bs[F + k]? = some x := ⟨_, List.getElem?_eq_getElem (by omega)⟩
      have hc : wr.cell? ⟨w1.heap.size, F + k, none⟩ = some (.int .u8 (x.toNat : Int)) := by
        obtain ⟨h, e⟩ := List.getElem?_eq_some_iff.1 hx
        have := hrow.cell (F + k) h
        rw [e] at this
        exact this
      have hf := hrow.frozen (F + k) (by omega)
      have HX := hide hx
      have hex : bits .xor .u8 (x.toNat : Int) ((m : Int) / 2 ^ (8 * k) % 256) = ((x ^^^ Crc.byteAt m k).toNat : Int) := by
        have hd : m / 2 ^ (8 * k) % 256 < 256 := Nat.mod_lt _ (by decide)
        have e1 : ((m : Int) / 2 ^ (8 * k) % 256) = ((m / 2 ^ (8 * k) % 256 : Nat) : Int) := by simp
        have e2 : (Crc.byteAt m k).toNat = m / 2 ^ (8 * k) % 256 := u8_of _ hd
        rw [e1, u8_xor_nat _ _ x.toNat_lt hd, UInt8.toNat_xor, e2]
      have HEX := hide hex
      clear hlen hrow hbl hx htur hex
      go_wp2_with fail
      go_roundw
      case rel =>
        rw [unhide HEX]
        exact ⟨k + 1, bs.set (F + k) (x ^^^ Crc.byteAt m k), by omega, by go_num, Crc.turned_step _ _ _ _ _ _ (unhide HT) (unhide HX), (unhide HR).set _ _, (unhide HB).setCell (p := ⟨w1.heap.size, F + k, none⟩) hb1.size _⟩
      case measure => simp [intOf]; omega
    · have hk4 : k = 4 := by omega
      subst hk4
      have hcv2 : ∀ cap, (convert 36 9 (.slice (some ⟨w1.heap.size, 0, none⟩) (a0.size + 4) cap)).run Try.prog wr = .ok (.string ⟨bs.toArray⟩) wr := by
        intro cap
        have := hrow.text cap
        rwa [hlen] at this
      have hsz : (ByteArray.mk bs.toArray).size ≤ 140737488351232 := by rw [ByteArray.size_mk', List.size_toArray]; omega
      have hn : a0.size + 4 = (ByteArray.mk bs.toArray).size := Eq.symm (by rw [ByteArray.size_mk', List.size_toArray]; exact hlen)
      have HSZ := hide hsz
      have HN := hide hn
      clear hlen hrow hbl htur hsz hn
      by_cases hm0 : m = 0
      · subst hm0
        have hbs := Crc.turned_zero _ _ _ (unhide HT)
        have hq : Sealed (ByteArray.mk bs.toArray).data.toList a0.size := by
          show Sealed bs a0.size
          rw [hbs, ← sealL_iff]
          have e : (Crc.sealL a0.data.toList).take a0.size = a0.data.toList := by
            unfold Crc.sealL
            rw [List.take_left' (by simp)]
          rw [e]
        have hgot : (ByteArray.mk bs.toArray).extract 0 a0.size = a0 := by
          apply ByteArray.ext
          apply Array.toList_inj.1
          rw [ext_data]
          show bs.take a0.size = _
          rw [hbs]
          unfold Crc.sealL
          rw [List.take_left' (by simp)]
        have HQ := hide hq
        have HG := hide hgot
        clear hbs hq hgot
        go_wp2_with fail
        refine (Open_yes _ a0.size (unhide HSZ) (unhide HN) (unhide HQ) _).mono ?_
        rintro e w3 ⟨rfl, hb3⟩
        rw [unhide HG]
        go_wp2_with fail
        refine (awake_any _).mono ?_
        rintro e w5 ⟨rfl, hb5⟩
        go_wp2_with fail
        go_ret
        have h4 := (unhide HB).trans (hb3.mono (unhide HB).size)
        exact ⟨rfl, h4.trans (hb5.mono h4.size)⟩
      · have hmb : ((m : Int) == 0) = false := beq_eq_false_iff_ne.2 (by omega)
        have hq : ¬ Sealed (ByteArray.mk bs.toArray).data.toList a0.size := by
          intro h
          have hs := Crc.turned_seen a0.data.toList F m bs (by simpa using hF) hm hm0 (unhide HT)
          rw [show a0.data.toList.length = a0.size from by simp] at hs
          exact hs h
        have HQ := hide hq
        clear hq hm0
        go_wp2_with fail
        refine (Open_no _ a0.size (unhide HSZ) (unhide HN) (unhide HQ) _).mono ?_
        rintro e w3 ⟨rfl, hb3⟩
        go_wp2_with fail
        refine (awake_any _).mono ?_
        rintro e w5 ⟨rfl, hb5⟩
        go_wp2_with fail
        go_ret
        have h4 := (unhide HB).trans (hb3.mono (unhide HB).size)
        exact ⟨rfl, h4.trans (hb5.mono h4.size)⟩

set_option maxRecDepth 100000 in
set_option maxHeartbeats 1000000 in
theorem bur_great (a0 : ByteArray) (a1 : Int) (m : Int) (h3 : 3000 < a0.size) (w0 : a0.size ≤ maxLen) (w : World) :
    Calls Try.prog 6 #[.string a0, .int .i64 a1, .int .u32 m] w fun e w' => e = .returned (.bool true) ∧ Below w.heap.size w w' := by
  unfold maxLen at w0
  go_enter Try.func6, Try.ntmps6
  go_wp2_with fail
  refine (awake_any _).mono ?_
  rintro e w5 ⟨rfl, hb5⟩
  go_wp2_with fail
  go_ret
  exact ⟨rfl, hb5⟩
end Go.Proofs.Ytlgckldmomikpaa

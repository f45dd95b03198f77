/-
  What the document's padded answers: a text with what stands behind it.
-/
import Derived.Test.YtkdhpnijcgegbaaDoorEnd
import Derived.ArgAppend
import Derived.Maps.AppendAt
import Derived.Lib.ConvBytes
namespace Go.Proofs.YtkdhpnijcgegbaaDoor
open Go.RowKit

/-- A slice of bytes in a block of the call's own, and room behind it. -/
structure Buf (W : World) (base g cap : Nat) (bs : List UInt8) : Prop where
  base : base ≤ g
  fits : bs.length ≤ cap
  lt : g < W.heap.size
  cell : ∀ j b, bs[j]? = some b → W.cell? ⟨g, j, none⟩ = some (byteVal b)
  free : ∀ j, j < cap → (W.cell? ⟨g, j, none⟩).isSome = true ∧ W.frozen? ⟨g, j, none⟩ = false

theorem Buf.below {W W' : World} {base g cap n : Nat} {bs : List UInt8} (h : Buf W base g cap bs) (hb : Below n W W') (hn : g < n) : Buf W' base g cap bs :=
  ⟨h.base, h.fits, Nat.lt_of_lt_of_le h.lt hb.size, fun j b hj => (hb.cell (p := ⟨g, j, none⟩) hn).trans (h.cell j b hj), fun j hj => by rw [hb.cell (p := ⟨g, j, none⟩) hn, hb.frozen (p := ⟨g, j, none⟩) hn]; exact h.free j hj⟩
theorem Buf.only {W W' : World} {base g cap B : Nat} {bs : List UInt8} (h : Buf W base g cap bs) (ho : Only B W W') (hn : g ≠ B) : Buf W' base g cap bs := by
  have hc : ∀ j, W'.cell? ⟨g, j, none⟩ = W.cell? ⟨g, j, none⟩ := fun j => World.cell?_of_block (w := W) (ho.block g hn)
  have hf : ∀ j, W'.frozen? ⟨g, j, none⟩ = W.frozen? ⟨g, j, none⟩ := fun j => World.frozen?_of_block (w := W) (ho.block g hn)
  exact ⟨h.base, h.fits, by rw [ho.size]; exact h.lt, fun j b hj => (hc j).trans (h.cell j b hj), fun j hj => by rw [hc, hf]; exact h.free j hj⟩
theorem Buf.alloc {W : World} {base g cap : Nat} {bs : List UInt8} (h : Buf W base g cap bs) (o : Obj) : Buf (W.alloc o) base g cap bs :=
  h.below ((Below.refl W.heap.size W).alloc (Nat.le_refl _) o) h.lt

theorem Buf.conv (W : World) (s : ByteArray) : Buf (Go.Lib.bytesWorld W 5 s) W.heap.size W.heap.size (grownCap W s.size 0 5) s.data.toList := by
  have hge := grownCap_ge W s.size 0 5
  have hsz : (Go.Lib.bytesCells W 5 s).size = grownCap W s.size 0 5 := by
    simp [Go.Lib.bytesCells]
    have : s.data.size = s.size := rfl
    omega
  refine ⟨Nat.le_refl _, hge, by rw [Go.Lib.bytesWorld_size]; omega, fun j b hj => ?_, fun j hj => ?_⟩
  · have hjl : j < s.size := (List.getElem?_eq_some_iff.1 hj).1
    rw [Go.Lib.bytesWorld_cell W 5 s j hjl, List.getD, hj]
    rfl
  · have h1 : (Go.Lib.bytesCells W 5 s)[j]? = some (Go.Lib.bytesCells W 5 s)[j] := Array.getElem?_eq_getElem (by omega)
    constructor
    · rw [cell_of_row _ _ j _ 5 _ (Go.Lib.bytesWorld_at_new W 5 s), h1]; rfl
    · simp [World.frozen?, Go.Lib.bytesWorld_at_new W 5 s]
      omega

theorem below_conv (W : World) (s : ByteArray) : Below W.heap.size W (Go.Lib.bytesWorld W 5 s) :=
  ⟨rfl, rfl, rfl, by rw [Go.Lib.bytesWorld_size]; omega, fun k hk => Go.Lib.bytesWorld_at_old W 5 s k hk⟩

theorem Buf.owned {W : World} {base : Nat} {v : Value} {bs : List UInt8} (h : W.ownsRow base 5 1 v bs.length (bs.map byteVal)) (h0 : 0 < bs.length) : ∃ g cap, v = .slice (some ⟨g, 0, none⟩) bs.length cap ∧ Buf W base g cap bs := by
  obtain ⟨_, h | ⟨g, cap, cur, rfl, hg, hh, h1, h2, h3, h4⟩⟩ := h
  · omega
  · rw [Nat.mul_one] at h3 h4
    refine ⟨g, cap, rfl, hg, h1, (Array.getElem?_eq_some_iff.1 hh).1, fun j b hj => ?_, fun j hj => ?_⟩
    · have hjl : j < bs.length := (List.getElem?_eq_some_iff.1 hj).1
      rw [cell_of_row W g j cur 5 (0, 0) hh]
      have h5 : (cur.toList.take bs.length)[j]? = (bs.map byteVal)[j]? := by rw [h4]
      rw [List.getElem?_take_of_lt hjl, List.getElem?_map, hj] at h5
      simpa using h5
    · constructor
      · rw [cell_of_row W g j cur 5 (0, 0) hh, Array.getElem?_eq_getElem (by omega)]; rfl
      · exact frozen_of_row W g j cur 5 hh

theorem Buf.room {W : World} {base g cap : Nat} {bs : List UInt8} (h : Buf W base g cap bs) (b : UInt8) (hr : bs.length < cap) : Buf (W.setCell ⟨g, bs.length, none⟩ (byteVal b)) base g cap (bs ++ [b]) := by
  refine ⟨h.base, by simp; omega, by rw [World.size_setCell]; exact h.lt, fun j c hj => ?_, fun j hj => ?_⟩
  · by_cases e : j = bs.length
    · subst e
      obtain ⟨v, hv⟩ := Option.isSome_iff_exists.1 (h.free bs.length hr).1
      rw [World.cell?_setCell_same _ _ _ hv]
      simp at hj
      rw [hj]
    · rw [World.cell?_setCell_other _ _ _ _ (fun h => e (congrArg Addr.off h).symm)]
      have hl : j < (bs ++ [b]).length := (List.getElem?_eq_some_iff.1 hj).1
      simp at hl
      rw [List.getElem?_append_left (by omega)] at hj
      exact h.cell j c hj
  · rw [World.frozen?_setCell]
    refine ⟨?_, (h.free j hj).2⟩
    by_cases e : j = bs.length
    · subst e
      obtain ⟨v, hv⟩ := Option.isSome_iff_exists.1 (h.free bs.length hr).1
      rw [World.cell?_setCell_same _ _ _ hv]
      rfl
    · rw [World.cell?_setCell_other _ _ _ _ (fun h => e (congrArg Addr.off h).symm)]
      exact (h.free j hj).1

theorem push {ops : Array Oper} {rest : List Oper} {o : Oper} {a : Act} {w : World} {Q : Exit → Act → World → Prop} (hgd : o.guard = none) (s x : Operand)
    (ho : o.op = Op.call { callee := Callee.builtin Builtin.append, args := #[s, x], argTypes := #[44, 44] }) (base g cap L : Nat) (bs : List UInt8) (hL : bs.length = L) (hs : a.eval s = .slice (some ⟨g, 0, none⟩) L cap)
    (hB : Buf w base g cap bs) (b : UInt8) (ad : Addr) (hx : a.eval x = .slice (some ad) 1 1) (hc : ∀ j u, [byteVal b][j]? = some u → w.cell? (ad.add j) = some u) (hbase : base ≤ w.heap.size) (hlen : L + 1 ≤ 100000)
    (h : ∀ g' cap' w', Buf w' base g' cap' (bs ++ [b]) → Below base w w' → wpList Tryd.prog ops Q rest (a.put o.dst (.slice (some ⟨g', 0, none⟩) (L + 1) cap')) w') : wpList Tryd.prog ops Q (o :: rest) a w := by
  obtain ⟨i0, hi, hz0, hz1, hz2⟩ := info_parts info5
  subst hL
  refine wpList_append_arg w hgd s x 44 ho 5 i0 (.int .u8 0) 1 1 Tryd.underlying44 hi hz0 hz1 hz2 rfl (by decide) g 0 bs.length cap (bs.map byteVal) hs (by simp) (fun j v hj => ?_) ad 1 1 [byteVal b] hx rfl hc (fun v hv => ?_) (fun hr j hj => ?_) (by unfold maxLen; omega) (by omega) (fun hr => ?_) (fun hr v' w' hown hgr => ?_)
  · rw [Nat.zero_add]
    rw [List.getElem?_map, Option.map_eq_some_iff] at hj
    obtain ⟨c, hc, rfl⟩ := hj
    exact hB.cell j c hc
  · rw [List.mem_singleton] at hv; subst hv; rfl
  · have hj0 : j = 0 := by simpa using hj
    subst hj0
    simpa using hB.free bs.length (by omega)
  · have e : w.setCells g (0 + bs.length * 1) [byteVal b] = w.setCell ⟨g, bs.length, none⟩ (byteVal b) := by
      rw [Nat.zero_add, Nat.mul_one]; rfl
    rw [e]
    exact h g cap _ (hB.room b (by omega)) ((Below.refl base w).setCell (p := ⟨g, bs.length, none⟩) hB.base _)
  · have e : bs.map byteVal ++ [byteVal b] = (bs ++ [b]).map byteVal := by simp
    have el : (bs ++ [b]).length = bs.length + 1 := by simp
    rw [e, ← el] at hown
    obtain ⟨g', cap', rfl, hb⟩ := Buf.owned hown (by simp)
    rw [el]
    exact h g' cap' w' ⟨Nat.le_trans hbase hb.base, hb.fits, hb.lt, hb.cell, hb.free⟩ ((Below.refl base w).grown hgr hbase (fun k hk => by cases hk))

def sliceLen : Value → Nat
  | .slice _ n _ => n
  | _ => 0

theorem rep_more (m : List UInt8) (i : Nat) : (m ++ 128 :: List.replicate i 0) ++ [0] = m ++ 128 :: List.replicate (i + 1) 0 := by
  rw [List.append_assoc, List.cons_append, List.replicate_succ']

theorem be8_more (v i : Nat) (h : i < 8) : (Sha.be8 v).take i ++ [UInt8.ofNat (v / 2 ^ (56 - 8 * i) % 256)] = (Sha.be8 v).take (i + 1) := by
  have hl : i < (Sha.be8 v).length := by rw [Sha.be8_len]; exact h
  rw [List.take_succ_eq_append_getElem hl]
  simp [Sha.be8]

set_option maxRecDepth 100000 in
set_option maxHeartbeats 1000000 in
theorem padded_any (s : ByteArray) (hs : s.size ≤ 10000) (F : List UInt8) (hF : Sha.full s.data.toList = F) (w : World) :
    Calls Tryd.prog 18 #[.string s] w fun e w' => ∃ g cap, e = .returned (.slice (some ⟨g, 0, none⟩) F.length cap) ∧ Buf w' w.heap.size g cap F ∧ Below w.heap.size w w' := by
  have hcv : (convert 9 44 (.string s)).run Tryd.prog w = .ok (.slice (some ⟨w.heap.size, 0, none⟩) s.size (grownCap w s.size 0 5)) (Go.Lib.bytesWorld w 5 s) :=
    Go.Lib.run_convert_string_bytes w 9 44 5 s Tryd.underlying9 Tryd.underlying44 Tryd.underlying5
  have HB0 := hide (Buf.conv w s)
  have HL0 := hide (below_conv w s)
  have HF := hide hF
  obtain ⟨n, hn⟩ : ∃ n, s.size = n := ⟨_, rfl⟩
  obtain ⟨m, hm⟩ : ∃ m, s.data.toList = m := ⟨_, rfl⟩
  have hml : m.length = n := by rw [← hm, ← hn]; rfl
  rw [hn] at hcv HB0 hs
  rw [hm] at HB0 HF
  have HM := hide hml
  generalize Go.Lib.bytesWorld w 5 s = w0 at hcv HB0 HL0
  generalize grownCap w n 0 5 = c0 at hcv HB0
  have h0 := (unhide HL0).size
  obtain ⟨q, hq⟩ : ∃ q, (119 - n % 64) % 64 = q := ⟨_, rfl⟩
  have hq63 : q ≤ 63 := by omega
  have HQ := hide hq
  have HFF : Hid (m ++ 128 :: List.replicate q 0 ++ Sha.be8 (n * 8) = F) := by
    rw [← unhide HF, Sha.full, Sha.pad, hml, hq, List.append_assoc]
    exact hide rfl
  clear hF hm hml hq
  go_enter Tryd.func18, Tryd.ntmps18
  go_wp2_with (first
    | (at_builtin; refine push (by rfl) (.tmp 8) (.tmp 9) (by rfl) w.heap.size w.heap.size c0 n m (unhide HM) (by rfl) ((unhide HB0).alloc _) 128 ⟨w0.heap.size, 0, none⟩ (by rfl) (cell_one_new _ _ _) (by simp; omega) (by omega) ?_; intro g1 cap1 w1 hB1 hb1; have HB1 := hide hB1; have HL1 := hide (((unhide HL0).alloc (by omega) _).trans hb1); clear hB1 hb1))
  clear hcv HB0 HL0
  go_loopw [3] (fun v wr => ∃ (i g cap L : Nat) (bs : List UInt8), i ≤ q ∧ L = n + 1 + i ∧ v = .slice (some ⟨g, 0, none⟩) L cap ∧ bs.length = L ∧ bs = m ++ 128 :: List.replicate i 0 ∧ Buf wr w.heap.size g cap bs ∧ Below w.heap.size w wr) (fun v _ => n + 1 + q - sliceLen v)
  case atStart => exact ⟨0, g1, cap1, n + 1, _, Nat.zero_le _, rfl, rfl, by simp [unhide HM], rfl, unhide HB1, unhide HL1⟩
  case round =>
    clear HB1 HL1
    obtain ⟨i, g, cap, L, bs, hi, hL, rfl, hbl, hbs, hB, hb⟩ := hrel
    have HB := hide hB
    have HL := hide hb
    have HBS := hide hbs
    have hsz := hb.size
    have hQ := unhide HQ
    clear hB hb hbs
    by_cases hiq : i < q
    · have hT : ((L : Int) % 64 != 56) = true := by simp; omega
      have HLL := hide hL
      have hL2 : L ≤ 10100 := by omega
      clear hL hQ
      go_wp2_with (first
        | (at_builtin; refine push (by rfl) (.tmp 15) (.tmp 16) (by rfl) w.heap.size g cap L bs hbl (by rfl) ((unhide HB).alloc _) 0 ⟨wr.heap.size, 0, none⟩ (by rfl) (cell_one_new _ _ _) (by simp; omega) (by omega) ?_; intro g2 cap2 w2 hB2 hb2; have HB2 := hide hB2; have HL2 := hide (((unhide HL).alloc (by omega) _).trans hb2); clear hB2 hb2))
      go_roundw
      case rel =>
        have hL := unhide HLL
        exact ⟨i + 1, g2, cap2, L + 1, bs ++ [0], by omega, by omega, rfl, by simp [hbl], by rw [unhide HBS, rep_more], unhide HB2, unhide HL2⟩
      case measure => have hL := unhide HLL; simp [sliceLen]; omega
    · obtain rfl : i = q := by omega
      have hT : ((L : Int) % 64 != 56) = false := by simp; omega
      have HLL := hide hL
      have hL2 : L ≤ 10100 := by omega
      clear hL hQ
      go_wp2_with fail
      go_loopw [3, 5] (fun v iv wr => ∃ (j g cap K : Nat) (bs : List UInt8), j ≤ 8 ∧ iv = .int .i64 j ∧ K = L + j ∧ v = .slice (some ⟨g, 0, none⟩) K cap ∧ bs.length = K ∧ bs = m ++ 128 :: List.replicate i 0 ++ (Sha.be8 (n * 8)).take j ∧ Buf wr w.heap.size g cap bs ∧ Below w.heap.size w wr) (fun _ iv _ => 8 - (intOf iv).toNat)
      case atStart => exact ⟨0, g, cap, L, bs, Nat.zero_le _, rfl, rfl, rfl, hbl, by rw [unhide HBS]; simp, unhide HB, unhide HL⟩
      case round =>
        clear HB HL HBS hbl hsz
        obtain ⟨j, g, cap, K, bs, hj, rfl, hK, rfl, hbl, hbs, hB, hb⟩ := hrel
        have HB := hide hB
        have HL := hide hb
        have HBS := hide hbs
        have hsz := hb.size
        have HK := hide hK
        have hK2 : K ≤ 10108 := by omega
        clear hB hb hbs hK
        by_cases hj8 : j < 8
        · have HV : Hid ((n : Int) * 8 / 2 ^ (56 - 8 * j) % 256 = ((UInt8.ofNat (n * 8 / 2 ^ (56 - 8 * j) % 256)).toNat : Int)) := by
            rw [u8_of _ (Nat.mod_lt _ (by decide))]
            exact hide (by simp)
          have HM8 := hide (be8_more (n * 8) j hj8)
          generalize UInt8.ofNat (n * 8 / 2 ^ (56 - 8 * j) % 256) = y at HV HM8
          go_wp2_with (first
            | (at_builtin; rw [unhide HV]; refine push (by rfl) (.tmp 26) (.tmp 34) (by rfl) w.heap.size g cap K bs hbl (by rfl) ((unhide HB).alloc _) y ⟨wr.heap.size, 0, none⟩ (by rfl) (cell_one_new _ _ _) (by simp; omega) (by omega) ?_; intro g2 cap2 w2 hB2 hb2; have HB2 := hide hB2; have HL2 := hide (((unhide HL).alloc (by omega) _).trans hb2); clear hB2 hb2))
          go_roundw
          case rel =>
            have hK := unhide HK
            exact ⟨j + 1, g2, cap2, K + 1, bs ++ [y], by omega, by go_num, by omega, rfl, by simp [hbl], by rw [unhide HBS, List.append_assoc, unhide HM8], unhide HB2, unhide HL2⟩
          case measure => simp [intOf]; omega
        · obtain rfl : j = 8 := by omega
          have hbs := unhide HBS
          rw [List.take_of_length_le (by rw [Sha.be8_len]; exact Nat.le_refl _), unhide HFF] at hbs
          subst hbs
          subst hbl
          go_wp2_with fail
          go_ret
          exact ⟨g, cap, rfl, unhide HB, unhide HL⟩
end Go.Proofs.YtkdhpnijcgegbaaDoor

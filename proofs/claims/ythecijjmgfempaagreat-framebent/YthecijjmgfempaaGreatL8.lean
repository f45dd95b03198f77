/-
  The walk of a law: what is turned within four bytes of a frame is seen.
-/
import Derived.Test.YthecijjmgfempaaGreatMathF
import Derived.Test.YthecijjmgfempaaGreatF4
import Derived.Test.YthecijjmgfempaaGreatL5
import Derived.Test.YthecijjmgfempaaGreatZMath
import Derived.Test.YthecijjmgfempaaGreatOpen
namespace Go.Proofs.YthecijjmgfempaaGreat
open Go.RowKit

theorem first_atF (a1 : Int) (n : Nat) (hn : n ≤ 1000000) : ∃ F : Nat, F ≤ n ∧ wrap64 ((IntKind.u64.wrap a1).tmod ((n : Int) + 4 - 3)) = (F : Int) := by
  rw [IntKind.wrap_u64]
  have h0 : 0 ≤ a1 % 18446744073709551616 := Int.emod_nonneg _ (by decide)
  generalize a1 % 18446744073709551616 = x at h0
  rw [Int.tmod_eq_emod_of_nonneg h0, show (n : Int) + 4 - 3 = (n : Int) + 1 from by omega]
  have h1 := Int.emod_nonneg x (show (n : Int) + 1 ≠ 0 by omega)
  have h2 := Int.emod_lt_of_pos x (show 0 < (n : Int) + 1 by omega)
  refine ⟨(x % ((n : Int) + 1)).toNat, by omega, ?_⟩
  generalize x % ((n : Int) + 1) = y at h1 h2
  rw [Int.toNat_of_nonneg h1]
  simp only [wrap64]
  omega
set_option maxRecDepth 100000 in
set_option maxHeartbeats 2000000 in
theorem bent_great (m : Msg) (a b : Option Addr) (c d : Nat) (hr : m.root.length = 32) (hn : m.rows.length ≤ 9223372036854775807) (a1 : Int) (M : Int) (w : World) (s2 : RL w b m.rows) (hG : greatM m = true) :
    Calls Tryz.prog 5 #[.agg (mL m a c b d).toArray, .int .i64 a1, .int .u32 M] w fun e w' => e = .returned (.bool true) ∧ Below w.heap.size w w' := by
  have HR := hide (VRow.new w 28 (mL m a c b d))
  have HB := hide (below_alloc' (w := w) (.cells (mL m a c b d).toArray 28))
  have HL := hide (mL_len hr a c b d)
  have KG := hide (great_any m a b c d _ hr hn (s2.after (unhide HB)))
  rw [hG] at KG
  clear hr hn s2 hG
  go_enter Tryz.func5, Tryz.ntmps5
  go_wp2_with ((with_reducible refine at27 ?_); (refine load_msg (by rfl) (.tmp 3) (by rfl) w.heap.size (by rfl) _ (unhide HR) (unhide HL) ?_))
  refine (unhide KG).mono ?_
  rintro e w1 ⟨rfl, hb⟩
  have HB1 := hide (below_grow (unhide HB) (Nat.le_refl _) hb)
  clear hb
  go_wp2_with fail
  refine (awake_any _).mono ?_
  rintro e w90 ⟨rfl, hb⟩
  have HB90 := hide (below_grow (unhide HB1) (Nat.le_refl _) hb)
  clear hb
  go_wp2_with fail
  go_ret
  exact ⟨rfl, unhide HB90⟩
set_option maxRecDepth 100000 in
set_option maxHeartbeats 2000000 in
theorem bent_long (m : Msg) (a b : Option Addr) (c d : Nat) (hr : m.root.length = 32) (hn : m.rows.length ≤ 9223372036854775807) (a1 : Int) (M : Int) (w : World) (s2 : RL w b m.rows) (hG : greatM m = false) (ht : 2000 < m.text.size) :
    Calls Tryz.prog 5 #[.agg (mL m a c b d).toArray, .int .i64 a1, .int .u32 M] w fun e w' => e = .returned (.bool true) ∧ Below w.heap.size w w' := by
  have HR := hide (VRow.new w 28 (mL m a c b d))
  have HB := hide (below_alloc' (w := w) (.cells (mL m a c b d).toArray 28))
  have HRT := hide hr
  have HL := hide (mL_len hr a c b d)
  have KG := hide (great_any m a b c d _ hr hn (s2.after (unhide HB)))
  rw [hG] at KG
  clear hr hn s2 hG
  go_enter Tryz.func5, Tryz.ntmps5
  go_wp2_with ((with_reducible refine at27 ?_); (refine load_msg (by rfl) (.tmp 3) (by rfl) w.heap.size (by rfl) _ (unhide HR) (unhide HL) ?_))
  refine (unhide KG).mono ?_
  rintro e w1 ⟨rfl, hb⟩
  have HB1 := hide (below_grow (unhide HB) (Nat.le_refl _) hb)
  have x40 := m40 ((unhide HR).after hb) (unhide HRT)
  clear hb
  go_wp2_with fail
  refine (awake_any _).mono ?_
  rintro e w90 ⟨rfl, hb⟩
  have HB90 := hide (below_grow (unhide HB1) (Nat.le_refl _) hb)
  clear hb
  go_wp2_with fail
  go_ret
  exact ⟨rfl, unhide HB90⟩
set_option maxRecDepth 100000 in
set_option maxHeartbeats 2000000 in
theorem bent_none (m : Msg) (a b : Option Addr) (c d : Nat) (hr : m.root.length = 32) (hn : m.rows.length ≤ 9223372036854775807) (a1 : Int) (M : Int) (w : World) (s1 : Sl w a m.ctx) (s2 : RL w b m.rows) (hG : greatM m = false) (ht : m.text.size ≤ 2000) (hc : checkM m ≠ 0) :
    Calls Tryz.prog 5 #[.agg (mL m a c b d).toArray, .int .i64 a1, .int .u32 M] w fun e w' => e = .returned (.bool true) ∧ Below w.heap.size w w' := by
  have HR := hide (VRow.new w 28 (mL m a c b d))
  have HB := hide (below_alloc' (w := w) (.cells (mL m a c b d).toArray 28))
  have HRT := hide hr
  have HL := hide (mL_len hr a c b d)
  have HS1 := hide (s1.after (unhide HB))
  have HS2 := hide (s2.after (unhide HB))
  have KG := hide (great_any m a b c d _ hr hn (unhide HS2))
  obtain ⟨g1, _⟩ := greatM_no hG
  have KB := hide fun W h1 h2 => seal_any m a b c d W (few_of hG hr) (bytesM_len m hr g1) h1 h2
  have herr := sealF_err m
  generalize sealF m = Y at KB herr
  obtain ⟨t, E⟩ := Y
  dsimp only at KB herr
  subst herr
  rw [hG] at KG
  have hne : (checkM m != 0) = true := bne_iff_ne.2 hc
  generalize checkM m = V at KB hne hc
  clear hr hn s1 s2 hG g1
  go_enter Tryz.func5, Tryz.ntmps5
  go_wp2_with ((with_reducible refine at27 ?_); (refine load_msg (by rfl) (.tmp 3) (by rfl) w.heap.size (by rfl) _ (unhide HR) (unhide HL) ?_))
  refine (unhide KG).mono ?_
  rintro e w1 ⟨rfl, hb⟩
  have HB1 := hide (below_grow (unhide HB) (Nat.le_refl _) hb)
  have HR1 := hide ((unhide HR).after hb)
  have HT1 := hide ((unhide HS1).after hb)
  have HT2 := hide ((unhide HS2).after hb)
  have x40 := m40 (unhide HR1) (unhide HRT)
  clear hb
  go_wp2_with ((with_reducible refine at27 ?_); (refine load_msg (by rfl) (.tmp 3) (by rfl) w.heap.size (by rfl) _ (unhide HR1) (unhide HL) ?_))
  refine (unhide KB _ (unhide HT1) (unhide HT2)).mono ?_
  rintro e w2 ⟨rfl, hb⟩
  have HB2 := hide (below_grow (unhide HB1) (Nat.le_refl _) hb)
  clear hb
  go_wp2_with fail
  refine (awake_any _).mono ?_
  rintro e w90 ⟨rfl, hb⟩
  have HB90 := hide (below_grow (unhide HB2) (Nat.le_refl _) hb)
  clear hb
  go_wp2_with fail
  go_ret
  exact ⟨rfl, unhide HB90⟩
set_option maxRecDepth 100000 in
set_option maxHeartbeats 4000000 in
theorem bent_nil (m : Msg) (a b : Option Addr) (c d : Nat) (hr : m.root.length = 32) (hn : m.rows.length ≤ 9223372036854775807) (a1 : Int) (w : World) (s1 : Sl w a m.ctx) (s2 : RL w b m.rows) (hG : greatM m = false) (ht : m.text.size ≤ 2000) (hc : checkM m = 0) :
    Calls Tryz.prog 5 #[.agg (mL m a c b d).toArray, .int .i64 a1, .int .u32 0] w fun e w' => e = .returned (.bool true) ∧ Below w.heap.size w w' := by
  have HR := hide (VRow.new w 28 (mL m a c b d))
  have HB := hide (below_alloc' (w := w) (.cells (mL m a c b d).toArray 28))
  have HRT := hide hr
  have HL := hide (mL_len hr a c b d)
  have HS1 := hide (s1.after (unhide HB))
  have HS2 := hide (s2.after (unhide HB))
  have KG := hide (great_any m a b c d _ hr hn (unhide HS2))
  obtain ⟨g1, _⟩ := greatM_no hG
  have KB := hide fun W h1 h2 => seal_any m a b c d W (few_of hG hr) (bytesM_len m hr g1) h1 h2
  have hlen := sealF_len hc hr
  obtain ⟨p, hp⟩ : ∃ p, sealF m = (Cr.Crc.sealL p, 0) := ⟨putF (bytesM m).1, by unfold sealF; rw [if_neg (by rw [bytesM_err, hc]; simp)]⟩
  rw [hp] at KB hlen
  dsimp only at KB hlen
  rw [sealL_len] at hlen
  rw [hG] at KG
  obtain ⟨S, hS⟩ : ∃ S, str (Cr.Crc.sealL p) = S := ⟨_, rfl⟩
  obtain ⟨n, hpn⟩ : ∃ n, p.length = n := ⟨_, rfl⟩
  have hSd : S.data.toList = Cr.Crc.sealL p := by rw [← hS, str_data]
  have hSz : S.size = n + 4 := by rw [← hS, str_size, sealL_len, hpn]
  rw [hS] at KB
  rw [hpn] at hlen
  have HSd := hide hSd
  have HPN := hide hpn
  have hcv : ∀ W : World, (convert 9 39 (.string S)).run Tryz.prog W = .ok (.slice (some ⟨W.heap.size, 0, none⟩) (n + 4) (grownCap W (n + 4) 0 5)) (Go.Lib.bytesWorld W 5 S) := by
    intro W
    rw [← hSz]
    exact Go.Lib.run_convert_string_bytes W 9 39 5 S Tryz.underlying9 Tryz.underlying39 Tryz.underlying5
  clear hr hn s1 s2 hG g1 hc hp hS hSd hSz hpn
  go_enter Tryz.func5, Tryz.ntmps5
  go_wp2_with ((with_reducible refine at27 ?_); (refine load_msg (by rfl) (.tmp 3) (by rfl) w.heap.size (by rfl) _ (unhide HR) (unhide HL) ?_))
  refine (unhide KG).mono ?_
  rintro e w1 ⟨rfl, hb⟩
  have HB1 := hide (below_grow (unhide HB) (Nat.le_refl _) hb)
  have HR1 := hide ((unhide HR).after hb)
  have HT1 := hide ((unhide HS1).after hb)
  have HT2 := hide ((unhide HS2).after hb)
  have x40 := m40 (unhide HR1) (unhide HRT)
  clear hb
  go_wp2_with ((with_reducible refine at27 ?_); (refine load_msg (by rfl) (.tmp 3) (by rfl) w.heap.size (by rfl) _ (unhide HR1) (unhide HL) ?_))
  refine (unhide KB _ (unhide HT1) (unhide HT2)).mono ?_
  rintro e w2 ⟨rfl, hb⟩
  have HB2 := hide (below_grow (unhide HB1) (Nat.le_refl _) hb)
  clear hb x40
  go_wp2_with fail
  have HB3 := hide ((unhide HB2).trans ((Cr.below_bytes w2 S).mono (unhide HB2).size))
  refine (awake_any _).mono ?_
  rintro e w90 ⟨rfl, hb⟩
  have HB90 := hide (below_grow (unhide HB3) (Nat.le_refl _) hb)
  clear hb
  go_wp2_with fail
  go_ret
  exact ⟨rfl, unhide HB90⟩
set_option maxRecDepth 100000 in
set_option maxHeartbeats 4000000 in
theorem bent_some (m : Msg) (a b : Option Addr) (c d : Nat) (hr : m.root.length = 32) (hn : m.rows.length ≤ 9223372036854775807) (a1 : Int) (M : Nat) (hM : M < 4294967296) (hM0 : M ≠ 0) (w : World) (s1 : Sl w a m.ctx) (s2 : RL w b m.rows) (hG : greatM m = false) (ht : m.text.size ≤ 2000) (hc : checkM m = 0) :
    Calls Tryz.prog 5 #[.agg (mL m a c b d).toArray, .int .i64 a1, .int .u32 (M : Int)] w fun e w' => e = .returned (.bool true) ∧ Below w.heap.size w w' := by
  have HR := hide (VRow.new w 28 (mL m a c b d))
  have HB := hide (below_alloc' (w := w) (.cells (mL m a c b d).toArray 28))
  have HRT := hide hr
  have HL := hide (mL_len hr a c b d)
  have HS1 := hide (s1.after (unhide HB))
  have HS2 := hide (s2.after (unhide HB))
  have KG := hide (great_any m a b c d _ hr hn (unhide HS2))
  obtain ⟨g1, _⟩ := greatM_no hG
  have KB := hide fun W h1 h2 => seal_any m a b c d W (few_of hG hr) (bytesM_len m hr g1) h1 h2
  have hlen := sealF_len hc hr
  obtain ⟨p, hp⟩ : ∃ p, sealF m = (Cr.Crc.sealL p, 0) := ⟨putF (bytesM m).1, by unfold sealF; rw [if_neg (by rw [bytesM_err, hc]; simp)]⟩
  rw [hp] at KB hlen
  dsimp only at KB hlen
  rw [sealL_len] at hlen
  rw [hG] at KG
  obtain ⟨S, hS⟩ : ∃ S, str (Cr.Crc.sealL p) = S := ⟨_, rfl⟩
  obtain ⟨n, hpn⟩ : ∃ n, p.length = n := ⟨_, rfl⟩
  have hSd : S.data.toList = Cr.Crc.sealL p := by rw [← hS, str_data]
  have hSz : S.size = n + 4 := by rw [← hS, str_size, sealL_len, hpn]
  rw [hS] at KB
  rw [hpn] at hlen
  have HSd := hide hSd
  have HPN := hide hpn
  have hcv : ∀ W : World, (convert 9 39 (.string S)).run Tryz.prog W = .ok (.slice (some ⟨W.heap.size, 0, none⟩) (n + 4) (grownCap W (n + 4) 0 5)) (Go.Lib.bytesWorld W 5 S) := by
    intro W
    rw [← hSz]
    exact Go.Lib.run_convert_string_bytes W 9 39 5 S Tryz.underlying9 Tryz.underlying39 Tryz.underlying5
  obtain ⟨F, hF, he⟩ := first_atF a1 n (by omega)
  have HE := hide he
  have HM := hide hM
  have HM0 := hide hM0
  have hMb : ((M : Int) == 0) = false := beq_eq_false_iff_ne.2 (by omega)
  clear he hM0
  clear hr hn s1 s2 hG g1 hc hp hS hSd hSz hpn
  go_enter Tryz.func5, Tryz.ntmps5
  go_wp2_with ((with_reducible refine at27 ?_); (refine load_msg (by rfl) (.tmp 3) (by rfl) w.heap.size (by rfl) _ (unhide HR) (unhide HL) ?_))
  refine (unhide KG).mono ?_
  rintro e w1 ⟨rfl, hb⟩
  have HB1 := hide (below_grow (unhide HB) (Nat.le_refl _) hb)
  have HR1 := hide ((unhide HR).after hb)
  have HT1 := hide ((unhide HS1).after hb)
  have HT2 := hide ((unhide HS2).after hb)
  have x40 := m40 (unhide HR1) (unhide HRT)
  clear hb
  go_wp2_with ((with_reducible refine at27 ?_); (refine load_msg (by rfl) (.tmp 3) (by rfl) w.heap.size (by rfl) _ (unhide HR1) (unhide HL) ?_))
  refine (unhide KB _ (unhide HT1) (unhide HT2)).mono ?_
  rintro e w2 ⟨rfl, hb⟩
  have HB2 := hide (below_grow (unhide HB1) (Nat.le_refl _) hb)
  clear hb x40
  go_wp2_with fail
  rw [unhide HE]
  clear HE hcv
  go_loopw [11] (fun i wr => ∃ (k : Nat) (bs : List UInt8), k ≤ 4 ∧ i = .int .i64 k ∧ Cr.Crc.Turned (Cr.Crc.sealL p) F M k bs ∧ Cr.Bytes wr w2.heap.size bs ∧ Below w.heap.size w wr) (fun i _ => 4 - (intOf i).toNat)
  case atStart => exact ⟨0, S.data.toList, by omega, rfl, by rw [unhide HSd]; exact Cr.Crc.turned_none _ _ _, Cr.Bytes.new w2 S, (unhide HB2).trans ((Cr.below_bytes w2 S).mono (unhide HB2).size)⟩
  case round =>
    obtain ⟨k, bs, hk, rfl, htur, hrow, hbl⟩ := hrel
    have hblen : bs.length = n + 4 := by rw [htur.1, sealL_len, unhide HPN]
    have HT := hide htur
    have HRW := hide hrow
    have HBL := hide hbl
    by_cases hlt : k < 4
    · obtain ⟨x, hx⟩ : ∃ x, bs[F + k]? = some x := ⟨_, List.getElem?_eq_getElem (by omega)⟩
      have hcl : wr.cell? ⟨w2.heap.size, F + k, none⟩ = some (.int .u8 (x.toNat : Int)) := by
        obtain ⟨h, e⟩ := List.getElem?_eq_some_iff.1 hx
        have := hrow.cell (F + k) h
        rw [e] at this
        exact this
      have hf := hrow.frozen (F + k) (by omega)
      have HX := hide hx
      have hex : bits .xor .u8 (x.toNat : Int) ((M : Int) / 2 ^ (8 * k) % 256) = ((x ^^^ Cr.Crc.byteAt M k).toNat : Int) := by
        have hd : M / 2 ^ (8 * k) % 256 < 256 := Nat.mod_lt _ (by decide)
        have e1 : ((M : Int) / 2 ^ (8 * k) % 256) = ((M / 2 ^ (8 * k) % 256 : Nat) : Int) := by simp
        have e2 : (Cr.Crc.byteAt M k).toNat = M / 2 ^ (8 * k) % 256 := Cr.u8_of _ hd
        rw [e1, u8_xor_nat _ _ x.toNat_lt hd, UInt8.toNat_xor, e2]
      have HEX := hide hex
      clear hblen hrow hbl hx htur hex
      go_wp2_with fail
      go_roundw
      case rel =>
        rw [unhide HEX]
        exact ⟨k + 1, bs.set (F + k) (x ^^^ Cr.Crc.byteAt M k), by omega, by go_num, Cr.Crc.turned_step _ _ _ _ _ _ (unhide HT) (unhide HX), (unhide HRW).set _ _, (unhide HBL).setCell (p := ⟨w2.heap.size, F + k, none⟩) (unhide HB2).size _⟩
      case measure => simp [intOf]; omega
    · have hk4 : k = 4 := by omega
      subst hk4
      have hcv2 : ∀ cap, (convert 39 9 (.slice (some ⟨w2.heap.size, 0, none⟩) (n + 4) cap)).run Tryz.prog wr = .ok (.string (str bs)) wr := by
        intro cap
        have := hrow.text cap
        rwa [hblen] at this
      have hopen : openF bs = (zeroM, 9) := bent_seen (p := p) (f := F) (m := M) (by rw [unhide HPN]; omega) (by rw [unhide HPN]; omega) (unhide HM) (unhide HM0) htur
      have KO := hide (open_any bs (by omega) wr)
      rw [hopen] at KO
      clear hblen hrow hbl htur hopen
      go_wp2_with fail
      refine (unhide KO).mono ?_
      rintro e w4 ⟨a4, c4, b4, d4, rfl, _, _, _, _, hb⟩
      have HB4 := hide (below_grow (unhide HBL) (Nat.le_refl _) hb)
      have HL4 := hide (mL_len zeroM_root a4 c4 b4 d4)
      have HO4 := hide (mL_one zeroM a4 c4 b4 d4)
      have HZ4 : Hid (VRow (w4.alloc (.cells #[.int .i64 0, .int .i64 0, .int .i64 0, .int .i64 0, .bool false, .string ⟨#[]⟩, .int .u8 0, .int .u8 0, .int .u8 0, .int .u8 0, .int .u8 0, .int .u8 0, .int .u8 0, .int .u8 0, .int .u8 0, .int .u8 0, .int .u8 0, .int .u8 0, .int .u8 0, .int .u8 0, .int .u8 0, .int .u8 0, .int .u8 0, .int .u8 0, .int .u8 0, .int .u8 0, .int .u8 0, .int .u8 0, .int .u8 0, .int .u8 0, .int .u8 0, .int .u8 0, .int .u8 0, .int .u8 0, .int .u8 0, .int .u8 0, .int .u8 0, .int .u8 0, .slice none 0 0, .slice none 0 0, .string ⟨#[]⟩] 28)) w4.heap.size 28 mZ) := hide (by rw [mZ_lit]; exact VRow.new w4 28 [.int .i64 0, .int .i64 0, .int .i64 0, .int .i64 0, .bool false, .string ⟨#[]⟩, .int .u8 0, .int .u8 0, .int .u8 0, .int .u8 0, .int .u8 0, .int .u8 0, .int .u8 0, .int .u8 0, .int .u8 0, .int .u8 0, .int .u8 0, .int .u8 0, .int .u8 0, .int .u8 0, .int .u8 0, .int .u8 0, .int .u8 0, .int .u8 0, .int .u8 0, .int .u8 0, .int .u8 0, .int .u8 0, .int .u8 0, .int .u8 0, .int .u8 0, .int .u8 0, .int .u8 0, .int .u8 0, .int .u8 0, .int .u8 0, .int .u8 0, .int .u8 0, .slice none 0 0, .slice none 0 0, .string ⟨#[]⟩])
      clear hb
      go_wp2_with ((with_reducible refine atS27 ?_); (refine store_row (by rfl) 28 (.tmp 12) (.tmp 76) (by rfl) w4.heap.size (mL zeroM a4 c4 b4 d4) (by rfl) (by rfl) 28 mZ (unhide HZ4) 41 sizeM (unhide HL4) mZ_len (unhide HO4) ?_); intro w5 ho5 hr5; have HO5 := hide ho5; clear ho5 hr5)
      have HB5 := hide (((unhide HB4).trans ((below_alloc' (w := w4) (.cells #[.int .i64 0, .int .i64 0, .int .i64 0, .int .i64 0, .bool false, .string ⟨#[]⟩, .int .u8 0, .int .u8 0, .int .u8 0, .int .u8 0, .int .u8 0, .int .u8 0, .int .u8 0, .int .u8 0, .int .u8 0, .int .u8 0, .int .u8 0, .int .u8 0, .int .u8 0, .int .u8 0, .int .u8 0, .int .u8 0, .int .u8 0, .int .u8 0, .int .u8 0, .int .u8 0, .int .u8 0, .int .u8 0, .int .u8 0, .int .u8 0, .int .u8 0, .int .u8 0, .int .u8 0, .int .u8 0, .int .u8 0, .int .u8 0, .int .u8 0, .int .u8 0, .slice none 0 0, .slice none 0 0, .string ⟨#[]⟩] 28)).mono (unhide HB4).size)).trans ((unhide HO5).below (unhide HB4).size))
      refine (awake_any _).mono ?_
      rintro e w90 ⟨rfl, hb⟩
      have HB90 := hide (below_grow (unhide HB5) (Nat.le_refl _) hb)
      clear hb
      go_wp2_with fail
      go_ret
      exact ⟨rfl, unhide HB90⟩
theorem bent_walk (m : Msg) (a b : Option Addr) (c d : Nat) (hr : m.root.length = 32) (hn : m.rows.length ≤ 9223372036854775807) (a1 : Int) (M : Nat) (hM : M < 4294967296) (w : World) (s1 : Sl w a m.ctx) (s2 : RL w b m.rows) :
    Calls Tryz.prog 5 #[.agg (mL m a c b d).toArray, .int .i64 a1, .int .u32 (M : Int)] w fun e w' => e = .returned (.bool true) ∧ Below w.heap.size w w' := by
  cases hG : greatM m with
  | true => exact bent_great m a b c d hr hn a1 M w s2 hG
  | false =>
    by_cases ht : 2000 < m.text.size
    · exact bent_long m a b c d hr hn a1 M w s2 hG ht
    · by_cases hc : checkM m = 0
      · by_cases hM0 : M = 0
        · subst hM0
          exact bent_nil m a b c d hr hn a1 w s1 s2 hG (by omega) hc
        · exact bent_some m a b c d hr hn a1 M hM hM0 w s1 s2 hG (by omega) hc
      · exact bent_none m a b c d hr hn a1 M w s1 s2 hG (by omega) hc
end Go.Proofs.YthecijjmgfempaaGreat

namespace Go.Proofs.YthecijjmgfempaaGreat
open Go.ChangeShapes Go.WideShapes Go.ChangeAt Go.RowKit Go.Deep
set_option maxRecDepth 100000 in
theorem open_u32 {H : Type} {enc : TypeId × Value → H} {W : World} {r : Reach} {base : Nat} {v0 : Value} {d0 : DataW H} {p0 : List MemPlace}
    (hv : Value.okWide Tryz.prog W r base 38 v0) (h : DataW.Trod enc Tryz.prog W 0 (fun _ => true) true 38 v0 d0 p0) :
    ∃ (n : Nat), v0 = .int .u32 (n : Int) ∧ n < 4294967296 := by
  obtain ⟨n, h1, _, _, h4⟩ := open_int Tryz.underlying38 hv h
  have hb := bounds_u32 h4
  obtain ⟨k, rfl⟩ := Int.eq_ofNat_of_zero_le hb.1
  exact ⟨k, h1, by omega⟩
end Go.Proofs.YthecijjmgfempaaGreat

/-
  What the document's Of answers: a text's digest.
-/
import Derived.Test.YtebjlmnhpfoglaaGreatDoorB19
import Derived.StillTailTactics
import Derived.Test.YtebjlmnhpfoglaaGreatDoorB11
import Derived.Test.YtebjlmnhpfoglaaGreatDoorB18
import Derived.Test.YtebjlmnhpfoglaaGreatDoorB02
namespace Go.Proofs.YtebjlmnhpfoglaaGreatDoor.Hsh
open Go.RowKit

/-- The words of a block, four bytes each, first of all: w[i]*256 + the next byte. -/
def wordK (bs : List UInt8) (i k : Nat) : Nat := Sha.word ((bs.drop (4 * i)).take k)

theorem wordK_zero (bs : List UInt8) (i : Nat) : wordK bs i 0 = 0 := rfl
theorem wordK_four (bs : List UInt8) (i : Nat) : wordK bs i 4 = Sha.wordAt bs i := rfl
theorem wordK_succ (bs : List UInt8) (i k : Nat) (b : UInt8) (h : bs[4 * i + k]? = some b) : wordK bs i (k + 1) = wordK bs i k * 256 + b.toNat := by
  have h2 : (bs.drop (4 * i))[k]? = some b := by rw [List.getElem?_drop]; exact h
  unfold wordK Sha.word
  rw [List.take_add_one, h2]
  simp
theorem word_bound (l : List UInt8) : ∀ v, l.foldl (fun v b => v * 256 + b.toNat) v < (v + 1) * 256 ^ l.length := by
  induction l with
  | nil => intro v; simp
  | cons b l ih =>
    intro v
    have hb := b.toNat_lt
    have h := ih (v * 256 + b.toNat)
    rw [List.foldl_cons, List.length_cons, Nat.pow_succ]
    refine Nat.lt_of_lt_of_le h ?_
    have h2 : (v * 256 + b.toNat + 1) ≤ (v + 1) * 256 := by omega
    calc (v * 256 + b.toNat + 1) * 256 ^ l.length ≤ (v + 1) * 256 * 256 ^ l.length := Nat.mul_le_mul_right _ h2
      _ = (v + 1) * (256 ^ l.length * 256) := by rw [Nat.mul_assoc, Nat.mul_comm 256]
theorem wordK_lt (bs : List UInt8) (i k : Nat) (hk : k ≤ 3) : wordK bs i k < 16777216 := by
  have h := word_bound ((bs.drop (4 * i)).take k) 0
  have hl : ((bs.drop (4 * i)).take k).length ≤ 3 := by rw [List.length_take]; omega
  have : 256 ^ ((bs.drop (4 * i)).take k).length ≤ 256 ^ 3 := Nat.pow_le_pow_right (by decide) hl
  unfold wordK Sha.word
  omega

theorem run_build46 (w : World) : (Instr.build 97 #[]).run Tryz.prog w = .ok (.agg (zero64.map u).toArray) w := by kernel_rfl
theorem run_build24' (w : World) : (Instr.build 46 #[]).run Tryz.prog w = .ok (.agg (Sha.zeros.map byteVal).toArray) w := by kernel_rfl

theorem wrap_small (x : Int) (h1 : 0 ≤ x) (h2 : x < 1000) : IntKind.i64.wrap x = x := by
  rw [IntKind.wrap_i64]; omega

/-- What stays as it is while a block goes in. -/
structure Inv (w wr : World) (n g cap : Nat) (F : List UInt8) (H : List Nat) : Prop where
  h : VRow wr (n + 1) 95 (H.map u)
  z : VRow wr n 46 (Sha.zeros.map byteVal)
  b : Buf wr (n + 2) g cap F
  bel : Below n w wr
theorem Inv.alloc {w wr : World} {n g cap : Nat} {F : List UInt8} {H : List Nat} (h : Inv w wr n g cap F H) (o : Obj) : Inv w (wr.alloc o) n g cap F H :=
  ⟨h.h.alloc o, h.z.alloc o, h.b.alloc o, h.bel.alloc (Nat.le_of_lt h.z.lt) o⟩
theorem Inv.drew {w wr : World} {n g cap : Nat} {F : List UInt8} {H : List Nat} (h : Inv w wr n g cap F H) : Inv w wr.drew n g cap F H :=
  ⟨h.h, h.z, ⟨h.b.base, h.b.fits, h.b.lt, h.b.cell, h.b.free⟩, h.bel.drew⟩
theorem Inv.only {w wr w' : World} {n g cap B : Nat} {F : List UInt8} {H : List Nat} (h : Inv w wr n g cap F H) (ho : Only B wr w') (hB : n + 1 < B) (hg : g ≠ B) : Inv w w' n g cap F H :=
  ⟨h.h.only ho (by omega), h.z.only ho (by omega), h.b.only ho hg, h.bel.trans (ho.below (by omega))⟩
theorem Inv.set {w wr : World} {n g cap B : Nat} {F : List UInt8} {H : List Nat} (h : Inv w wr n g cap F H) (k : Nat) (v : Value) (hB : n + 1 < B) (hg : g ≠ B) : Inv w (wr.setCell ⟨B, k, none⟩ v) n g cap F H :=
  h.only ((Only.refl B wr).setCell k v) hB hg

theorem Inv.below {w wr w' : World} {n g cap : Nat} {F : List UInt8} {H : List Nat} (h : Inv w wr n g cap F H) (hb : Below wr.heap.size wr w') : Inv w w' n g cap F H :=
  ⟨h.h.below hb h.h.lt, h.z.below hb h.z.lt, h.b.below hb h.b.lt, h.bel.trans (hb.mono (Nat.le_of_lt h.z.lt))⟩
theorem Inv.next {w wr w' : World} {n g cap : Nat} {F : List UInt8} {H H2 : List Nat} (h : Inv w wr n g cap F H) (ho : Only (n + 1) wr w') (hr : VRow w' (n + 1) 95 (H2.map u)) : Inv w w' n g cap F H2 :=
  ⟨hr, h.z.only ho (by omega), h.b.only ho (by have := h.b.base; omega), h.bel.trans (ho.below (by omega))⟩
theorem add_comm' : ∀ x y : Nat, Sha.add x y = Sha.add y x := fun x y => by unfold Sha.add; rw [Nat.add_comm]

theorem first_set (bs : List UInt8) (i : Nat) (hi : i < 16) : ((Sha.firsts bs 16).take i ++ zero64.drop i).set i (Sha.wordAt bs i) = (Sha.firsts bs 16).take (i + 1) ++ zero64.drop (i + 1) := by
  have hl : i < (Sha.firsts bs 16).length := by simpa [Sha.firsts] using hi
  have e : (Sha.firsts bs 16)[i] = Sha.wordAt bs i := by simp [Sha.firsts]
  rw [← e]
  exact Sha.mid_set _ _ i hl (by simp [zero64]; omega)
theorem first_zero (bs : List UInt8) (i : Nat) (hi : i < 16) : ((Sha.firsts bs 16).take i ++ zero64.drop i).set i 0 = (Sha.firsts bs 16).take i ++ zero64.drop i := by
  have h := Sha.mid_get (Sha.firsts bs 16) zero64 i (by simp [Sha.firsts]; omega)
  have hz : zero64[i]? = some 0 := by unfold zero64; rw [List.getElem?_replicate, if_pos (by omega)]
  rw [hz] at h
  obtain ⟨hl, e⟩ := List.getElem?_eq_some_iff.1 h
  have h2 := List.set_getElem_self hl
  rwa [e] at h2
theorem first_len (bs : List UInt8) (i : Nat) (hi : i ≤ 16) : ((Sha.firsts bs 16).take i ++ zero64.drop i).length = 64 := by simp [Sha.firsts, zero64]; omega

set_option maxRecDepth 100000 in
set_option maxHeartbeats 2000000 in
theorem refOf_any (s : ByteArray) (hs : s.size ≤ 90000) (DG : List UInt8) (hDG : Sha.sha s.data.toList = DG) (w : World) (hK : RefKeys w) :
    Calls Tryz.prog 33 #[.string s] w fun e w' => e = .returned (.agg (DG.map byteVal).toArray) ∧ Below w.heap.size w w' := by
  have HK := hide hK
  have h0 := hK.lt
  obtain ⟨F, hF⟩ : ∃ F, Sha.full s.data.toList = F := ⟨_, rfl⟩
  have HPD := hide (padded_any s hs F hF)
  have hF64 : F.length % 64 = 0 := by rw [← hF]; exact Sha.full_len _
  have hFl : F.length ≤ 90100 := by rw [← hF, Sha.full, List.length_append, Sha.pad_len]; have : s.data.toList.length = s.size := rfl; omega
  have HDG : Hid (∀ n, n = F.length / 64 → Sha.digest (Sha.hashN F n) = DG) := hide fun n hn => by rw [hn, ← hDG, Sha.sha, hF]
  have hbd1 := run_build46
  have hbd2 := run_build24'
  clear hK hF hDG
  go_enter Tryz.func33, Tryz.ntmps33
  go_wp2_with (first
    | (refine store_row (by rfl) 95 (.tmp 3) (.tmp 12) (by rfl) (w.heap.size + 1) (Sha.start.map u) (by rfl) (by rfl) 95 (Sha.zero8.map u) (VRow.newAt (by simp)) 8 size30 rfl rfl (one_words _) ?_; intro w1 ho1 hr1; have HO1 := hide ho1; have HR1 := hide hr1; clear ho1 hr1)
    | (go_at_call 58; refine (unhide HPD _).mono ?_; rintro e w2 ⟨g, cap, rfl, hB2, hb2⟩; have HBUF := hide hB2; have HB2 := hide hb2; clear hB2 hb2))
  have hs1 : w1.heap.size = w.heap.size + 2 := by rw [(unhide HO1).size]; simp
  have HI : Hid (Inv w w2 w.heap.size g cap F Sha.start) := by
    have l1 := (unhide HR1).lt
    have z1 : VRow w1 w.heap.size 46 (Sha.zeros.map byteVal) := ((VRow.new w 46 (Sha.zeros.map byteVal)).alloc _).only (unhide HO1) (by omega)
    have b1 : Below w.heap.size w w1 := (((Below.refl w.heap.size w).alloc (Nat.le_refl _) _).alloc (by simp) _).trans ((unhide HO1).below (by omega))
    refine hide ⟨(unhide HR1).below (unhide HB2) l1, z1.below (unhide HB2) z1.lt, ?_, b1.trans ((unhide HB2).mono b1.size)⟩
    have hb := unhide HBUF
    rw [hs1] at hb
    exact hb
  clear HO1 HR1 HBUF HB2 hs1 HPD
  go_loopw [5] (fun av wr => ∃ p A : Nat, 64 * p = A ∧ A ≤ F.length ∧ av = .int .i64 A ∧ Inv w wr w.heap.size g cap F (Sha.hashN F p)) (fun av _ => F.length - (intOf av).toNat)
  case atStart => exact ⟨0, 0, rfl, Nat.zero_le _, rfl, unhide HI⟩
  case round =>
    clear HI
    obtain ⟨p, A, hpA, hAF, rfl, hinv⟩ := hrel
    have HINV := hide hinv
    have HPA := hide hpA
    by_cases hlt : A < F.length
    · have hA64 : A + 64 ≤ F.length := by omega
      obtain ⟨bs, hbs⟩ : ∃ bs, (F.drop (64 * p)).take 64 = bs := ⟨_, rfl⟩
      have hbl : bs.length = 64 := by rw [← hbs]; simp; omega
      have HBA : Hid (∀ j b, bs[j]? = some b → F[A + j]? = some b) := hide fun j b hj => by
        have hj64 : j < 64 := by have := (List.getElem?_eq_some_iff.1 hj).1; omega
        rw [← hbs, List.getElem?_take_of_lt hj64, List.getElem?_drop, hpA] at hj
        exact hj
      have HNX : Hid (Sha.block (Sha.hashN F p) bs = Sha.hashN F (p + 1)) := by rw [← hbs]; exact hide rfl
      have hOH := Sha.ok_hashN F p
      generalize Sha.hashN F p = H at HINV HNX hOH
      have hgB := (unhide HINV).b.lt
      have hzB := (unhide HINV).h.lt
      clear hinv hpA hbs
      go_wp2_with (first
        | (refine store_row (by rfl) 97 (.tmp 6) (.tmp 21) (by rfl) wr.heap.size (zero64.map u) (by rfl) (by rfl) 97 (zero64.map u) (VRow.new _ _ _) 64 size46 (by simp [zero64]) (by simp [zero64]) (one_words _) ?_; intro w3 ho3 hr3; have HI3 := hide (((unhide HINV).alloc _).only ho3 (by omega) (by omega)); have HR3 := hide hr3; clear ho3 hr3))
      generalize wr.heap.size = B at HR3 hgB hzB ⊢
      clear HINV
      go_loopw [7] (fun iv wq => ∃ i : Nat, i ≤ 16 ∧ iv = .int .i64 i ∧ VRow wq B 97 (((Sha.firsts bs 16).take i ++ zero64.drop i).map u) ∧ Inv w wq w.heap.size g cap F H) (fun iv _ => 16 - (intOf iv).toNat)
      case atStart => exact ⟨0, Nat.zero_le _, rfl, unhide HR3, unhide HI3⟩
      case round =>
        clear HR3 HI3
        obtain ⟨i, hi, rfl, hrow, hinv⟩ := hrel
        have HR := hide hrow
        have HI := hide hinv
        clear hrow hinv
        by_cases hi16 : i < 16
        · have HZ := hide (first_zero bs i hi16)
          have HS := hide (first_set bs i hi16)
          have HLn := hide (first_len bs i hi)
          generalize (Sha.firsts bs 16).take i ++ zero64.drop i = L at HR HZ HS HLn
          go_wp2_with fail
          go_loopw [8] (fun kv wq => ∃ k : Nat, k ≤ 4 ∧ kv = .int .i64 k ∧ VRow wq B 97 ((L.set i (wordK bs i k)).map u) ∧ Inv w wq w.heap.size g cap F H) (fun kv _ => 4 - (intOf kv).toNat)
          case atStart => exact ⟨0, Nat.zero_le _, rfl, by rw [wordK_zero, unhide HZ]; exact unhide HR, unhide HI⟩
          case round =>
            clear HR HI
            obtain ⟨k, hk, rfl, hrow, hinv⟩ := hrel
            have HR := hide hrow
            have HI := hide hinv
            by_cases hk4 : k < 4
            · obtain ⟨b, hb⟩ : ∃ b, bs[4 * i + k]? = some b := ⟨_, List.getElem?_eq_getElem (by omega)⟩
              have hbl8 := b.toNat_lt
              have cb : wr.cell? ⟨g, A + 4 * i + k, none⟩ = some (.int .u8 (b.toNat : Int)) := by
                have := hinv.b.cell _ _ (unhide HBA (4 * i + k) b hb)
                rwa [← Nat.add_assoc] at this
              have cw := hrow.word i (wordK bs i k) (by rw [List.getElem?_set_self (by have := unhide HLn; omega)])
              have fw := hrow.frozen i
              have hwl := wordK_lt bs i k (by omega)
              have HW := hide (wordK_succ bs i k b hb)
              generalize wordK bs i k = x at cw hwl HW HR
              obtain ⟨y, hy⟩ : ∃ y, wordK bs i (k + 1) = y := ⟨_, rfl⟩
              rw [hy] at HW
              have HY := hide hy
              clear hy
              have hA2 : (x : Int) * 256 + (b.toNat : Int) = (y : Int) := by rw [unhide HW]; omega
              clear hrow hinv hb
              go_wp2_with fail
              go_region
              go_wp2_with fail
              go_roundw
              case rel =>
                refine ⟨k + 1, by omega, by go_num, ?_, ((unhide HI).set i _ (by omega) (by omega)).drew⟩
                have h2 := ((unhide HR).setWord i y).drew
                rw [List.set_set] at h2
                rw [unhide HY]
                exact h2
              case measure => simp [intOf]; omega
            · obtain rfl : k = 4 := by omega
              rw [wordK_four, unhide HS] at HR
              clear hrow hinv
              go_wp2_with fail
              go_roundw
              case rel => exact ⟨i + 1, by omega, by go_num, unhide HR, unhide HI⟩
              case measure => simp [intOf]; omega
        · obtain rfl : i = 16 := by omega
          have HR4 : Hid (VRow wr B 97 ((Sha.wide bs (16 - 16) ++ zero64.drop 16).map u)) := by
            have h := unhide HR
            rw [List.take_of_length_le (by simp [Sha.firsts])] at h
            exact hide h
          clear HR
          go_wp2_with fail
          go_loopw [9] (fun jv wq => ∃ j : Nat, 16 ≤ j ∧ j ≤ 64 ∧ jv = .int .i64 j ∧ VRow wq B 97 ((Sha.wide bs (j - 16) ++ zero64.drop j).map u) ∧ Inv w wq w.heap.size g cap F H) (fun jv _ => 64 - (intOf jv).toNat)
          case atStart => exact ⟨16, Nat.le_refl _, by decide, rfl, unhide HR4, unhide HI⟩
          case round =>
            clear HR4 HI
            obtain ⟨k, hk, hk2, rfl, hrow, hinv⟩ := hrel
            have HR := hide hrow
            have HI := hide hinv
            by_cases hlt4 : k < 64
            · have HN := hide (wide_set bs hbl k hk hlt4)
              obtain ⟨g2, l2⟩ := wide_get bs hbl k hk (k - 2) (by omega)
              obtain ⟨g15, l15⟩ := wide_get bs hbl k hk (k - 15) (by omega)
              obtain ⟨g16, l16⟩ := wide_get bs hbl k hk (k - 16) (by omega)
              obtain ⟨g7, l7⟩ := wide_get bs hbl k hk (k - 7) (by omega)
              have c2 := hrow.word (k - 2) _ g2
              have c15 := hrow.word (k - 15) _ g15
              have c16 := hrow.word (k - 16) _ g16
              have c7 := hrow.word (k - 7) _ g7
              have eN : Sha.next (Sha.wide bs (k - 16)) = ((Sha.wide bs (k - 16)).getD (k - 16) 0 + Sha.s0 ((Sha.wide bs (k - 16)).getD (k - 15) 0) + (Sha.wide bs (k - 16)).getD (k - 7) 0 + Sha.s1 ((Sha.wide bs (k - 16)).getD (k - 2) 0)) % 4294967296 := by
                rw [Sha.next, (Sha.ok_wide bs hbl (k - 16)).1, show 16 + (k - 16) = k by omega]
              obtain ⟨v0, c4⟩ := hrow.there k (by rw [List.length_map, List.length_append, (Sha.ok_wide bs hbl (k - 16)).1]; simp [zero64]; omega)
              have f4 := hrow.frozen k
              clear g2 g15 g16 g7
              generalize (Sha.wide bs (k - 16)).getD (k - 2) 0 = x2 at c2 eN l2
              generalize (Sha.wide bs (k - 16)).getD (k - 15) 0 = x15 at c15 eN l15
              generalize (Sha.wide bs (k - 16)).getD (k - 16) 0 = x16 at c16 eN l16
              generalize (Sha.wide bs (k - 16)).getD (k - 7) 0 = x7 at c7 eN l7
              generalize Sha.next (Sha.wide bs (k - 16)) = X at eN HN
              have hs0 := s0_bits x15 l15
              have hs1 := s1_bits x2 l2
              obtain ⟨X1, e1⟩ : ∃ X1, (x16 + Sha.s0 x15) % 4294967296 = X1 := ⟨_, rfl⟩
              obtain ⟨X2, e2⟩ : ∃ X2, (X1 + x7) % 4294967296 = X2 := ⟨_, rfl⟩
              have hA1 : IntKind.u32.wrap ((x16 : Int) + (Sha.s0 x15 : Int)) = (X1 : Int) := by rw [IntKind.wrap_u32, ← e1]; simp
              have hA2 : IntKind.u32.wrap ((X1 : Int) + (x7 : Int)) = (X2 : Int) := by rw [IntKind.wrap_u32, ← e2]; simp
              have hA3 : IntKind.u32.wrap ((X2 : Int) + (Sha.s1 x2 : Int)) = (X : Int) := by rw [IntKind.wrap_u32, eN, ← e2, ← e1]; simp
              obtain ⟨i16, q16⟩ : ∃ i, k - 16 = i := ⟨_, rfl⟩
              obtain ⟨i15, q15⟩ : ∃ i, k - 15 = i := ⟨_, rfl⟩
              obtain ⟨i7, q7⟩ : ∃ i, k - 7 = i := ⟨_, rfl⟩
              obtain ⟨i2, q2⟩ : ∃ i, k - 2 = i := ⟨_, rfl⟩
              rw [q16] at c16
              rw [q15] at c15
              rw [q7] at c7
              rw [q2] at c2
              have w16 : IntKind.i64.wrap ((k : Int) - 16) = (i16 : Int) := by rw [wrap_small _ (by omega) (by omega)]; omega
              have w15 : IntKind.i64.wrap ((k : Int) - 15) = (i15 : Int) := by rw [wrap_small _ (by omega) (by omega)]; omega
              have w7 : IntKind.i64.wrap ((k : Int) - 7) = (i7 : Int) := by rw [wrap_small _ (by omega) (by omega)]; omega
              have w2 : IntKind.i64.wrap ((k : Int) - 2) = (i2 : Int) := by rw [wrap_small _ (by omega) (by omega)]; omega
              have b16 : (i16 : Int) < 64 := by omega
              have b15 : (i15 : Int) < 64 := by omega
              have b7 : (i7 : Int) < 64 := by omega
              have b2 : (i2 : Int) < 64 := by omega
              have bk : (k : Int) < 64 := by omega
              clear hrow hinv eN e1 e2 q16 q15 q7 q2
              go_wp2_with fail
              refine wp_region_still_tail 47 (by kernel_rfl) (by kernel_rfl) ?_
              simp only [List.take_succ_cons, List.take_zero, List.drop_succ_cons, List.drop_zero]
              repeat (first | still_step | still_call (refTurn_any _ (by assumption) _ (by decide) (by decide) _))
              refine wpStill_nil ?_
              go_wp2_with fail
              go_roundw
              case rel =>
                (repeat apply Exists.intro)
                refine ⟨?_, rfl⟩
                refine ⟨k + 1, by omega, by omega, by go_num, ?_, ((unhide HI).set k _ (by omega) (by omega)).drew⟩
                rw [← unhide HN]
                exact ((unhide HR).setWord k X).drew
              case measure => simp [intOf]; omega
            · obtain rfl : k = 64 := by omega
              obtain ⟨RW, hRW⟩ : ∃ RW, Sha.wide bs 48 = RW := ⟨_, rfl⟩
              have HR5 : Hid (VRow wr B 97 (RW.map u)) := by
                rw [List.drop_of_length_le (by simp [zero64]), List.append_nil, hRW] at hrow
                exact hide hrow
              have hRO : Sha.Ok 64 RW := by rw [← hRW]; exact Sha.ok_wide bs hbl 48
              obtain ⟨FIN, hFIN⟩ : ∃ FIN, Sha.run H RW 64 = FIN := ⟨_, rfl⟩
              have hFO : Sha.Ok 8 FIN := by rw [← hFIN]; exact hOH.run RW 64
              have HBK : Hid (List.zipWith Sha.add FIN H = Sha.hashN F (p + 1)) := by
                rw [← unhide HNX, Sha.block, hRW, hFIN, List.zipWith_comm_of_comm add_comm']
                exact hide rfl
              have HRD := hide (round_any H RW FIN hOH hRO (fun n hn => hn ▸ hFIN) hFO wr ((unhide HK).below hinv.bel h0))
              have hzl : ((List.zipWith Sha.add FIN H).map u).length = 8 := by simp [hFO.1, hOH.1]
              have hHl : (H.map u).length = 8 := by simp [hOH.1]
              have hRl : (RW.map u).length = 64 := by simp [hRO.1]
              have hone := one_words (List.zipWith Sha.add FIN H)
              generalize (List.zipWith Sha.add FIN H) = H2 at HBK HRD hzl hone
              have hBsz := hrow.lt
              clear hrow hinv HR hRW hFIN hFO hRO
              go_wp2_with (first
                | (refine load_row (by rfl) 95 (.tmp 3) (by rfl) (w.heap.size + 1) (by rfl) 95 (H.map u) (unhide HI).h 8 8 94 Tryz.underlying95 size30 hHl ?_)
                | (refine load_row (by rfl) 97 (.tmp 6) (by rfl) B (by rfl) 97 (RW.map u) (unhide HR5) 64 64 94 Tryz.underlying97 size46 hRl ?_)
                | (go_at_call 60; refine (unhide HRD).mono ?_; rintro e w5 ⟨rfl, hb5⟩; have HI5 := hide ((unhide HI).below hb5); clear hb5)
                | (refine store_row (by rfl) 95 (.tmp 3) (.tmp 100) (by rfl) (w.heap.size + 1) (H2.map u) (by rfl) (by rfl) 95 (H.map u) (unhide HI5).h 8 size30 hzl hHl hone ?_; intro w6 ho6 hr6; have HI6 := hide ((unhide HI5).next ho6 hr6); clear ho6 hr6))
              go_roundw
              case rel =>
                have hpa := unhide HPA
                refine ⟨p + 1, A + 64, by omega, by omega, by go_num, ?_⟩
                rw [← unhide HBK]
                exact unhide HI6
              case measure => simp [intOf]; omega
    · obtain rfl : A = F.length := by omega
      have hDG2 := unhide HDG p (by omega)
      have hOH := Sha.ok_hashN F p
      generalize Sha.hashN F p = H at HINV hDG2 hOH
      have hgB := (unhide HINV).b.lt
      have hzB := (unhide HINV).h.lt
      have hDl : DG.length = 32 := by rw [← hDG2]; exact Sha.digest_len H
      have HD2 := hide hDG2
      clear hinv hpA hDG2
      go_wp2_with (first
        | (refine store_row (by rfl) 46 (.tmp 10) (.tmp 101) (by rfl) wr.heap.size (Sha.zeros.map byteVal) (by rfl) (by rfl) 46 (Sha.zeros.map byteVal) (VRow.new _ _ _) 32 size24 rfl rfl (one_bytes _) ?_; intro w3 ho3 hr3; have HI3 := hide (((unhide HINV).alloc _).only ho3 (by omega) (by omega)); have HR3 := hide hr3; clear ho3 hr3))
      generalize wr.heap.size = B at HR3 hgB hzB ⊢
      clear HINV
      go_loopw [11] (fun iv wq => ∃ k : Nat, k ≤ 32 ∧ iv = .int .i64 k ∧ VRow wq B 46 ((DG.take k ++ Sha.zeros.drop k).map byteVal) ∧ Inv w wq w.heap.size g cap F H) (fun iv _ => 32 - (intOf iv).toNat)
      case atStart => exact ⟨0, Nat.zero_le _, rfl, unhide HR3, unhide HI3⟩
      case round =>
        clear HR3 HI3
        obtain ⟨k, hk, rfl, hrow, hinv⟩ := hrel
        have HR := hide hrow
        have HI := hide hinv
        by_cases hlt2 : k < 32
        · obtain ⟨x, hx⟩ : ∃ x, H[k / 4]? = some x := ⟨_, List.getElem?_eq_getElem (by rw [hOH.1]; omega)⟩
          have c1 := hinv.h.word (k / 4) x hx
          obtain ⟨v0, c2⟩ := hrow.there k (by rw [List.length_map, List.length_append, List.length_take, hDl]; simp [Sha.zeros]; omega)
          have f2 := hrow.frozen k
          have hx4 : x < 4294967296 := hOH.2 x (List.mem_of_getElem? hx)
          obtain ⟨y, hy⟩ : ∃ y, UInt8.ofNat (x / 2 ^ (24 - 8 * (k % 4)) % 256) = y := ⟨_, rfl⟩
          have HA : Hid ((x : Int) / 2 ^ (24 - 8 * (k % 4)) % 256 = (y.toNat : Int)) := by
            rw [← hy, u8_of _ (Nat.mod_lt _ (by decide))]
            exact hide (by simp)
          have e : DG[k]? = some y := by
            rw [← unhide HD2, List.getElem?_eq_getElem (by rw [Sha.digest_len]; exact hlt2)]
            simp [Sha.digest, hx, ← hy]
          have HN := hide (Sha.mid_setQ' DG Sha.zeros k y e (by simpa [Sha.zeros] using hlt2))
          clear hrow hinv hx hy e
          go_wp2_with fail
          go_roundw
          case rel =>
            rw [unhide HA]
            refine ⟨k + 1, by omega, by go_num, ?_, (unhide HI).set k _ (by omega) (by omega)⟩
            rw [← unhide HN]
            exact (unhide HR).setByte k y
          case measure => simp [intOf]; omega
        · obtain rfl : k = 32 := by omega
          rw [Sha.mid_all _ _ 32 (by omega) (by simp [Sha.zeros])] at HR
          clear hrow hinv
          go_wp2_with (first
            | (refine load_row (by rfl) 46 (.tmp 10) (by rfl) B (by rfl) 46 _ (unhide HR) 32 32 5 Tryz.underlying46 size24 (by rw [List.length_map]; exact hDl) ?_)
            | (refine store_row (by rfl) 46 (.tmp 2) (.tmp 119) (by rfl) w.heap.size (DG.map byteVal) (by rfl) (by rfl) 46 (Sha.zeros.map byteVal) (unhide HI).z 32 size24 (by rw [List.length_map]; exact hDl) rfl (one_bytes _) ?_; intro w6 ho6 hr6; have HO6 := hide ho6; have HR6 := hide hr6; clear ho6 hr6))
          refine bodyPost_ret (v := .agg (DG.map byteVal).toArray) ?_ rfl ⟨rfl, ?_⟩
          · exact results_cell_row rfl _ _ w.heap.size 46 _ (0, 0) _ rfl (unhide HR6) Tryz.underlying46 rfl (by rw [size24]; simp [hDl])
          · exact (unhide HI).bel.trans ((unhide HO6).below (Nat.le_refl _))
end Go.Proofs.YtebjlmnhpfoglaaGreatDoor.Hsh

/-
  A node's digest: the program's Sum and the document's. The condition: the package's tables hold what its text lays there.
-/

namespace Go.Proofs.YtebjlmnhpfoglaaGreatDoor
open Go.RowKit

theorem encT_len (l : List UInt8) : (encT l).length ≤ 5 + l.length := by
  have := Cnt.putL_len l.length
  unfold encT
  rw [List.length_append]
  omega
theorem encKs_len : ∀ (l : List Kd), Digs l → (∀ k ∈ l, k.1.size ≤ 12) → (encKs l).length ≤ 49 * l.length
  | [], _, _ => by simp [encKs]
  | k :: l, hd, hn => by
    have h1 := encKs_len l (fun x hx => hd x (List.mem_cons_of_mem _ hx)) fun x hx => hn x (List.mem_cons_of_mem _ hx)
    have h2 := encT_len k.1.data.toList
    rw [size_data] at h2
    have h3 := hn k (List.mem_cons_self ..)
    have h4 := hd k (List.mem_cons_self ..)
    have e : encKs (k :: l) = (encT k.1.data.toList ++ k.2) ++ encKs l := by simp [encKs, encK]
    rw [e, List.length_append, List.length_append, List.length_cons]
    omega
theorem encN_small {n : Nd} (hn : Nok n) (h : chkN n = 0) : (encN n).length ≤ 60000 := by
  obtain ⟨h1, h2, h3⟩ := chkN_zero h
  have h4 := wLeaf_len ([], 0) n.vs
  rw [wLeaf_enc _ h1] at h4
  have h5 := encKs_len n.ks hn.digs (chkK_names _ _ h3)
  have h6 := Cnt.putL_len n.ks.length
  unfold encN
  simp only [List.nil_append, List.length_append, List.length_nil] at h4 ⊢
  omega
theorem results_dig {fn : Func} (hf : fn.results = #[.cell 2 46]) (tmps : Array Value) (w : World) (g : Nat) (vs : List Value) (hp : tmps.getD 2 undef = .pointer (some ⟨g, 0, none⟩)) (hr : VRow w g 46 vs) (hn : vs.length = 32) :
    (results fn tmps).run Tryz.prog w = .ok (.agg vs.toArray) w := by
  have hp' : tmps[2]?.getD undef = .pointer (some ⟨g, 0, none⟩) := by simpa using hp
  have hl := run_loadVar_row (P := Tryz.prog) w g 46 46 vs.toArray (0, 0) _ hr Tryz.underlying46 rfl (by rw [sizeDg]; simp [hn])
  simp [results, hf, hp', asAddr, hl]
theorem of_digest (t : ByteArray) (ht : t.size < 10000000) (w : World) (hG : Hsh.Glob w) :
    Calls Tryz.prog 108 #[.string t] w fun e w' => e = .returned (.agg ((Hsh.Sha.sha t.data.toList).map byteVal).toArray) ∧ Below w.heap.size w w' := Hsh.Of_any t ht w hG
theorem refOf_digest (t : ByteArray) (ht : t.size ≤ 90000) (w : World) (hK : Hsh.RefKeys w) :
    Calls Tryz.prog 33 #[.string t] w fun e w' => e = .returned (.agg ((Hsh.Sha.sha t.data.toList).map byteVal).toArray) ∧ Below w.heap.size w w' := Hsh.refOf_any t ht _ rfl w hK

set_option maxRecDepth 100000 in
set_option maxHeartbeats 2000000 in
theorem sumN_any (a : Option Addr) (c : Nat) (b : Option Addr) (d : Nat) (n : Nd) (hn : Nok n) (w : World) (h : NdAt w n a c b d) (hG : Hsh.Glob w) (h2 : 3 < w.heap.size) :
    Calls Tryz.prog 76 #[.agg (ndL n a c b d).toArray] w fun e w' => e = .returned (.agg ((sumN n).map byteVal).toArray) ∧ Below w.heap.size w w' := by
  have HB0 := hide ((below_alloc' (w := w) (.cells (ndL n a c b d).toArray 52)).alloc (by simp) (.cells (zero32.map byteVal).toArray 46))
  have HR0 := hide ((VRow.new w 52 (ndL n a c b d)).alloc (.cells (zero32.map byteVal).toArray 46))
  have HZ0 := hide (VRow.newAt (W := w.alloc (.cells (ndL n a c b d).toArray 52)) (T := 46) (n := w.heap.size + 1) (vs := zero32.map byteVal) (by simp))
  have KB := hide (bytesN_any a c b d n hn _ (h.after (unhide HB0)))
  have HG := hide hG
  have HL32 : Hid (((sumN n).map byteVal).length = 32) := hide (by rw [List.length_map]; exact sumN_len n)
  have hz32 : (zero32.map byteVal).length = 32 := rfl
  have hbd : ∀ w, (Instr.build 46 #[]).run Tryz.prog w = .ok (.agg (zero32.map byteVal).toArray) w := fun w => run_buildDg w
  have HON := hide (one_bytes (sumN n))
  have HOZ := hide (one_bytes zero32)
  have HSM := hide (fun hz => encN_small hn (n := n) hz)
  have HX1 := hide (fun (hz : chkN n = 0) => (by unfold sumN; rw [if_neg (by simpa using hz)] : sumN n = Hsh.Sha.sha (encN n)))
  have HX2 := hide (fun (hz : chkN n ≠ 0) => show sumN n = zero32 from if_pos hz)
  generalize sumN n = S at HL32 HON HX1 HX2 ⊢
  by_cases hz : chkN n = 0
  · have KO := hide fun W hW => of_digest (str (encN n)) (by rw [str_size]; have := unhide HSM hz; omega) W hW
    rw [str_data, ← unhide HX1 hz] at KO
    rw [bytes_ok hz] at KB
    dsimp only at KB
    generalize str (encN n) = T at KB KO
    clear h hG hz HX1 HX2 HSM hn
    go_enter Tryz.func76, Tryz.ntmps76
    go_wp2_with (refine load_node (by rfl) (.tmp 1) (by rfl) w.heap.size (by rfl) (ndL n a c b d) (unhide HR0) rfl ?_)
    refine (unhide KB).mono ?_
    rintro e w1 ⟨rfl, hb⟩
    have HB1 := hide (below_grow (unhide HB0) (Nat.le_refl _) hb)
    have HZ1 := hide ((unhide HZ0).after hb)
    clear hb KB
    go_wp2_with fail
    refine (unhide KO _ ((unhide HG).below (unhide HB1) (by omega))).mono ?_
    rintro e w2 ⟨rfl, hb⟩
    have HB2 := hide (below_grow (unhide HB1) (Nat.le_refl _) hb)
    have HZ2 := hide ((unhide HZ1).after hb)
    clear hb KO
    go_wp2_with (refine store_row (by rfl) 46 (.tmp 2) (.tmp 14) (by rfl) (w.heap.size + 1) (S.map byteVal) (by rfl) (by rfl) 46 (zero32.map byteVal) (unhide HZ2) 32 sizeDg (unhide HL32) hz32 (unhide HON) ?_; intro w3 ho3 hr3; have HO3 := hide ho3; have HR3 := hide hr3; clear ho3 hr3)
    refine bodyPost_ret (v := .agg (S.map byteVal).toArray) ?_ rfl ⟨rfl, (unhide HB2).trans ((unhide HO3).below (Nat.le_succ _))⟩
    exact results_dig rfl _ _ (w.heap.size + 1) _ rfl (unhide HR3) (unhide HL32)
  · obtain rfl := unhide HX2 hz
    rw [bytes_bad hz] at KB
    dsimp only at KB
    have hne : (chkN n != 0) = true := bne_iff_ne.2 hz
    generalize chkN n = E at KB hne
    clear h hG hz HX1 HX2 HSM hn
    go_enter Tryz.func76, Tryz.ntmps76
    go_wp2_with (refine load_node (by rfl) (.tmp 1) (by rfl) w.heap.size (by rfl) (ndL n a c b d) (unhide HR0) rfl ?_)
    refine (unhide KB).mono ?_
    rintro e w1 ⟨rfl, hb⟩
    have HB1 := hide (below_grow (unhide HB0) (Nat.le_refl _) hb)
    have HZ1 := hide ((unhide HZ0).after hb)
    clear hb KB
    go_wp2_with (refine store_row (by rfl) 46 (.tmp 2) (.tmp 12) (by rfl) (w.heap.size + 1) (zero32.map byteVal) (by rfl) (by rfl) 46 (zero32.map byteVal) (unhide HZ1) 32 sizeDg hz32 hz32 (unhide HOZ) ?_; intro w3 ho3 hr3; have HO3 := hide ho3; have HR3 := hide hr3; clear ho3 hr3)
    refine bodyPost_ret (v := .agg (zero32.map byteVal).toArray) ?_ rfl ⟨rfl, (unhide HB1).trans ((unhide HO3).below (Nat.le_succ _))⟩
    exact results_dig rfl _ _ (w.heap.size + 1) _ rfl (unhide HR3) hz32

set_option maxRecDepth 100000 in
set_option maxHeartbeats 2000000 in
theorem refSumN_any (a : Option Addr) (c : Nat) (b : Option Addr) (d : Nat) (n : Nd) (hn : Nok n) (hdata : ∀ v ∈ n.vs, v.data.size ≤ 9223372036854775807) (w : World) (h : NdAt w n a c b d) (hG : Hsh.RefKeys w) (h2 : 3 < w.heap.size) :
    Calls Tryz.prog 47 #[.agg (ndL n a c b d).toArray] w fun e w' => e = .returned (.agg ((sumN n).map byteVal).toArray) ∧ Below w.heap.size w w' := by
  have HB0 := hide ((below_alloc' (w := w) (.cells (ndL n a c b d).toArray 52)).alloc (by simp) (.cells (zero32.map byteVal).toArray 46))
  have HR0 := hide ((VRow.new w 52 (ndL n a c b d)).alloc (.cells (zero32.map byteVal).toArray 46))
  have HZ0 := hide (VRow.newAt (W := w.alloc (.cells (ndL n a c b d).toArray 52)) (T := 46) (n := w.heap.size + 1) (vs := zero32.map byteVal) (by simp))
  have KB := hide (refBytesN_any a c b d n hn hdata _ (h.after (unhide HB0)))
  have HG := hide hG
  have HL32 : Hid (((sumN n).map byteVal).length = 32) := hide (by rw [List.length_map]; exact sumN_len n)
  have hz32 : (zero32.map byteVal).length = 32 := rfl
  have hbd : ∀ w, (Instr.build 46 #[]).run Tryz.prog w = .ok (.agg (zero32.map byteVal).toArray) w := fun w => run_buildDg w
  have HON := hide (one_bytes (sumN n))
  have HOZ := hide (one_bytes zero32)
  have HSM := hide (fun hz => encN_small hn (n := n) hz)
  have HX1 := hide (fun (hz : chkN n = 0) => (by unfold sumN; rw [if_neg (by simpa using hz)] : sumN n = Hsh.Sha.sha (encN n)))
  have HX2 := hide (fun (hz : chkN n ≠ 0) => show sumN n = zero32 from if_pos hz)
  generalize sumN n = S at HL32 HON HX1 HX2 ⊢
  by_cases hz : chkN n = 0
  · have KO := hide fun W hW => refOf_digest (str (encN n)) (by rw [str_size]; have := unhide HSM hz; omega) W hW
    rw [str_data, ← unhide HX1 hz] at KO
    rw [bytes_ok hz] at KB
    dsimp only at KB
    generalize str (encN n) = T at KB KO
    clear h hG hz HX1 HX2 HSM hn
    go_enter Tryz.func47, Tryz.ntmps47
    go_wp2_with (refine load_node (by rfl) (.tmp 1) (by rfl) w.heap.size (by rfl) (ndL n a c b d) (unhide HR0) rfl ?_)
    refine (unhide KB).mono ?_
    rintro e w1 ⟨rfl, hb⟩
    have HB1 := hide (below_grow (unhide HB0) (Nat.le_refl _) hb)
    have HZ1 := hide ((unhide HZ0).after hb)
    clear hb KB
    go_wp2_with fail
    refine (unhide KO _ ((unhide HG).below (unhide HB1) (by omega))).mono ?_
    rintro e w2 ⟨rfl, hb⟩
    have HB2 := hide (below_grow (unhide HB1) (Nat.le_refl _) hb)
    have HZ2 := hide ((unhide HZ1).after hb)
    clear hb KO
    go_wp2_with (refine store_row (by rfl) 46 (.tmp 2) (.tmp 14) (by rfl) (w.heap.size + 1) (S.map byteVal) (by rfl) (by rfl) 46 (zero32.map byteVal) (unhide HZ2) 32 sizeDg (unhide HL32) hz32 (unhide HON) ?_; intro w3 ho3 hr3; have HO3 := hide ho3; have HR3 := hide hr3; clear ho3 hr3)
    refine bodyPost_ret (v := .agg (S.map byteVal).toArray) ?_ rfl ⟨rfl, (unhide HB2).trans ((unhide HO3).below (Nat.le_succ _))⟩
    exact results_dig rfl _ _ (w.heap.size + 1) _ rfl (unhide HR3) (unhide HL32)
  · obtain rfl := unhide HX2 hz
    rw [bytes_bad hz] at KB
    dsimp only at KB
    have hne : (chkN n != 0) = true := bne_iff_ne.2 hz
    generalize chkN n = E at KB hne
    clear h hG hz HX1 HX2 HSM hn
    go_enter Tryz.func47, Tryz.ntmps47
    go_wp2_with (refine load_node (by rfl) (.tmp 1) (by rfl) w.heap.size (by rfl) (ndL n a c b d) (unhide HR0) rfl ?_)
    refine (unhide KB).mono ?_
    rintro e w1 ⟨rfl, hb⟩
    have HB1 := hide (below_grow (unhide HB0) (Nat.le_refl _) hb)
    have HZ1 := hide ((unhide HZ0).after hb)
    clear hb KB
    go_wp2_with (refine store_row (by rfl) 46 (.tmp 2) (.tmp 12) (by rfl) (w.heap.size + 1) (zero32.map byteVal) (by rfl) (by rfl) 46 (zero32.map byteVal) (unhide HZ1) 32 sizeDg hz32 hz32 (unhide HOZ) ?_; intro w3 ho3 hr3; have HO3 := hide ho3; have HR3 := hide hr3; clear ho3 hr3)
    refine bodyPost_ret (v := .agg (zero32.map byteVal).toArray) ?_ rfl ⟨rfl, (unhide HB1).trans ((unhide HO3).below (Nat.le_succ _))⟩
    exact results_dig rfl _ _ (w.heap.size + 1) _ rfl (unhide HR3) hz32
end Go.Proofs.YtebjlmnhpfoglaaGreatDoor

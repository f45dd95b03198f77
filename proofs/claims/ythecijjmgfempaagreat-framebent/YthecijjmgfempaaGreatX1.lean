/-
  The message that bytes are: the program's Read.
-/
import Derived.Test.YthecijjmgfempaaGreatT5e
import Derived.Test.YthecijjmgfempaaGreatN3
namespace Go.Proofs.YthecijjmgfempaaGreat
open Go.RowKit

theorem rText_most (st : St) (most : Int) (h : 0 ≤ most) : (rText st most).1.length ≤ most.toNat := by
  unfold rText
  split
  · exact Nat.zero_le _
  · split
    · exact Nat.zero_le _
    · rw [List.length_take]
      have := rNumber_most st most h
      omega
theorem few_rows (st : St) : FewR (rRows st).1 := by
  have h1 := itR_len (rNumber st 64).1.toNat (rNumber st 64).2
  have h2 := rCount st
  refine ⟨by unfold rRows; omega, fun ds hds => ?_⟩
  have := itR_few (rNumber st 64).1.toNat (rNumber st 64).2 ds hds
  omega
theorem rBody_few (k : Int) (S : St) : FewM (rBody k S).1 := by
  unfold rBody
  split
  · exact ⟨rDigest_32 _, Nat.zero_le _, Nat.le_trans (rVec_len _) (by omega), few_rows _, Nat.zero_le _⟩
  · split
    · refine ⟨rDigest_32 _, ?_, Nat.zero_le _, ⟨Nat.zero_le _, fun _ h => by cases h⟩, Nat.zero_le _⟩
      have h := rText_most (rDigest (rHS k S)).2 51 (by omega)
      show (str _).size ≤ 1000
      rw [str_size]
      omega
    · split
      · refine ⟨rfl, ?_, Nat.zero_le _, ⟨Nat.zero_le _, fun _ h => by cases h⟩, ?_⟩
        · have h := rText_most (rHS k S) 51 (by omega)
          show (str _).size ≤ 1000
          rw [str_size]
          omega
        · have h := rText_most (rText (rHS k S) 51).2 65536 (by omega)
          show (str _).size ≤ 9223372036854775807
          rw [str_size]
          omega
      · split
        · exact ⟨rfl, Nat.zero_le _, Nat.zero_le _, ⟨Nat.zero_le _, fun _ h => by cases h⟩, Nat.zero_le _⟩
        · exact ⟨rfl, Nat.zero_le _, Nat.zero_le _, ⟨Nat.zero_le _, fun _ h => by cases h⟩, Nat.zero_le _⟩
theorem rMsg_few (st : St) : FewM (rMsg st).1 := rBody_few _ _
/-- Why bytes are no message. -/
def readErr (st : St) : Int := if rDone (rMsg st).2 ≠ 0 then rDone (rMsg st).2 else checkM (rMsg st).1
/-- The message that bytes are, or what is wrong. -/
def readM (st : St) : Msg × Int := if readErr st ≠ 0 then (zeroM, readErr st) else ((rMsg st).1, 0)
theorem RProv.beside {O : Nat → Prop} {W W' : World} {q : Nat} {a : Option Addr} {rows : List (List Vc.D)} (h : RProv O W a rows) (hs : RL W a rows) (hb : Beside (· = q) W W') (hq : ¬ O q) : RProv O W' a rows := fun h0 g o e => by
  obtain ⟨h1, h2⟩ := h h0 g o e
  obtain ⟨g', o', e', hg, hc'⟩ := hs h0
  rw [e] at e'
  injection e' with e'
  injection e' with e1 e2
  subst e1
  subst e2
  refine ⟨h1, fun j ds r c hj hc => ?_⟩
  obtain ⟨r1, c1, h3, _, _⟩ := hc' j ds hj
  have h4 := cell_beside (q := ⟨g, o + j, Option.none⟩) hb (fun e => hq (by have e2 : g = q := e; rw [← e2]; exact h1)) h3
  rw [h4] at hc
  injection hc with hc
  injection hc with hr _ _
  subst hr
  exact h2 j ds r1 c1 hj h3
def ReadMade (w : World) (x : Msg × Int) (e : Ending) (w' : World) : Prop :=
  ∃ a c b d, e = .returned (.tuple #[.agg (mL x.1 a c b d).toArray, .int .i64 x.2]) ∧ Fresh w.heap.size a x.1.ctx ∧ RProv (fun g => w.heap.size ≤ g) w' b x.1.rows ∧ Sl w' a x.1.ctx ∧ RL w' b x.1.rows ∧ Below w.heap.size w w'
theorem results_msg14 (tmps : Array Value) (w : World) (g : Nat) (vs : List Value) (v : Value) (hp : tmps.getD 2 undef = .pointer (some ⟨g, 0, none⟩)) (hq : tmps.getD 3 undef = v) (hr : VRow w g 28 vs) (hn : vs.length = 41) :
    (results Tryz.f33 tmps).run Tryz.prog w = .ok (.tuple #[.agg vs.toArray, v]) w := by
  have hp' : tmps[2]?.getD undef = .pointer (some ⟨g, 0, none⟩) := by simpa using hp
  have hq' : tmps[3]?.getD undef = v := by simpa using hq
  have hl := run_loadVar_row (P := Tryz.prog) w g 28 28 vs.toArray (0, 0) _ hr Tryz.underlying28 rfl (by rw [sizeM]; simp [hn])
  simp [results, hp', hq', asAddr, hl]
theorem Only.beside {B : Nat} {w w' : World} (h : Only B w w') : Beside (· = B) w w' := ⟨h.os, h.tape, h.output, Nat.le_of_eq h.size.symm, fun k _ hn => h.block k hn⟩
theorem mZ_len : mZ.length = 41 := rfl
theorem mZ_one : ∀ v ∈ mZ, v.oneCell' = true := mL_one _ _ _ _ _

set_option maxRecDepth 100000 in
theorem mZ_lit : mZ = [.int .i64 0, .int .i64 0, .int .i64 0, .int .i64 0, .bool false, .string ⟨#[]⟩, .int .u8 0, .int .u8 0, .int .u8 0, .int .u8 0, .int .u8 0, .int .u8 0, .int .u8 0, .int .u8 0, .int .u8 0, .int .u8 0, .int .u8 0, .int .u8 0, .int .u8 0, .int .u8 0, .int .u8 0, .int .u8 0, .int .u8 0, .int .u8 0, .int .u8 0, .int .u8 0, .int .u8 0, .int .u8 0, .int .u8 0, .int .u8 0, .int .u8 0, .int .u8 0, .int .u8 0, .int .u8 0, .int .u8 0, .int .u8 0, .int .u8 0, .int .u8 0, .slice none 0 0, .slice none 0 0, .string ⟨#[]⟩] := by kernel_rfl
set_option maxRecDepth 100000 in
set_option maxHeartbeats 2000000 in
theorem read_any (s : ByteArray) (hs : s.size ≤ 40000000) (w : World) : Calls Tryz.prog 33 #[.string s] w (ReadMade w (readM (s.data.toList, 0))) := by
  have HZ0 : Hid (VRow ((w.alloc (.cells #[.int .i64 0, .int .i64 0, .int .i64 0, .int .i64 0, .bool false, .string ⟨#[]⟩, .int .u8 0, .int .u8 0, .int .u8 0, .int .u8 0, .int .u8 0, .int .u8 0, .int .u8 0, .int .u8 0, .int .u8 0, .int .u8 0, .int .u8 0, .int .u8 0, .int .u8 0, .int .u8 0, .int .u8 0, .int .u8 0, .int .u8 0, .int .u8 0, .int .u8 0, .int .u8 0, .int .u8 0, .int .u8 0, .int .u8 0, .int .u8 0, .int .u8 0, .int .u8 0, .int .u8 0, .int .u8 0, .int .u8 0, .int .u8 0, .int .u8 0, .int .u8 0, .slice none 0 0, .slice none 0 0, .string ⟨#[]⟩] 28)).alloc (.cells #[.int .i64 0, .int .i64 0, .int .i64 0, .int .i64 0, .bool false, .string ⟨#[]⟩, .int .u8 0, .int .u8 0, .int .u8 0, .int .u8 0, .int .u8 0, .int .u8 0, .int .u8 0, .int .u8 0, .int .u8 0, .int .u8 0, .int .u8 0, .int .u8 0, .int .u8 0, .int .u8 0, .int .u8 0, .int .u8 0, .int .u8 0, .int .u8 0, .int .u8 0, .int .u8 0, .int .u8 0, .int .u8 0, .int .u8 0, .int .u8 0, .int .u8 0, .int .u8 0, .int .u8 0, .int .u8 0, .int .u8 0, .int .u8 0, .int .u8 0, .int .u8 0, .slice none 0 0, .slice none 0 0, .string ⟨#[]⟩] 28)) w.heap.size 28 mZ) := hide (by rw [mZ_lit]; exact (VRow.new w 28 [.int .i64 0, .int .i64 0, .int .i64 0, .int .i64 0, .bool false, .string ⟨#[]⟩, .int .u8 0, .int .u8 0, .int .u8 0, .int .u8 0, .int .u8 0, .int .u8 0, .int .u8 0, .int .u8 0, .int .u8 0, .int .u8 0, .int .u8 0, .int .u8 0, .int .u8 0, .int .u8 0, .int .u8 0, .int .u8 0, .int .u8 0, .int .u8 0, .int .u8 0, .int .u8 0, .int .u8 0, .int .u8 0, .int .u8 0, .int .u8 0, .int .u8 0, .int .u8 0, .int .u8 0, .int .u8 0, .int .u8 0, .int .u8 0, .int .u8 0, .int .u8 0, .slice none 0 0, .slice none 0 0, .string ⟨#[]⟩]).alloc _)
  have HZ1 : Hid (VRow ((w.alloc (.cells #[.int .i64 0, .int .i64 0, .int .i64 0, .int .i64 0, .bool false, .string ⟨#[]⟩, .int .u8 0, .int .u8 0, .int .u8 0, .int .u8 0, .int .u8 0, .int .u8 0, .int .u8 0, .int .u8 0, .int .u8 0, .int .u8 0, .int .u8 0, .int .u8 0, .int .u8 0, .int .u8 0, .int .u8 0, .int .u8 0, .int .u8 0, .int .u8 0, .int .u8 0, .int .u8 0, .int .u8 0, .int .u8 0, .int .u8 0, .int .u8 0, .int .u8 0, .int .u8 0, .int .u8 0, .int .u8 0, .int .u8 0, .int .u8 0, .int .u8 0, .int .u8 0, .slice none 0 0, .slice none 0 0, .string ⟨#[]⟩] 28)).alloc (.cells #[.int .i64 0, .int .i64 0, .int .i64 0, .int .i64 0, .bool false, .string ⟨#[]⟩, .int .u8 0, .int .u8 0, .int .u8 0, .int .u8 0, .int .u8 0, .int .u8 0, .int .u8 0, .int .u8 0, .int .u8 0, .int .u8 0, .int .u8 0, .int .u8 0, .int .u8 0, .int .u8 0, .int .u8 0, .int .u8 0, .int .u8 0, .int .u8 0, .int .u8 0, .int .u8 0, .int .u8 0, .int .u8 0, .int .u8 0, .int .u8 0, .int .u8 0, .int .u8 0, .int .u8 0, .int .u8 0, .int .u8 0, .int .u8 0, .int .u8 0, .int .u8 0, .slice none 0 0, .slice none 0 0, .string ⟨#[]⟩] 28)) (w.heap.size + 1) 28 mZ) := hide (by rw [mZ_lit]; exact VRow.newAt (by simp))
  have HB := hide ((below_alloc' (w := w) (.cells #[.int .i64 0, .int .i64 0, .int .i64 0, .int .i64 0, .bool false, .string ⟨#[]⟩, .int .u8 0, .int .u8 0, .int .u8 0, .int .u8 0, .int .u8 0, .int .u8 0, .int .u8 0, .int .u8 0, .int .u8 0, .int .u8 0, .int .u8 0, .int .u8 0, .int .u8 0, .int .u8 0, .int .u8 0, .int .u8 0, .int .u8 0, .int .u8 0, .int .u8 0, .int .u8 0, .int .u8 0, .int .u8 0, .int .u8 0, .int .u8 0, .int .u8 0, .int .u8 0, .int .u8 0, .int .u8 0, .int .u8 0, .int .u8 0, .int .u8 0, .int .u8 0, .slice none 0 0, .slice none 0 0, .string ⟨#[]⟩] 28)).alloc (by simp) (.cells #[.int .i64 0, .int .i64 0, .int .i64 0, .int .i64 0, .bool false, .string ⟨#[]⟩, .int .u8 0, .int .u8 0, .int .u8 0, .int .u8 0, .int .u8 0, .int .u8 0, .int .u8 0, .int .u8 0, .int .u8 0, .int .u8 0, .int .u8 0, .int .u8 0, .int .u8 0, .int .u8 0, .int .u8 0, .int .u8 0, .int .u8 0, .int .u8 0, .int .u8 0, .int .u8 0, .int .u8 0, .int .u8 0, .int .u8 0, .int .u8 0, .int .u8 0, .int .u8 0, .int .u8 0, .int .u8 0, .int .u8 0, .int .u8 0, .int .u8 0, .int .u8 0, .slice none 0 0, .slice none 0 0, .string ⟨#[]⟩] 28))
  have HSZ : Hid (((w.alloc (.cells #[.int .i64 0, .int .i64 0, .int .i64 0, .int .i64 0, .bool false, .string ⟨#[]⟩, .int .u8 0, .int .u8 0, .int .u8 0, .int .u8 0, .int .u8 0, .int .u8 0, .int .u8 0, .int .u8 0, .int .u8 0, .int .u8 0, .int .u8 0, .int .u8 0, .int .u8 0, .int .u8 0, .int .u8 0, .int .u8 0, .int .u8 0, .int .u8 0, .int .u8 0, .int .u8 0, .int .u8 0, .int .u8 0, .int .u8 0, .int .u8 0, .int .u8 0, .int .u8 0, .int .u8 0, .int .u8 0, .int .u8 0, .int .u8 0, .int .u8 0, .int .u8 0, .slice none 0 0, .slice none 0 0, .string ⟨#[]⟩] 28)).alloc (.cells #[.int .i64 0, .int .i64 0, .int .i64 0, .int .i64 0, .bool false, .string ⟨#[]⟩, .int .u8 0, .int .u8 0, .int .u8 0, .int .u8 0, .int .u8 0, .int .u8 0, .int .u8 0, .int .u8 0, .int .u8 0, .int .u8 0, .int .u8 0, .int .u8 0, .int .u8 0, .int .u8 0, .int .u8 0, .int .u8 0, .int .u8 0, .int .u8 0, .int .u8 0, .int .u8 0, .int .u8 0, .int .u8 0, .int .u8 0, .int .u8 0, .int .u8 0, .int .u8 0, .int .u8 0, .int .u8 0, .int .u8 0, .int .u8 0, .int .u8 0, .int .u8 0, .slice none 0 0, .slice none 0 0, .string ⟨#[]⟩] 28)).heap.size = w.heap.size + 2) := hide (by simp)
  have hlen : s.data.toList.length ≤ 50000000 := by rw [size_data]; omega
  have KN := hide (rnew_d s ((w.alloc (.cells #[.int .i64 0, .int .i64 0, .int .i64 0, .int .i64 0, .bool false, .string ⟨#[]⟩, .int .u8 0, .int .u8 0, .int .u8 0, .int .u8 0, .int .u8 0, .int .u8 0, .int .u8 0, .int .u8 0, .int .u8 0, .int .u8 0, .int .u8 0, .int .u8 0, .int .u8 0, .int .u8 0, .int .u8 0, .int .u8 0, .int .u8 0, .int .u8 0, .int .u8 0, .int .u8 0, .int .u8 0, .int .u8 0, .int .u8 0, .int .u8 0, .int .u8 0, .int .u8 0, .int .u8 0, .int .u8 0, .int .u8 0, .int .u8 0, .int .u8 0, .int .u8 0, .slice none 0 0, .slice none 0 0, .string ⟨#[]⟩] 28)).alloc (.cells #[.int .i64 0, .int .i64 0, .int .i64 0, .int .i64 0, .bool false, .string ⟨#[]⟩, .int .u8 0, .int .u8 0, .int .u8 0, .int .u8 0, .int .u8 0, .int .u8 0, .int .u8 0, .int .u8 0, .int .u8 0, .int .u8 0, .int .u8 0, .int .u8 0, .int .u8 0, .int .u8 0, .int .u8 0, .int .u8 0, .int .u8 0, .int .u8 0, .int .u8 0, .int .u8 0, .int .u8 0, .int .u8 0, .int .u8 0, .int .u8 0, .int .u8 0, .int .u8 0, .int .u8 0, .int .u8 0, .int .u8 0, .int .u8 0, .int .u8 0, .int .u8 0, .slice none 0 0, .slice none 0 0, .string ⟨#[]⟩] 28)))
  obtain ⟨st, hst⟩ : ∃ st, ((s.data.toList, 0) : St) = st := ⟨_, rfl⟩
  rw [hst] at KN
  rw [unhide HSZ] at KN
  rw [hst]
  have HLN : Hid (st.1.length ≤ 50000000) := hide (by rw [← hst]; exact hlen)
  have HFW := hide (rMsg_few st)
  obtain ⟨E1, hE1⟩ : ∃ E, rDone (rMsg st).2 = E := ⟨_, rfl⟩
  obtain ⟨E2, hE2⟩ : ∃ E, checkM (rMsg st).1 = E := ⟨_, rfl⟩
  have hR : readM st = if (if E1 ≠ 0 then E1 else E2) ≠ 0 then (zeroM, if E1 ≠ 0 then E1 else E2) else ((rMsg st).1, 0) := by unfold readM readErr; rw [hE1, hE2]
  have HE1 := hide hE1
  have HE2 := hide hE2
  rw [hR]
  clear hlen hst hE1 hE2 hs hR
  by_cases h1 : E1 = 0
  · subst h1
    rw [if_neg (by simp : ¬ ((0 : Int) ≠ 0))]
    by_cases h2 : E2 = 0
    · subst h2
      rw [if_neg (by simp)]
      go_enter Tryz.func33, Tryz.ntmps33
      go_wp2_with fail
      refine (unhide KN).mono ?_
      rintro e w1 ⟨rfl, hd, hb⟩
      have HD := hide hd
      have HB1 := hide ((unhide HB).trans (hb.mono (by omega)))
      have HY0 := hide ((unhide HZ0).below hb (by omega))
      have HY1 := hide ((unhide HZ1).below hb (by omega))
      have HSZ1 : Hid (w.heap.size + 2 < w1.heap.size) := hide hd.lt
      have KT := hide (throughT_any (unhide HY1) hd (unhide HLN) (by omega))
      clear hd hb KN
      go_wp2_with fail
      refine (unhide KT).mono ?_
      rintro e w2 ⟨rfl, a, c, b, d, hT, hc, hdd, hsl, hfr, hrl, hpv⟩
      have HT := hide hT
      have HSL := hide hsl
      have HFR := hide hfr
      have HRL := hide hrl
      have HPV := hide hpv
      have HY02 := hide ((unhide HY0).beside hT.keep (by rintro (e | e) <;> omega))
      have HB2 := hide ((unhide HB1).trans (hT.keep.below (unhide HB1).size (by rintro g (rfl | rfl) <;> omega)))
      have HL2 := hide (mL_len (unhide HFW).root a c b d)
      have HO2 := hide (mL_one (rMsg st).1 a c b d)
      have KD := hide (rdone_at hT.doc)
      rw [unhide HE1] at KD
      have KC := hide (checkM_any (rMsg st).1 a b c d w2 (unhide HFW) hsl hrl)
      rw [unhide HE2] at KC
      clear hT hc hdd hsl hfr hrl hpv KT
      go_wp2_with fail
      refine (unhide KD).mono ?_
      rintro e w3 ⟨rfl, rfl⟩
      go_wp2_with ((with_reducible refine at27 ?_); (refine load_msg (by rfl) (.tmp 4) (by rfl) (w.heap.size + 1) (by rfl) _ (unhide HT).row (unhide HL2) ?_))
      refine (unhide KC).mono ?_
      rintro e w4 ⟨rfl, hb⟩
      have HB4 := hide (below_grow (unhide HB2) (Nat.le_refl _) hb)
      have HT4 := hide ((unhide HT).row.after hb)
      have HY4 := hide ((unhide HY02).after hb)
      have HSL4 := hide ((unhide HSL).after hb)
      have HRL4 := hide ((unhide HRL).after hb)
      have HPV4 := hide ((unhide HPV).after (unhide HRL) hb)
      clear hb
      go_wp2_with (first
        | ((with_reducible refine at27 ?_); (refine load_msg (by rfl) (.tmp 4) (by rfl) (w.heap.size + 1) (by rfl) _ (unhide HT4) (unhide HL2) ?_))
        | ((with_reducible refine atS27 ?_); (refine store_row (by rfl) 28 (.tmp 2) (.tmp 23) (by rfl) w.heap.size _ (by rfl) (by rfl) 28 mZ (unhide HY4) 41 sizeM (unhide HL2) mZ_len (unhide HO2) ?_); intro w5 ho5 hr5; have HO5 := hide ho5; have HR5 := hide hr5; clear ho5 hr5))
      refine bodyPost_ret (v := .tuple #[.agg (mL (rMsg st).1 a c b d).toArray, .int .i64 0]) ?_ rfl ⟨a, c, b, d, rfl, (unhide HFR).weak (by have := unhide HSZ1; omega), ((unhide HPV4).beside (unhide HRL4) (unhide HO5).beside (by have h9 := unhide HSZ1; omega)).weak (fun g hg => by have h8 : w1.heap.size ≤ g := hg; have h9 := unhide HSZ1; omega), ?_, ?_, ?_⟩
      · exact results_msg14 _ _ w.heap.size _ _ rfl rfl (unhide HR5) (unhide HL2)
      · exact (unhide HSL4).besideO (unhide HO5).beside fun ad e h0 h => by have h8 := unhide HFR ad e h0; have h9 := unhide HSZ1; have h : ad.block = w.heap.size := h; omega
      · exact (unhide HRL4).beside (unhide HPV4) (unhide HO5).beside (by have h9 := unhide HSZ1; omega)
      · exact (unhide HB4).trans ((unhide HO5).below (Nat.le_refl _))
    · rw [if_pos h2]
      have hne : (E2 != 0) = true := bne_iff_ne.2 h2
      have hne2 : (E2 == 0) = false := beq_eq_false_iff_ne.2 h2
      go_enter Tryz.func33, Tryz.ntmps33
      go_wp2_with fail
      refine (unhide KN).mono ?_
      rintro e w1 ⟨rfl, hd, hb⟩
      have HD := hide hd
      have HB1 := hide ((unhide HB).trans (hb.mono (by omega)))
      have HY0 := hide ((unhide HZ0).below hb (by omega))
      have HY1 := hide ((unhide HZ1).below hb (by omega))
      have HSZ1 : Hid (w.heap.size + 2 < w1.heap.size) := hide hd.lt
      have KT := hide (throughT_any (unhide HY1) hd (unhide HLN) (by omega))
      clear hd hb KN
      go_wp2_with fail
      refine (unhide KT).mono ?_
      rintro e w2 ⟨rfl, a, c, b, d, hT, hc, hdd, hsl, hfr, hrl, hpv⟩
      have HT := hide hT
      have HSL := hide hsl
      have HFR := hide hfr
      have HRL := hide hrl
      have HPV := hide hpv
      have HY02 := hide ((unhide HY0).beside hT.keep (by rintro (e | e) <;> omega))
      have HB2 := hide ((unhide HB1).trans (hT.keep.below (unhide HB1).size (by rintro g (rfl | rfl) <;> omega)))
      have HL2 := hide (mL_len (unhide HFW).root a c b d)
      have HO2 := hide (mL_one (rMsg st).1 a c b d)
      have KD := hide (rdone_at hT.doc)
      rw [unhide HE1] at KD
      have KC := hide (checkM_any (rMsg st).1 a b c d w2 (unhide HFW) hsl hrl)
      rw [unhide HE2] at KC
      clear hT hc hdd hsl hfr hrl hpv KT
      go_wp2_with fail
      refine (unhide KD).mono ?_
      rintro e w3 ⟨rfl, rfl⟩
      go_wp2_with ((with_reducible refine at27 ?_); (refine load_msg (by rfl) (.tmp 4) (by rfl) (w.heap.size + 1) (by rfl) _ (unhide HT).row (unhide HL2) ?_))
      refine (unhide KC).mono ?_
      rintro e w4 ⟨rfl, hb⟩
      have HB4 := hide (below_grow (unhide HB2) (Nat.le_refl _) hb)
      have HY4 := hide ((unhide HY02).after hb)
      clear hb
      go_wp2_with ((with_reducible refine atS27 ?_); (refine store_row (by rfl) 28 (.tmp 2) (.tmp 21) (by rfl) w.heap.size [.int .i64 0, .int .i64 0, .int .i64 0, .int .i64 0, .bool false, .string ⟨#[]⟩, .int .u8 0, .int .u8 0, .int .u8 0, .int .u8 0, .int .u8 0, .int .u8 0, .int .u8 0, .int .u8 0, .int .u8 0, .int .u8 0, .int .u8 0, .int .u8 0, .int .u8 0, .int .u8 0, .int .u8 0, .int .u8 0, .int .u8 0, .int .u8 0, .int .u8 0, .int .u8 0, .int .u8 0, .int .u8 0, .int .u8 0, .int .u8 0, .int .u8 0, .int .u8 0, .int .u8 0, .int .u8 0, .int .u8 0, .int .u8 0, .int .u8 0, .int .u8 0, .slice none 0 0, .slice none 0 0, .string ⟨#[]⟩] (by rfl) (by rfl) 28 mZ (unhide HY4) 41 sizeM rfl mZ_len (by rw [← mZ_lit]; exact mZ_one) ?_); intro w5 ho5 hr5; have HO5 := hide ho5; have HR5 := hide hr5; clear ho5 hr5)
      refine bodyPost_ret (v := .tuple #[.agg (mL zeroM none 0 none 0).toArray, .int .i64 E2]) ?_ rfl ⟨none, 0, none, 0, rfl, Fresh.nil _ _, RProv.none _ _ _, Sl.none _ _, RL.none _ _, ?_⟩
      · have h9 := unhide HR5
        rw [← mZ_lit] at h9
        exact results_msg14 _ _ w.heap.size _ _ rfl rfl h9 mZ_len
      · exact (unhide HB4).trans ((unhide HO5).below (Nat.le_refl _))
  · rw [if_pos h1, if_pos h1]
    have hne : (E1 != 0) = true := bne_iff_ne.2 h1
    have hne2 : (E1 == 0) = false := beq_eq_false_iff_ne.2 h1
    go_enter Tryz.func33, Tryz.ntmps33
    go_wp2_with fail
    refine (unhide KN).mono ?_
    rintro e w1 ⟨rfl, hd, hb⟩
    have HD := hide hd
    have HB1 := hide ((unhide HB).trans (hb.mono (by omega)))
    have HY0 := hide ((unhide HZ0).below hb (by omega))
    have HY1 := hide ((unhide HZ1).below hb (by omega))
    have HSZ1 : Hid (w.heap.size + 2 < w1.heap.size) := hide hd.lt
    have KT := hide (throughT_any (unhide HY1) hd (unhide HLN) (by omega))
    clear hd hb KN
    go_wp2_with fail
    refine (unhide KT).mono ?_
    rintro e w2 ⟨rfl, a, c, b, d, hT, hc, hdd, hsl, hfr, hrl, hpv⟩
    have HT := hide hT
    have HSL := hide hsl
    have HFR := hide hfr
    have HRL := hide hrl
    have HPV := hide hpv
    have HY02 := hide ((unhide HY0).beside hT.keep (by rintro (e | e) <;> omega))
    have HB2 := hide ((unhide HB1).trans (hT.keep.below (unhide HB1).size (by rintro g (rfl | rfl) <;> omega)))
    have HL2 := hide (mL_len (unhide HFW).root a c b d)
    have HO2 := hide (mL_one (rMsg st).1 a c b d)
    have KD := hide (rdone_at hT.doc)
    rw [unhide HE1] at KD
    have KC := hide (checkM_any (rMsg st).1 a b c d w2 (unhide HFW) hsl hrl)
    rw [unhide HE2] at KC
    clear hT hc hdd hsl hfr hrl hpv KT
    go_wp2_with fail
    refine (unhide KD).mono ?_
    rintro e w3 ⟨rfl, rfl⟩
    go_wp2_with ((with_reducible refine atS27 ?_); (refine store_row (by rfl) 28 (.tmp 2) (.tmp 21) (by rfl) w.heap.size [.int .i64 0, .int .i64 0, .int .i64 0, .int .i64 0, .bool false, .string ⟨#[]⟩, .int .u8 0, .int .u8 0, .int .u8 0, .int .u8 0, .int .u8 0, .int .u8 0, .int .u8 0, .int .u8 0, .int .u8 0, .int .u8 0, .int .u8 0, .int .u8 0, .int .u8 0, .int .u8 0, .int .u8 0, .int .u8 0, .int .u8 0, .int .u8 0, .int .u8 0, .int .u8 0, .int .u8 0, .int .u8 0, .int .u8 0, .int .u8 0, .int .u8 0, .int .u8 0, .int .u8 0, .int .u8 0, .int .u8 0, .int .u8 0, .int .u8 0, .int .u8 0, .slice none 0 0, .slice none 0 0, .string ⟨#[]⟩] (by rfl) (by rfl) 28 mZ (unhide HY02) 41 sizeM rfl mZ_len (by rw [← mZ_lit]; exact mZ_one) ?_); intro w5 ho5 hr5; have HO5 := hide ho5; have HR5 := hide hr5; clear ho5 hr5)
    refine bodyPost_ret (v := .tuple #[.agg (mL zeroM none 0 none 0).toArray, .int .i64 E1]) ?_ rfl ⟨none, 0, none, 0, rfl, Fresh.nil _ _, RProv.none _ _ _, Sl.none _ _, RL.none _ _, ?_⟩
    · have h9 := unhide HR5
      rw [← mZ_lit] at h9
      exact results_msg14 _ _ w.heap.size _ _ rfl rfl h9 mZ_len
    · exact (unhide HB2).trans ((unhide HO5).below (Nat.le_refl _))
end Go.Proofs.YthecijjmgfempaaGreat

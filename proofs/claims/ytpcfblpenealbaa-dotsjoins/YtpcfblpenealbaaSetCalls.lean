/-
  What Has and Len of a set answer, the program's and the document's; whether two sets are the same; a set handed on.
-/
import Derived.Test.YtpcfblpenealbaaHasS
namespace Go.Proofs.Ytpcfblpenealbaa
open Go.RowKit

def hasS (B E : List Vc.D) (d : Vc.D) : Bool := decide (Vc.checkS B E = 0 ∧ Vc.In B E d)
theorem hasS_bad {B E : List Vc.D} {d : Vc.D} (h : ¬ Vc.checkS B E = 0) : hasS B E d = false := decide_eq_false fun h' => h h'.1
theorem hasS_in {B E : List Vc.D} {d : Vc.D} (h : Vc.checkS B E = 0) (hd : d ∈ E) : hasS B E d = true := decide_eq_true ⟨h, .inr hd⟩
theorem hasS_out {B E : List Vc.D} {d : Vc.D} (h : Vc.checkS B E = 0) (hd : d ∉ E) : hasS B E d = has B d := by
  have hs := (Vc.checkS_zero B E).1 h
  unfold hasS has Vc.In
  rw [Vc.get_vec hs.base, ← Bool.decide_and, decide_eq_decide]
  simp [h, hd]
theorem hasS_has {B E : List Vc.D} {d : Vc.D} (h : Vc.checkS B E = 0) (hd : has B d = true) : hasS B E d = true := by
  have hs := (Vc.checkS_zero B E).1 h
  unfold has at hd
  rw [Vc.get_vec hs.base, Bool.and_eq_true, decide_eq_true_iff, decide_eq_true_iff] at hd
  exact decide_eq_true ⟨h, .inl hd⟩

set_option maxRecDepth 100000 in
set_option maxHeartbeats 2000000 in
theorem setHas_any (r1 r2 : Option Addr) (c1 c2 : Nat) (B E : List Vc.D) (hB : B.length ≤ 100000) (hE : E.length ≤ 100000) (p c : Int) (w : World) (s1 : Sl w r1 B) (s2 : Sl w r2 E) :
    Calls Try.prog 13 #[.agg #[.slice r1 B.length c1, .slice r2 E.length c2], .agg #[.int .i64 p, .int .i64 c]] w fun e w' => e = .returned (.bool (hasS B E (p, c))) ∧ Below w.heap.size w w' := by
  have HB0 := hide ((below_alloc' (w := w) (.cells #[.slice r1 B.length c1, .slice r2 E.length c2] 29)).alloc (by simp) (.cells #[.int .i64 p, .int .i64 c] 26))
  have RS := hide ((VRow.new w 29 [.slice r1 B.length c1, .slice r2 E.length c2]).alloc (.cells #[.int .i64 p, .int .i64 c] 26))
  have RT := hide (VRow.newAt (W := w.alloc (.cells #[.slice r1 B.length c1, .slice r2 E.length c2] 29)) (T := 26) (n := w.heap.size + 1) (vs := [.int .i64 p, .int .i64 c]) (by simp))
  have S1 := hide (s1.after (unhide HB0))
  have S2 := hide (s2.after (unhide HB0))
  have KC := hide fun W h h' => setCheck_any r1 r2 c1 c2 B E hB hE W h h'
  have rs0 := (unhide RS).cell 0 _ rfl
  have rs1 := (unhide RS).cell 1 _ rfl
  have rt0 := (unhide RT).cell 0 _ rfl
  have rt1 := (unhide RT).cell 1 _ rfl
  obtain ⟨H, hH⟩ : ∃ H, hasS B E (p, c) = H := ⟨_, rfl⟩
  rw [hH]
  clear s1 s2
  by_cases hz : Vc.checkS B E = 0
  · have hs := (Vc.checkS_zero B E).1 hz
    rw [hz] at KC
    by_cases hd : (p, c) ∈ E
    · have K35 := hide fun W h => bsearch_any r2 c2 E hE hs.ris p c W h true (by simp [hd])
      obtain rfl : true = H := by rw [← hH]; exact (hasS_in hz hd).symm
      clear hs hz hd hH
      go_enter Try.func13, Try.ntmps13
      go_wp2_with fail
      generalize (w.alloc (.cells #[.slice r1 B.length c1, .slice r2 E.length c2] 29)).alloc (.cells #[.int .i64 p, .int .i64 c] 26) = w0 at HB0 RS RT S1 S2 rs0 rs1 rt0 rt1 ⊢
      refine (unhide KC _ (unhide S1) (unhide S2)).mono ?_
      rintro e w1 ⟨rfl, hb⟩
      replace HB0 := hide (below_grow (unhide HB0) (Nat.le_refl _) hb)
      replace RS := hide ((unhide RS).after hb)
      replace RT := hide ((unhide RT).after hb)
      replace S1 := hide ((unhide S1).after hb)
      replace S2 := hide ((unhide S2).after hb)
      clear hb
      clear rs0 rs1 rt0 rt1
      have rs0 := (unhide RS).cell 0 _ rfl
      have rs1 := (unhide RS).cell 1 _ rfl
      have rt0 := (unhide RT).cell 0 _ rfl
      have rt1 := (unhide RT).cell 1 _ rfl
      go_wp2_with fail
      refine (unhide K35 _ (unhide S2)).mono ?_
      rintro e w2 ⟨⟨i, rfl⟩, hb⟩
      replace HB0 := hide (below_grow (unhide HB0) (Nat.le_refl _) hb)
      replace RS := hide ((unhide RS).after hb)
      replace RT := hide ((unhide RT).after hb)
      replace S1 := hide ((unhide S1).after hb)
      replace S2 := hide ((unhide S2).after hb)
      clear hb
      clear rs0 rs1 rt0 rt1
      go_wp2_with fail
      go_ret
      exact ⟨rfl, unhide HB0⟩
    · have K35 := hide fun W h => bsearch_any r2 c2 E hE hs.ris p c W h false (by simp [hd])
      have K36 := hide fun W h => has_any r1 c1 B hB p c W h
      rw [show has B (p, c) = H by rw [← hH]; exact (hasS_out hz hd).symm] at K36
      clear hs hz hd hH
      go_enter Try.func13, Try.ntmps13
      go_wp2_with fail
      generalize (w.alloc (.cells #[.slice r1 B.length c1, .slice r2 E.length c2] 29)).alloc (.cells #[.int .i64 p, .int .i64 c] 26) = w0 at HB0 RS RT S1 S2 rs0 rs1 rt0 rt1 ⊢
      refine (unhide KC _ (unhide S1) (unhide S2)).mono ?_
      rintro e w1 ⟨rfl, hb⟩
      replace HB0 := hide (below_grow (unhide HB0) (Nat.le_refl _) hb)
      replace RS := hide ((unhide RS).after hb)
      replace RT := hide ((unhide RT).after hb)
      replace S1 := hide ((unhide S1).after hb)
      replace S2 := hide ((unhide S2).after hb)
      clear hb
      clear rs0 rs1 rt0 rt1
      have rs0 := (unhide RS).cell 0 _ rfl
      have rs1 := (unhide RS).cell 1 _ rfl
      have rt0 := (unhide RT).cell 0 _ rfl
      have rt1 := (unhide RT).cell 1 _ rfl
      go_wp2_with fail
      refine (unhide K35 _ (unhide S2)).mono ?_
      rintro e w2 ⟨⟨i, rfl⟩, hb⟩
      replace HB0 := hide (below_grow (unhide HB0) (Nat.le_refl _) hb)
      replace RS := hide ((unhide RS).after hb)
      replace RT := hide ((unhide RT).after hb)
      replace S1 := hide ((unhide S1).after hb)
      replace S2 := hide ((unhide S2).after hb)
      clear hb
      clear rs0 rs1 rt0 rt1
      have rs0 := (unhide RS).cell 0 _ rfl
      have rs1 := (unhide RS).cell 1 _ rfl
      have rt0 := (unhide RT).cell 0 _ rfl
      have rt1 := (unhide RT).cell 1 _ rfl
      go_wp2_with fail
      refine (unhide K36 _ (unhide S1)).mono ?_
      rintro e w3 ⟨rfl, hb⟩
      replace HB0 := hide (below_grow (unhide HB0) (Nat.le_refl _) hb)
      replace RS := hide ((unhide RS).after hb)
      replace RT := hide ((unhide RT).after hb)
      replace S1 := hide ((unhide S1).after hb)
      replace S2 := hide ((unhide S2).after hb)
      clear hb
      go_wp2_with fail
      go_ret
      exact ⟨rfl, unhide HB0⟩
  · obtain rfl : false = H := by rw [← hH]; exact (hasS_bad hz).symm
    have hzb : (Vc.checkS B E != 0) = true := bne_iff_ne.2 hz
    generalize Vc.checkS B E = C at *
    clear hz hH
    go_enter Try.func13, Try.ntmps13
    go_wp2_with fail
    refine (unhide KC _ (unhide S1) (unhide S2)).mono ?_
    rintro e w1 ⟨rfl, hb⟩
    replace HB0 := hide (below_grow (unhide HB0) (Nat.le_refl _) hb)
    replace S1 := hide ((unhide S1).after hb)
    clear hb
    go_wp2_with fail
    go_ret
    exact ⟨rfl, unhide HB0⟩

set_option maxRecDepth 100000 in
set_option maxHeartbeats 2000000 in
theorem refSetHas_any (r1 r2 : Option Addr) (c1 c2 : Nat) (B E : List Vc.D) (hB : B.length ≤ 100000) (hE : E.length ≤ 100000) (p c : Int) (w : World) (s1 : Sl w r1 B) (s2 : Sl w r2 E) :
    Calls Try.prog 14 #[.agg #[.slice r1 B.length c1, .slice r2 E.length c2], .agg #[.int .i64 p, .int .i64 c]] w fun e w' => e = .returned (.bool (hasS B E (p, c))) ∧ Below w.heap.size w w' := by
  have HB0 := hide ((below_alloc' (w := w) (.cells #[.slice r1 B.length c1, .slice r2 E.length c2] 24)).alloc (by simp) (.cells #[.int .i64 p, .int .i64 c] 26))
  have RS := hide ((VRow.new w 24 [.slice r1 B.length c1, .slice r2 E.length c2]).alloc (.cells #[.int .i64 p, .int .i64 c] 26))
  have RT := hide (VRow.newAt (W := w.alloc (.cells #[.slice r1 B.length c1, .slice r2 E.length c2] 24)) (T := 26) (n := w.heap.size + 1) (vs := [.int .i64 p, .int .i64 c]) (by simp))
  have S1 := hide (s1.after (unhide HB0))
  have S2 := hide (s2.after (unhide HB0))
  have KC := hide fun W h h' => refSetCheck_any r1 r2 c1 c2 B E hB hE W h h'
  have rs0 := (unhide RS).cell 0 _ rfl
  have rs1 := (unhide RS).cell 1 _ rfl
  have rt0 := (unhide RT).cell 0 _ rfl
  have rt1 := (unhide RT).cell 1 _ rfl
  obtain ⟨H, hH⟩ : ∃ H, hasS B E (p, c) = H := ⟨_, rfl⟩
  rw [hH]
  clear s1 s2
  by_cases hz : Vc.checkS B E = 0
  · rw [hz] at KC
    have K37 := hide fun W h => refHas_any r1 c1 B hB p c W h
    by_cases hh : has B (p, c) = true
    · obtain rfl : true = H := by rw [← hH]; exact (hasS_has hz hh).symm
      rw [hh] at K37
      clear hz hh hH
      go_enter Try.func14, Try.ntmps14
      go_wp2_with fail
      generalize (w.alloc (.cells #[.slice r1 B.length c1, .slice r2 E.length c2] 24)).alloc (.cells #[.int .i64 p, .int .i64 c] 26) = w0 at HB0 RS RT S1 S2 rs0 rs1 rt0 rt1 ⊢
      refine (unhide KC _ (unhide S1) (unhide S2)).mono ?_
      rintro e w1 ⟨rfl, hb⟩
      replace HB0 := hide (below_grow (unhide HB0) (Nat.le_refl _) hb)
      replace RS := hide ((unhide RS).after hb)
      replace RT := hide ((unhide RT).after hb)
      replace S1 := hide ((unhide S1).after hb)
      replace S2 := hide ((unhide S2).after hb)
      clear hb
      clear rs0 rs1 rt0 rt1
      have rs0 := (unhide RS).cell 0 _ rfl
      have rs1 := (unhide RS).cell 1 _ rfl
      have rt0 := (unhide RT).cell 0 _ rfl
      have rt1 := (unhide RT).cell 1 _ rfl
      go_wp2_with fail
      refine (unhide K37 _ (unhide S1)).mono ?_
      rintro e w2 ⟨rfl, hb⟩
      replace HB0 := hide (below_grow (unhide HB0) (Nat.le_refl _) hb)
      replace RS := hide ((unhide RS).after hb)
      replace RT := hide ((unhide RT).after hb)
      replace S1 := hide ((unhide S1).after hb)
      replace S2 := hide ((unhide S2).after hb)
      clear hb
      clear rs0 rs1 rt0 rt1
      go_wp2_with fail
      go_ret
      exact ⟨rfl, unhide HB0⟩
    · have hf : has B (p, c) = false := by
        cases h : has B (p, c) with
        | false => rfl
        | true => exact absurd h hh
      rw [hf] at K37
      have K38 := hide fun W h => in_any r2 c2 E hE p c W h H (by
        rw [← hH]
        constructor
        · intro h
          by_cases hd : (p, c) ∈ E
          · exact hd
          · rw [hasS_out hz hd, hf] at h
            cases h
        · intro h
          exact hasS_in hz h)
      clear hz hh hf hH
      go_enter Try.func14, Try.ntmps14
      go_wp2_with fail
      generalize (w.alloc (.cells #[.slice r1 B.length c1, .slice r2 E.length c2] 24)).alloc (.cells #[.int .i64 p, .int .i64 c] 26) = w0 at HB0 RS RT S1 S2 rs0 rs1 rt0 rt1 ⊢
      refine (unhide KC _ (unhide S1) (unhide S2)).mono ?_
      rintro e w1 ⟨rfl, hb⟩
      replace HB0 := hide (below_grow (unhide HB0) (Nat.le_refl _) hb)
      replace RS := hide ((unhide RS).after hb)
      replace RT := hide ((unhide RT).after hb)
      replace S1 := hide ((unhide S1).after hb)
      replace S2 := hide ((unhide S2).after hb)
      clear hb
      clear rs0 rs1 rt0 rt1
      have rs0 := (unhide RS).cell 0 _ rfl
      have rs1 := (unhide RS).cell 1 _ rfl
      have rt0 := (unhide RT).cell 0 _ rfl
      have rt1 := (unhide RT).cell 1 _ rfl
      go_wp2_with fail
      refine (unhide K37 _ (unhide S1)).mono ?_
      rintro e w2 ⟨rfl, hb⟩
      replace HB0 := hide (below_grow (unhide HB0) (Nat.le_refl _) hb)
      replace RS := hide ((unhide RS).after hb)
      replace RT := hide ((unhide RT).after hb)
      replace S1 := hide ((unhide S1).after hb)
      replace S2 := hide ((unhide S2).after hb)
      clear hb
      clear rs0 rs1 rt0 rt1
      have rs0 := (unhide RS).cell 0 _ rfl
      have rs1 := (unhide RS).cell 1 _ rfl
      have rt0 := (unhide RT).cell 0 _ rfl
      have rt1 := (unhide RT).cell 1 _ rfl
      go_wp2_with fail
      refine (unhide K38 _ (unhide S2)).mono ?_
      rintro e w3 ⟨rfl, hb⟩
      replace HB0 := hide (below_grow (unhide HB0) (Nat.le_refl _) hb)
      replace RS := hide ((unhide RS).after hb)
      replace RT := hide ((unhide RT).after hb)
      replace S1 := hide ((unhide S1).after hb)
      replace S2 := hide ((unhide S2).after hb)
      clear hb
      go_wp2_with fail
      go_ret
      exact ⟨rfl, unhide HB0⟩
  · obtain rfl : false = H := by rw [← hH]; exact (hasS_bad hz).symm
    have hzb : (Vc.checkS B E == 0) = false := beq_eq_false_iff_ne.2 hz
    generalize Vc.checkS B E = C at *
    clear hz hH
    go_enter Try.func14, Try.ntmps14
    go_wp2_with fail
    refine (unhide KC _ (unhide S1) (unhide S2)).mono ?_
    rintro e w1 ⟨rfl, hb⟩
    replace HB0 := hide (below_grow (unhide HB0) (Nat.le_refl _) hb)
    replace S1 := hide ((unhide S1).after hb)
    clear hb
    go_wp2_with fail
    go_ret
    exact ⟨rfl, unhide HB0⟩

set_option maxRecDepth 100000 in
set_option maxHeartbeats 2000000 in
theorem setLen_any (r1 r2 : Option Addr) (c1 c2 : Nat) (B E : List Vc.D) (hB : B.length ≤ 100000) (hE : E.length ≤ 100000) (w : World) (s1 : Sl w r1 B) (s2 : Sl w r2 E) :
    Calls Try.prog 15 #[.agg #[.slice r1 B.length c1, .slice r2 E.length c2]] w fun e w' => e = .returned (.int .i64 (Vc.lenS B E)) ∧ Below w.heap.size w w' := by
  have HB0 := hide (below_alloc' (w := w) (.cells #[.slice r1 B.length c1, .slice r2 E.length c2] 29))
  have RS := hide (VRow.new w 29 [.slice r1 B.length c1, .slice r2 E.length c2])
  have S1 := hide (s1.after (unhide HB0))
  have S2 := hide (s2.after (unhide HB0))
  have KC := hide fun W h h' => setCheck_any r1 r2 c1 c2 B E hB hE W h h'
  have rs0 := (unhide RS).cell 0 _ rfl
  have rs1 := (unhide RS).cell 1 _ rfl
  obtain ⟨H, hH⟩ : ∃ H, Vc.lenS B E = H := ⟨_, rfl⟩
  rw [hH]
  clear s1 s2
  by_cases hz : Vc.checkS B E = 0
  · have hs := (Vc.checkS_zero B E).1 hz
    have K := hide fun W h => size_any r1 c1 B hB W h
    obtain ⟨S, hS⟩ : ∃ S, Vc.size B = S := ⟨_, rfl⟩
    have hS' : S = Vc.total B := by rw [← hS]; unfold Vc.size; rw [if_pos ((Vc.check_zero B).2 hs.base)]
    have hbd := Vc.total_bd hs.base
    have hvl := Vc.vec_len hs.base
    rw [← hS'] at hbd
    have hS0 : 0 ≤ S := hbd.1
    have hS1 : S ≤ 67108864 := by omega
    have HH : Hid (H = S + (E.length : Int)) := hide (by rw [← hH]; unfold Vc.lenS Vc.card; rw [if_pos hz, hS'])
    have hw1 : IntKind.i64.wrap (S + (E.length : Int)) = S + (E.length : Int) := wrap_small (by omega) (by omega)
    rw [hS] at K
    rw [hz] at KC
    clear hs hz hH hS hS' hbd hvl
    go_enter Try.func15, Try.ntmps15
    go_wp2_with fail
    generalize w.alloc (.cells #[.slice r1 B.length c1, .slice r2 E.length c2] 29) = w0 at HB0 RS S1 S2 rs0 rs1 ⊢
    refine (unhide KC _ (unhide S1) (unhide S2)).mono ?_
    rintro e w1 ⟨rfl, hb⟩
    replace HB0 := hide (below_grow (unhide HB0) (Nat.le_refl _) hb)
    replace RS := hide ((unhide RS).after hb)
    replace S1 := hide ((unhide S1).after hb)
    replace S2 := hide ((unhide S2).after hb)
    clear hb
    clear rs0 rs1
    have rs0 := (unhide RS).cell 0 _ rfl
    have rs1 := (unhide RS).cell 1 _ rfl
    have q0 := cell_regrown rs0
    have q1 := cell_regrown rs1
    go_wp2_with fail
    refine wp_region_quiet_below (by kernel_rfl) (by kernel_rfl) ?_
    repeat (quiet_step (first | (go_at_call 39; exact Calls.regrown_of (unhide K _ ((unhide S1).after (below_regrown _ _ _))))))
    refine wpQuiet_nil ?_
    intro _ hw'
    obtain ⟨⟨dq, osq⟩, hw''⟩ := hw'
    subst hw''
    go_wp2_with fail
    go_ret
    exact ⟨ret_int (by first | exact (unhide HH).symm | omega), (unhide HB0).trans ((below_regrown _ _ _).mono (unhide HB0).size)⟩
  · obtain rfl : 0 = H := by rw [← hH]; unfold Vc.lenS; rw [if_neg hz]
    have hzb : (Vc.checkS B E != 0) = true := bne_iff_ne.2 hz
    generalize Vc.checkS B E = C at *
    clear hz hH
    go_enter Try.func15, Try.ntmps15
    go_wp2_with fail
    refine (unhide KC _ (unhide S1) (unhide S2)).mono ?_
    rintro e w1 ⟨rfl, hb⟩
    replace HB0 := hide (below_grow (unhide HB0) (Nat.le_refl _) hb)
    replace S1 := hide ((unhide S1).after hb)
    clear hb
    go_wp2_with fail
    go_ret
    exact ⟨rfl, unhide HB0⟩

set_option maxRecDepth 100000 in
set_option maxHeartbeats 2000000 in
theorem refSetLen_any (r1 r2 : Option Addr) (c1 c2 : Nat) (B E : List Vc.D) (hB : B.length ≤ 100000) (hE : E.length ≤ 100000) (w : World) (s1 : Sl w r1 B) (s2 : Sl w r2 E) :
    Calls Try.prog 16 #[.agg #[.slice r1 B.length c1, .slice r2 E.length c2]] w fun e w' => e = .returned (.int .i64 (Vc.lenS B E)) ∧ Below w.heap.size w w' := by
  have HB0 := hide (below_alloc' (w := w) (.cells #[.slice r1 B.length c1, .slice r2 E.length c2] 24))
  have RS := hide (VRow.new w 24 [.slice r1 B.length c1, .slice r2 E.length c2])
  have S1 := hide (s1.after (unhide HB0))
  have S2 := hide (s2.after (unhide HB0))
  have KC := hide fun W h h' => refSetCheck_any r1 r2 c1 c2 B E hB hE W h h'
  have rs0 := (unhide RS).cell 0 _ rfl
  have rs1 := (unhide RS).cell 1 _ rfl
  obtain ⟨H, hH⟩ : ∃ H, Vc.lenS B E = H := ⟨_, rfl⟩
  rw [hH]
  clear s1 s2
  by_cases hz : Vc.checkS B E = 0
  · have hs := (Vc.checkS_zero B E).1 hz
    have K := hide fun W h => refSize_any r1 c1 B hB W h
    obtain ⟨S, hS⟩ : ∃ S, Vc.size B = S := ⟨_, rfl⟩
    have hS' : S = Vc.total B := by rw [← hS]; unfold Vc.size; rw [if_pos ((Vc.check_zero B).2 hs.base)]
    have hbd := Vc.total_bd hs.base
    have hvl := Vc.vec_len hs.base
    rw [← hS'] at hbd
    have hS0 : 0 ≤ S := hbd.1
    have hS1 : S ≤ 67108864 := by omega
    have HH : Hid (H = S + (E.length : Int)) := hide (by rw [← hH]; unfold Vc.lenS Vc.card; rw [if_pos hz, hS'])
    have hw1 : IntKind.i64.wrap (S + (E.length : Int)) = S + (E.length : Int) := wrap_small (by omega) (by omega)
    rw [hS] at K
    rw [hz] at KC
    clear hs hz hH hS hS' hbd hvl
    go_enter Try.func16, Try.ntmps16
    go_wp2_with fail
    generalize w.alloc (.cells #[.slice r1 B.length c1, .slice r2 E.length c2] 24) = w0 at HB0 RS S1 S2 rs0 rs1 ⊢
    refine (unhide KC _ (unhide S1) (unhide S2)).mono ?_
    rintro e w1 ⟨rfl, hb⟩
    replace HB0 := hide (below_grow (unhide HB0) (Nat.le_refl _) hb)
    replace RS := hide ((unhide RS).after hb)
    replace S1 := hide ((unhide S1).after hb)
    replace S2 := hide ((unhide S2).after hb)
    clear hb
    clear rs0 rs1
    have rs0 := (unhide RS).cell 0 _ rfl
    have rs1 := (unhide RS).cell 1 _ rfl
    have q0 := cell_regrown rs0
    have q1 := cell_regrown rs1
    go_wp2_with fail
    refine wp_region_quiet_below (by kernel_rfl) (by kernel_rfl) ?_
    repeat (quiet_step (first | (go_at_call 40; exact Calls.regrown_of (unhide K _ ((unhide S1).after (below_regrown _ _ _))))))
    refine wpQuiet_nil ?_
    intro _ hw'
    obtain ⟨⟨dq, osq⟩, hw''⟩ := hw'
    subst hw''
    go_wp2_with fail
    go_ret
    exact ⟨ret_int (by first | exact (unhide HH).symm | omega), (unhide HB0).trans ((below_regrown _ _ _).mono (unhide HB0).size)⟩
  · obtain rfl : 0 = H := by rw [← hH]; unfold Vc.lenS; rw [if_neg hz]
    have hzb : (Vc.checkS B E != 0) = true := bne_iff_ne.2 hz
    generalize Vc.checkS B E = C at *
    clear hz hH
    go_enter Try.func16, Try.ntmps16
    go_wp2_with fail
    refine (unhide KC _ (unhide S1) (unhide S2)).mono ?_
    rintro e w1 ⟨rfl, hb⟩
    replace HB0 := hide (below_grow (unhide HB0) (Nat.le_refl _) hb)
    replace S1 := hide ((unhide S1).after hb)
    clear hb
    go_wp2_with fail
    go_ret
    exact ⟨rfl, unhide HB0⟩

set_option maxRecDepth 100000 in
set_option maxHeartbeats 2000000 in
theorem refSameS_any (r1 r2 q1 q2 : Option Addr) (c1 c2 d1 d2 : Nat) (B E B' E' : List Vc.D) (hB : B.length ≤ 100000) (hE : E.length ≤ 100000) (w : World) (s1 : Sl w r1 B) (s2 : Sl w r2 E) (t1 : Sl w q1 B') (t2 : Sl w q2 E') (D : Bool) (hD : D = true ↔ B = B' ∧ E = E') :
    Calls Try.prog 17 #[.agg #[.slice r1 B.length c1, .slice r2 E.length c2], .agg #[.slice q1 B'.length d1, .slice q2 E'.length d2]] w fun e w' => e = .returned (.bool D) ∧ Below w.heap.size w w' := by
  have HB0 := hide ((below_alloc' (w := w) (.cells #[.slice r1 B.length c1, .slice r2 E.length c2] 24)).alloc (by simp) (.cells #[.slice q1 B'.length d1, .slice q2 E'.length d2] 24))
  have RS := hide ((VRow.new w 24 [.slice r1 B.length c1, .slice r2 E.length c2]).alloc (.cells #[.slice q1 B'.length d1, .slice q2 E'.length d2] 24))
  have RT := hide (VRow.newAt (W := w.alloc (.cells #[.slice r1 B.length c1, .slice r2 E.length c2] 24)) (T := 24) (n := w.heap.size + 1) (vs := [.slice q1 B'.length d1, .slice q2 E'.length d2]) (by simp))
  have S1 := hide (s1.after (unhide HB0))
  have S2 := hide (s2.after (unhide HB0))
  have T1 := hide (t1.after (unhide HB0))
  have T2 := hide (t2.after (unhide HB0))
  have rs0 := (unhide RS).cell 0 _ rfl
  have rs1 := (unhide RS).cell 1 _ rfl
  have rt0 := (unhide RT).cell 0 _ rfl
  have rt1 := (unhide RT).cell 1 _ rfl
  clear s1 s2 t1 t2
  by_cases hb1 : B = B'
  · have K1 := hide fun W h h' => refSame_any r1 q1 c1 d1 B B' hB W h h' true (by simp [hb1])
    have K2 := hide fun W h h' => refSame_any r2 q2 c2 d2 E E' hE W h h' D (by rw [hD]; simp [hb1])
    clear hb1 hD
    go_enter Try.func17, Try.ntmps17
    go_wp2_with fail
    generalize (w.alloc (.cells #[.slice r1 B.length c1, .slice r2 E.length c2] 24)).alloc (.cells #[.slice q1 B'.length d1, .slice q2 E'.length d2] 24) = w0 at HB0 RS RT S1 S2 T1 T2 rs0 rs1 rt0 rt1 ⊢
    refine (unhide K1 _ (unhide S1) (unhide T1)).mono ?_
    rintro e w1 ⟨rfl, hb⟩
    replace HB0 := hide (below_grow (unhide HB0) (Nat.le_refl _) hb)
    replace RS := hide ((unhide RS).after hb)
    replace RT := hide ((unhide RT).after hb)
    replace S1 := hide ((unhide S1).after hb)
    replace S2 := hide ((unhide S2).after hb)
    replace T1 := hide ((unhide T1).after hb)
    replace T2 := hide ((unhide T2).after hb)
    clear hb
    clear rs0 rs1 rt0 rt1
    have rs0 := (unhide RS).cell 0 _ rfl
    have rs1 := (unhide RS).cell 1 _ rfl
    have rt0 := (unhide RT).cell 0 _ rfl
    have rt1 := (unhide RT).cell 1 _ rfl
    go_wp2_with fail
    refine (unhide K2 _ (unhide S2) (unhide T2)).mono ?_
    rintro e w2 ⟨rfl, hb⟩
    replace HB0 := hide (below_grow (unhide HB0) (Nat.le_refl _) hb)
    replace RS := hide ((unhide RS).after hb)
    replace RT := hide ((unhide RT).after hb)
    replace S1 := hide ((unhide S1).after hb)
    replace S2 := hide ((unhide S2).after hb)
    replace T1 := hide ((unhide T1).after hb)
    replace T2 := hide ((unhide T2).after hb)
    clear hb
    go_wp2_with fail
    go_ret
    exact ⟨rfl, unhide HB0⟩
  · have K1 := hide fun W h h' => refSame_any r1 q1 c1 d1 B B' hB W h h' false (by simp [hb1])
    obtain rfl : D = false := by
      cases D with
      | false => rfl
      | true => exact absurd (hD.1 rfl).1 hb1
    clear hb1 hD
    go_enter Try.func17, Try.ntmps17
    go_wp2_with fail
    generalize (w.alloc (.cells #[.slice r1 B.length c1, .slice r2 E.length c2] 24)).alloc (.cells #[.slice q1 B'.length d1, .slice q2 E'.length d2] 24) = w0 at HB0 RS RT S1 S2 T1 T2 rs0 rs1 rt0 rt1 ⊢
    refine (unhide K1 _ (unhide S1) (unhide T1)).mono ?_
    rintro e w1 ⟨rfl, hb⟩
    replace HB0 := hide (below_grow (unhide HB0) (Nat.le_refl _) hb)
    replace S1 := hide ((unhide S1).after hb)
    clear hb
    go_wp2_with fail
    go_ret
    exact ⟨rfl, unhide HB0⟩

set_option maxRecDepth 100000 in
set_option maxHeartbeats 2000000 in
theorem own_any (r1 r2 : Option Addr) (n1 n2 c1 c2 : Nat) (w : World) :
    Calls Try.prog 10 #[.agg #[.slice r1 n1 c1, .slice r2 n2 c2]] w fun e w' => e = .returned (.agg #[.slice r1 n1 c1, .slice r2 n2 c2]) ∧ Below w.heap.size w w' := by
  have HB0 := hide ((below_alloc' (w := w) (.cells #[.slice r1 n1 c1, .slice r2 n2 c2] 24)).alloc (by simp) (.cells #[.slice none 0 0, .slice none 0 0] 29))
  have RS := hide ((VRow.new w 24 [.slice r1 n1 c1, .slice r2 n2 c2]).alloc (.cells #[.slice none 0 0, .slice none 0 0] 29))
  have RT := hide (VRow.newAt (W := w.alloc (.cells #[.slice r1 n1 c1, .slice r2 n2 c2] 24)) (T := 29) (n := w.heap.size + 1) (vs := [.slice none 0 0, .slice none 0 0]) (by simp))
  have rs0 := (unhide RS).cell 0 _ rfl
  have rs1 := (unhide RS).cell 1 _ rfl
  go_enter Try.func10, Try.ntmps10
  go_wp2_with (refine store_row (by rfl) 29 _ _ (by rfl) (w.heap.size + 1) [.slice r1 n1 c1, .slice r2 n2 c2] (by rfl) (by rfl) 29 [.slice none 0 0, .slice none 0 0] (unhide RT) 2 size29 rfl rfl (two_one _ _ _ _ _ _) ?_; intro w3 ho3 hr3; have HO3 := hide ho3; have HR3 := hide hr3; clear ho3 hr3)
  refine bodyPost_ret (v := .agg #[.slice r1 n1 c1, .slice r2 n2 c2]) ?_ rfl ⟨rfl, ?_⟩
  · exact results_cell_row rfl _ _ (w.heap.size + 1) 29 _ (0, 0) _ rfl (unhide HR3) Try.underlying29 rfl (by rw [size29]; rfl)
  · exact (unhide HB0).trans ((unhide HO3).below (by omega))

set_option maxRecDepth 100000 in
set_option maxHeartbeats 2000000 in
theorem its_any (r1 r2 : Option Addr) (n1 n2 c1 c2 : Nat) (w : World) :
    Calls Try.prog 22 #[.agg #[.slice r1 n1 c1, .slice r2 n2 c2]] w fun e w' => e = .returned (.agg #[.slice r1 n1 c1, .slice r2 n2 c2]) ∧ Below w.heap.size w w' := by
  have HB0 := hide ((below_alloc' (w := w) (.cells #[.slice r1 n1 c1, .slice r2 n2 c2] 29)).alloc (by simp) (.cells #[.slice none 0 0, .slice none 0 0] 24))
  have RS := hide ((VRow.new w 29 [.slice r1 n1 c1, .slice r2 n2 c2]).alloc (.cells #[.slice none 0 0, .slice none 0 0] 24))
  have RT := hide (VRow.newAt (W := w.alloc (.cells #[.slice r1 n1 c1, .slice r2 n2 c2] 29)) (T := 24) (n := w.heap.size + 1) (vs := [.slice none 0 0, .slice none 0 0]) (by simp))
  have rs0 := (unhide RS).cell 0 _ rfl
  have rs1 := (unhide RS).cell 1 _ rfl
  go_enter Try.func22, Try.ntmps22
  go_wp2_with (refine store_row (by rfl) 24 _ _ (by rfl) (w.heap.size + 1) [.slice r1 n1 c1, .slice r2 n2 c2] (by rfl) (by rfl) 24 [.slice none 0 0, .slice none 0 0] (unhide RT) 2 size24 rfl rfl (two_one _ _ _ _ _ _) ?_; intro w3 ho3 hr3; have HO3 := hide ho3; have HR3 := hide hr3; clear ho3 hr3)
  refine bodyPost_ret (v := .agg #[.slice r1 n1 c1, .slice r2 n2 c2]) ?_ rfl ⟨rfl, ?_⟩
  · exact results_cell_row rfl _ _ (w.heap.size + 1) 24 _ (0, 0) _ rfl (unhide HR3) Try.underlying24 rfl (by rw [size24]; rfl)
  · exact (unhide HB0).trans ((unhide HO3).below (by omega))

end Go.Proofs.Ytpcfblpenealbaa

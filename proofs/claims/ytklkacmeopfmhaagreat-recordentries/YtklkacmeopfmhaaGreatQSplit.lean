/-
  What split answers: a path's names and how many these are; of other texts none.
-/
import Derived.Test.YtklkacmeopfmhaaGreatQMath
import Derived.WalkMore
namespace Go.Proofs.YtklkacmeopfmhaaGreat.Pth
open Go.RowKit

theorem piece_cases (p : ByteArray) (n : Nat) (hn : n ≤ 4) :
    p.toList.isEmpty = true ∨ (p.toList.isEmpty = false ∧ (p.toList == [46]) = true) ∨ (p.toList.isEmpty = false ∧ (p.toList == [46]) = false ∧ (p.toList == [46, 46]) = true) ∨
    (p.toList.isEmpty = false ∧ (p.toList == [46]) = false ∧ (p.toList == [46, 46]) = false ∧ n = 4) ∨ (p.toList.isEmpty = false ∧ (p.toList == [46]) = false ∧ (p.toList == [46, 46]) = false ∧ n < 4) := by
  cases p.toList.isEmpty with
  | true => exact .inl rfl
  | false =>
    cases (p.toList == [46]) with
    | true => exact .inr (.inl ⟨rfl, rfl⟩)
    | false =>
      cases (p.toList == [46, 46]) with
      | true => exact .inr (.inr (.inl ⟨rfl, rfl, rfl⟩))
      | false =>
        rcases Nat.lt_or_ge n 4 with h | h
        · exact .inr (.inr (.inr (.inr ⟨rfl, rfl, rfl, h⟩)))
        · exact .inr (.inr (.inr (.inl ⟨rfl, rfl, rfl, by omega⟩)))

theorem not_name (l : Pt.Bs) (h : l.isEmpty = true ∨ (l == [46]) = true ∨ (l == [46, 46]) = true) : Pt.isName l = false := by
  cases hN : Pt.isName l with
  | false => rfl
  | true =>
    exfalso
    obtain ⟨h1, _, h2, h3, _⟩ := (Pt.isName_iff l).1 hN
    rcases h with h | h | h
    · rw [List.isEmpty_iff] at h; rw [h] at h1; simp at h1
    · exact h2 (beq_iff_eq.1 h)
    · exact h3 (beq_iff_eq.1 h)

theorem yes_name (l : Pt.Bs) (h1 : l.isEmpty = false) (h2 : (l == [46]) = false) (h3 : (l == [46, 46]) = false) (h4 : l.length ≤ 12) (h5 : ∀ x ∈ l, Pt.sign x = true) : Pt.isName l = true := by
  refine (Pt.isName_iff l).2 ⟨?_, h4, ?_, ?_, h5⟩
  · cases l with
    | nil => cases h1
    | cons a t => simp
  · intro h; rw [h] at h2; cases h2
  · intro h; rw [h] at h3; cases h3

theorem piece_list (s : ByteArray) (k e : Nat) : (s.extract k e).toList = (s.data.toList.drop k).take (e - k) := by
  rw [Lib.toList_data, ByteArray.data_extract, Array.toList_extract, List.extract_eq_take_drop]

theorem piece_str (s : ByteArray) (k e : Nat) : str ((s.data.toList.drop k).take (e - k)) = .string (s.extract k e) := by
  rw [← piece_list, Lib.toList_data, str_data]

theorem signs_more (l : Pt.Bs) (k e : Nat) (hke : k ≤ e) (he : e < l.length) (h : ∀ x ∈ (l.drop k).take (e - k), Pt.sign x = true) (hx : Pt.sign l[e] = true) : ∀ x ∈ (l.drop k).take (e + 1 - k), Pt.sign x = true := by
  have e1 : (l.drop k).take (e + 1 - k) = (l.drop k).take (e - k) ++ [l[e]] := by
    rw [show e + 1 - k = (e - k) + 1 by omega, List.take_succ_eq_append_getElem (by rw [List.length_drop]; omega), List.getElem_drop]
    congr 2
    congr 1
    omega
  rw [e1]
  intro x hm
  rcases List.mem_append.1 hm with hm | hm
  · exact h x hm
  · rw [List.mem_singleton.1 hm]; exact hx

theorem lit_slash : (⟨#[47]⟩ : ByteArray)[0].toNat = 47 := rfl

set_option maxRecDepth 100000 in
set_option maxHeartbeats 2000000 in
theorem split_any (s : ByteArray) (hs : s.size ≤ 100000) (w : World) :
    Calls Tryz.prog 61 #[.string s] w fun e w' => e = .returned (.tuple #[.agg (row4 (Pt.parts s.data.toList)).toArray, .int .i64 ((Pt.parts s.data.toList).length : Nat)]) ∧ Below w.heap.size w w' := by
  have hbd := run_build92
  obtain ⟨PS, hPS⟩ : ∃ PS, Pt.parts s.data.toList = PS := ⟨_, rfl⟩
  rw [hPS]
  have hP4 : PS.length ≤ 4 := by rw [← hPS]; exact Pt.parts_le _
  have HPS := hide hPS
  clear hPS
  go_enter Tryz.func61, Tryz.ntmps61
  go_wp2_with fail
  go_step3
  go_wp2_with fail
  go_step3
  go_wp2_with fail
  go_loopw [3, 4] (fun c i wr => ∃ (k : Nat) (cs : List Pt.Bs), k ≤ s.size + 1 ∧ c = .int .i64 (cs.length : Nat) ∧ i = .int .i64 k ∧ Pt.Sofar s.data.toList k cs ∧ VRow wr w.heap.size 92 (row4 cs) ∧ Below w.heap.size w wr) (fun _ i _ => s.size + 1 - (intOf i).toNat)
  case atStart => exact ⟨0, [], Nat.zero_le _, rfl, rfl, Pt.Sofar.zero _, VRow.new w 92 (row4 []), (Below.refl _ _).alloc (Nat.le_refl _) _⟩
  case round =>
    obtain ⟨k, cs, hk, rfl, rfl, hso, hrow, hbl⟩ := hrel
    have HS := hide hso
    have HR := hide hrow
    have HB := hide hbl
    have hc4 : cs.length ≤ 4 := hso.few
    have HL := hide (row4_len cs hc4)
    clear hso hrow hbl
    by_cases hle : k ≤ s.size
    · go_wp2_with fail
      go_loopw [5] (fun i wq => ∃ e q : Nat, k ≤ e ∧ e ≤ s.size ∧ e ≤ k + 12 ∧ i = .int .i64 e ∧ (∀ x ∈ (s.data.toList.drop k).take (e - k), Pt.sign x = true) ∧ wq = wr.drewN q) (fun i _ => s.size - (intOf i).toNat)
      case atStart => exact ⟨k, 0, Nat.le_refl _, hle, by omega, rfl, by simp, rfl⟩
      case round =>
        obtain ⟨e, q, hke, hes, hek, rfl, hsg, rfl⟩ := hrel
        have HG := hide hsg
        clear hsg
        by_cases he : e < s.size
        · by_cases h47 : s[e] = 47
          · have h47i : (s[e].toNat : Int) = 47 := by rw [h47]; rfl
            have HE : Hid (e = s.data.toList.length ∨ s.data.toList[e]? = some 47) := hide (.inr (by rw [List.getElem?_eq_getElem he]; exact congrArg some h47))
            clear h47
            have HX := hide (piece_list s k e)
            have HY := hide (piece_str s k e)
            rcases piece_cases (s.extract k e) cs.length hc4 with b1 | ⟨b1, b2⟩ | ⟨b1, b2, b3⟩ | ⟨b1, b2, b3, b4⟩ | ⟨b1, b2, b3, b4⟩
            · have hpf := (unhide HS).stop hke hes (fun x hx => Pt.sign_slash x (unhide HG x hx)) (unhide HE) (.inl (not_name _ (by rw [← unhide HX]; exact .inl b1)))
              obtain rfl : PS = [] := by rw [← unhide HPS, Pt.parts_none _ hpf]
              clear hpf
              go_wp2_with fail
              go_quiet (fail)
              go_wp2_with (refine store_row (by rfl) 92 _ _ (by rfl) w.heap.size (row4 []) (by rfl) (by rfl) 92 (row4 cs) ((unhide HR).drewN _) 4 size92 rfl (unhide HL) (row4_one _) ?_; intro w6 ho6 hr6; have HO6 := hide ho6; have HR6 := hide hr6; clear ho6 hr6)
              rw [Exit.noGoto_ret]
              refine bodyPost_ret (v := .tuple #[.agg (row4 []).toArray, .int .i64 0]) ?_ rfl ⟨rfl, ?_⟩
              · exact results_row_int rfl _ _ w.heap.size 92 _ rfl rfl (unhide HR6) 4 4 9 Tryz.underlying92 size92 rfl
              · exact (below_drewN (unhide HB) _).trans ((unhide HO6).below (Nat.le_refl _))
            · have hpf := (unhide HS).stop hke hes (fun x hx => Pt.sign_slash x (unhide HG x hx)) (unhide HE) (.inl (not_name _ (by rw [← unhide HX]; exact .inr (.inl b2))))
              obtain rfl : PS = [] := by rw [← unhide HPS, Pt.parts_none _ hpf]
              clear hpf
              go_wp2_with fail
              go_quiet (fail)
              go_wp2_with (refine store_row (by rfl) 92 _ _ (by rfl) w.heap.size (row4 []) (by rfl) (by rfl) 92 (row4 cs) ((unhide HR).drewN _) 4 size92 rfl (unhide HL) (row4_one _) ?_; intro w6 ho6 hr6; have HO6 := hide ho6; have HR6 := hide hr6; clear ho6 hr6)
              rw [Exit.noGoto_ret]
              refine bodyPost_ret (v := .tuple #[.agg (row4 []).toArray, .int .i64 0]) ?_ rfl ⟨rfl, ?_⟩
              · exact results_row_int rfl _ _ w.heap.size 92 _ rfl rfl (unhide HR6) 4 4 9 Tryz.underlying92 size92 rfl
              · exact (below_drewN (unhide HB) _).trans ((unhide HO6).below (Nat.le_refl _))
            · have hpf := (unhide HS).stop hke hes (fun x hx => Pt.sign_slash x (unhide HG x hx)) (unhide HE) (.inl (not_name _ (by rw [← unhide HX]; exact .inr (.inr b3))))
              obtain rfl : PS = [] := by rw [← unhide HPS, Pt.parts_none _ hpf]
              clear hpf
              go_wp2_with fail
              go_quiet (fail)
              go_wp2_with (refine store_row (by rfl) 92 _ _ (by rfl) w.heap.size (row4 []) (by rfl) (by rfl) 92 (row4 cs) ((unhide HR).drewN _) 4 size92 rfl (unhide HL) (row4_one _) ?_; intro w6 ho6 hr6; have HO6 := hide ho6; have HR6 := hide hr6; clear ho6 hr6)
              rw [Exit.noGoto_ret]
              refine bodyPost_ret (v := .tuple #[.agg (row4 []).toArray, .int .i64 0]) ?_ rfl ⟨rfl, ?_⟩
              · exact results_row_int rfl _ _ w.heap.size 92 _ rfl rfl (unhide HR6) 4 4 9 Tryz.underlying92 size92 rfl
              · exact (below_drewN (unhide HB) _).trans ((unhide HO6).below (Nat.le_refl _))
            · have hpf := (unhide HS).stop hke hes (fun x hx => Pt.sign_slash x (unhide HG x hx)) (unhide HE) (.inr b4)
              obtain rfl : PS = [] := by rw [← unhide HPS, Pt.parts_none _ hpf]
              have b4i : ((cs.length : Int) == 4) = true := by rw [beq_iff_eq]; omega
              clear hpf b4
              go_wp2_with fail
              go_quiet (fail)
              go_wp2_with (refine store_row (by rfl) 92 _ _ (by rfl) w.heap.size (row4 []) (by rfl) (by rfl) 92 (row4 cs) ((unhide HR).drewN _) 4 size92 rfl (unhide HL) (row4_one _) ?_; intro w6 ho6 hr6; have HO6 := hide ho6; have HR6 := hide hr6; clear ho6 hr6)
              rw [Exit.noGoto_ret]
              refine bodyPost_ret (v := .tuple #[.agg (row4 []).toArray, .int .i64 0]) ?_ rfl ⟨rfl, ?_⟩
              · exact results_row_int rfl _ _ w.heap.size 92 _ rfl rfl (unhide HR6) 4 4 9 Tryz.underlying92 size92 rfl
              · exact (below_drewN (unhide HB) _).trans ((unhide HO6).below (Nat.le_refl _))
            · have hnm : Pt.isName ((s.data.toList.drop k).take (e - k)) = true := yes_name _ (by rw [← unhide HX]; exact b1) (by rw [← unhide HX]; exact b2) (by rw [← unhide HX]; exact b3) (by rw [List.length_take]; omega) (unhide HG)
              have HS2 := hide ((unhide HS).step hke hes (unhide HE) hnm b4)
              have b4i : ((cs.length : Int) == 4) = false := by
                cases h : ((cs.length : Int) == 4) with
                | false => rfl
                | true => rw [beq_iff_eq] at h; omega
              obtain ⟨po, hpo⟩ := row4_old cs cs.length b4 hc4
              have c0 : wr.cell? ⟨w.heap.size, cs.length, none⟩ = some (str po) := (unhide HR).cell cs.length _ hpo
              have f0 := (unhide HR).frozen cs.length
              have HR2 : Hid (∀ n, VRow ((wr.drewN n).setCell ⟨w.heap.size, cs.length, none⟩ (.string (s.extract k e))) w.heap.size 92 (row4 (cs ++ [(s.data.toList.drop k).take (e - k)]))) := by
                intro n
                rw [← row4_set cs _ b4, unhide HY]
                exact ((unhide HR).drewN n).set _ _
              clear hnm hpo
              go_wp2_with fail
              go_quiet (fail)
              go_wp2_with fail
              go_roundw
              case rel => exact ⟨e + 1, cs ++ [(s.data.toList.drop k).take (e - k)], by omega, by rw [List.length_append]; go_num, by go_num, unhide HS2, unhide HR2 _, (below_drewN (unhide HB) _).setCell (p := ⟨w.heap.size, cs.length, none⟩) (Nat.le_refl _) _⟩
              case measure => simp [intOf]; omega
          · have h47i : ((s[e].toNat : Int) != ((⟨#[47]⟩ : ByteArray)[0].toNat : Int)) = true := by
              rw [lit_slash, bne_iff_ne]
              intro h
              exact absurd (UInt8.toNat_inj.1 (by show s[e].toNat = 47; omega)) h47
            have h3 := hide (sign_any s[e])
            cases hsi : Pt.sign s[e] with
            | false =>
              rw [hsi] at h3
              have hpf := (unhide HS).break_ hke he (fun x hx => Pt.sign_slash x (unhide HG x hx)) h47 (.inl hsi)
              obtain rfl : PS = [] := by rw [← unhide HPS, Pt.parts_none _ hpf]
              clear hpf h47 hsi
              go_wp2_with fail
              go_quiet (fail)
              go_wp2_with (first
                | (go_at_call 78; refine (unhide h3 _).mono ?_; rintro e w' ⟨rfl, rfl⟩)
                | (refine store_row (by rfl) 92 _ _ (by rfl) w.heap.size (row4 []) (by rfl) (by rfl) 92 (row4 cs) ((unhide HR).drewN _) 4 size92 rfl (unhide HL) (row4_one _) ?_; intro w6 ho6 hr6; have HO6 := hide ho6; have HR6 := hide hr6; clear ho6 hr6))
              rw [Exit.noGoto_ret]
              refine bodyPost_ret (v := .tuple #[.agg (row4 []).toArray, .int .i64 0]) ?_ rfl ⟨rfl, ?_⟩
              · exact results_row_int rfl _ _ w.heap.size 92 _ rfl rfl (unhide HR6) 4 4 9 Tryz.underlying92 size92 rfl
              · exact (below_drewN (unhide HB) _).trans ((unhide HO6).below (Nat.le_refl _))
            | true =>
              rw [hsi] at h3
              by_cases h12 : e - k = 12
              · have hpf := (unhide HS).break_ hke he (fun x hx => Pt.sign_slash x (unhide HG x hx)) h47 (.inr h12)
                obtain rfl : PS = [] := by rw [← unhide HPS, Pt.parts_none _ hpf]
                have h12i : ((e : Int) - (k : Int) == 12) = true := by rw [beq_iff_eq]; omega
                clear hpf h47 hsi h12
                go_wp2_with fail
                go_quiet (fail)
                go_wp2_with (first
                  | (go_at_call 78; refine (unhide h3 _).mono ?_; rintro e w' ⟨rfl, rfl⟩)
                  | (refine store_row (by rfl) 92 _ _ (by rfl) w.heap.size (row4 []) (by rfl) (by rfl) 92 (row4 cs) ((unhide HR).drewN _) 4 size92 rfl (unhide HL) (row4_one _) ?_; intro w6 ho6 hr6; have HO6 := hide ho6; have HR6 := hide hr6; clear ho6 hr6))
                rw [Exit.noGoto_ret]
                refine bodyPost_ret (v := .tuple #[.agg (row4 []).toArray, .int .i64 0]) ?_ rfl ⟨rfl, ?_⟩
                · exact results_row_int rfl _ _ w.heap.size 92 _ rfl rfl (unhide HR6) 4 4 9 Tryz.underlying92 size92 rfl
                · exact (below_drewN (unhide HB) _).trans ((unhide HO6).below (Nat.le_refl _))
              · have h12i : ((e : Int) - (k : Int) == 12) = false := by
                  cases h : ((e : Int) - (k : Int) == 12) with
                  | false => rfl
                  | true => rw [beq_iff_eq] at h; omega
                have HG2 := hide (signs_more s.data.toList k e hke he (unhide HG) hsi)
                clear h47 hsi
                go_wp2_with fail
                go_quiet (fail)
                go_wp2_with (go_at_call 78; refine (unhide h3 _).mono ?_; rintro e w' ⟨rfl, rfl⟩)
                go_roundw
                case rel => exact ⟨e + 1, q + nq, by omega, by omega, by omega, by go_num, unhide HG2, by first | rfl | rw [World.drewN_drewN]⟩
                case measure => simp [intOf]; omega
        · obtain rfl : e = s.size := by omega
          have HE : Hid (s.size = s.data.toList.length ∨ s.data.toList[s.size]? = some 47) := hide (.inl rfl)
          have HX := hide (piece_list s k s.size)
          have HY := hide (piece_str s k s.size)
          rcases piece_cases (s.extract k s.size) cs.length hc4 with b1 | ⟨b1, b2⟩ | ⟨b1, b2, b3⟩ | ⟨b1, b2, b3, b4⟩ | ⟨b1, b2, b3, b4⟩
          · have hpf := (unhide HS).stop hke hes (fun x hx => Pt.sign_slash x (unhide HG x hx)) (unhide HE) (.inl (not_name _ (by rw [← unhide HX]; exact .inl b1)))
            obtain rfl : PS = [] := by rw [← unhide HPS, Pt.parts_none _ hpf]
            clear hpf
            go_wp2_with fail
            go_quiet (fail)
            go_wp2_with (refine store_row (by rfl) 92 _ _ (by rfl) w.heap.size (row4 []) (by rfl) (by rfl) 92 (row4 cs) ((unhide HR).drewN _) 4 size92 rfl (unhide HL) (row4_one _) ?_; intro w6 ho6 hr6; have HO6 := hide ho6; have HR6 := hide hr6; clear ho6 hr6)
            rw [Exit.noGoto_ret]
            refine bodyPost_ret (v := .tuple #[.agg (row4 []).toArray, .int .i64 0]) ?_ rfl ⟨rfl, ?_⟩
            · exact results_row_int rfl _ _ w.heap.size 92 _ rfl rfl (unhide HR6) 4 4 9 Tryz.underlying92 size92 rfl
            · exact (below_drewN (unhide HB) _).trans ((unhide HO6).below (Nat.le_refl _))
          · have hpf := (unhide HS).stop hke hes (fun x hx => Pt.sign_slash x (unhide HG x hx)) (unhide HE) (.inl (not_name _ (by rw [← unhide HX]; exact .inr (.inl b2))))
            obtain rfl : PS = [] := by rw [← unhide HPS, Pt.parts_none _ hpf]
            clear hpf
            go_wp2_with fail
            go_quiet (fail)
            go_wp2_with (refine store_row (by rfl) 92 _ _ (by rfl) w.heap.size (row4 []) (by rfl) (by rfl) 92 (row4 cs) ((unhide HR).drewN _) 4 size92 rfl (unhide HL) (row4_one _) ?_; intro w6 ho6 hr6; have HO6 := hide ho6; have HR6 := hide hr6; clear ho6 hr6)
            rw [Exit.noGoto_ret]
            refine bodyPost_ret (v := .tuple #[.agg (row4 []).toArray, .int .i64 0]) ?_ rfl ⟨rfl, ?_⟩
            · exact results_row_int rfl _ _ w.heap.size 92 _ rfl rfl (unhide HR6) 4 4 9 Tryz.underlying92 size92 rfl
            · exact (below_drewN (unhide HB) _).trans ((unhide HO6).below (Nat.le_refl _))
          · have hpf := (unhide HS).stop hke hes (fun x hx => Pt.sign_slash x (unhide HG x hx)) (unhide HE) (.inl (not_name _ (by rw [← unhide HX]; exact .inr (.inr b3))))
            obtain rfl : PS = [] := by rw [← unhide HPS, Pt.parts_none _ hpf]
            clear hpf
            go_wp2_with fail
            go_quiet (fail)
            go_wp2_with (refine store_row (by rfl) 92 _ _ (by rfl) w.heap.size (row4 []) (by rfl) (by rfl) 92 (row4 cs) ((unhide HR).drewN _) 4 size92 rfl (unhide HL) (row4_one _) ?_; intro w6 ho6 hr6; have HO6 := hide ho6; have HR6 := hide hr6; clear ho6 hr6)
            rw [Exit.noGoto_ret]
            refine bodyPost_ret (v := .tuple #[.agg (row4 []).toArray, .int .i64 0]) ?_ rfl ⟨rfl, ?_⟩
            · exact results_row_int rfl _ _ w.heap.size 92 _ rfl rfl (unhide HR6) 4 4 9 Tryz.underlying92 size92 rfl
            · exact (below_drewN (unhide HB) _).trans ((unhide HO6).below (Nat.le_refl _))
          · have hpf := (unhide HS).stop hke hes (fun x hx => Pt.sign_slash x (unhide HG x hx)) (unhide HE) (.inr b4)
            obtain rfl : PS = [] := by rw [← unhide HPS, Pt.parts_none _ hpf]
            have b4i : ((cs.length : Int) == 4) = true := by rw [beq_iff_eq]; omega
            clear hpf b4
            go_wp2_with fail
            go_quiet (fail)
            go_wp2_with (refine store_row (by rfl) 92 _ _ (by rfl) w.heap.size (row4 []) (by rfl) (by rfl) 92 (row4 cs) ((unhide HR).drewN _) 4 size92 rfl (unhide HL) (row4_one _) ?_; intro w6 ho6 hr6; have HO6 := hide ho6; have HR6 := hide hr6; clear ho6 hr6)
            rw [Exit.noGoto_ret]
            refine bodyPost_ret (v := .tuple #[.agg (row4 []).toArray, .int .i64 0]) ?_ rfl ⟨rfl, ?_⟩
            · exact results_row_int rfl _ _ w.heap.size 92 _ rfl rfl (unhide HR6) 4 4 9 Tryz.underlying92 size92 rfl
            · exact (below_drewN (unhide HB) _).trans ((unhide HO6).below (Nat.le_refl _))
          · have hnm : Pt.isName ((s.data.toList.drop k).take (s.size - k)) = true := yes_name _ (by rw [← unhide HX]; exact b1) (by rw [← unhide HX]; exact b2) (by rw [← unhide HX]; exact b3) (by rw [List.length_take]; omega) (unhide HG)
            have HS2 := hide ((unhide HS).step hke hes (unhide HE) hnm b4)
            have b4i : ((cs.length : Int) == 4) = false := by
              cases h : ((cs.length : Int) == 4) with
              | false => rfl
              | true => rw [beq_iff_eq] at h; omega
            obtain ⟨po, hpo⟩ := row4_old cs cs.length b4 hc4
            have c0 : wr.cell? ⟨w.heap.size, cs.length, none⟩ = some (str po) := (unhide HR).cell cs.length _ hpo
            have f0 := (unhide HR).frozen cs.length
            have HR2 : Hid (∀ n, VRow ((wr.drewN n).setCell ⟨w.heap.size, cs.length, none⟩ (.string (s.extract k s.size))) w.heap.size 92 (row4 (cs ++ [(s.data.toList.drop k).take (s.size - k)]))) := by
              intro n
              rw [← row4_set cs _ b4, unhide HY]
              exact ((unhide HR).drewN n).set _ _
            clear hnm hpo
            go_wp2_with fail
            go_quiet (fail)
            go_wp2_with fail
            go_roundw
            case rel => exact ⟨s.size + 1, cs ++ [(s.data.toList.drop k).take (s.size - k)], by omega, by rw [List.length_append]; go_num, by go_num, unhide HS2, unhide HR2 _, (below_drewN (unhide HB) _).setCell (p := ⟨w.heap.size, cs.length, none⟩) (Nat.le_refl _) _⟩
            case measure => simp [intOf]; omega
    · obtain rfl : k = s.size + 1 := by omega
      obtain ⟨hp, hpc⟩ := (unhide HS).done (by show s.size < _; omega)
      have hPc : PS = cs := by rw [← unhide HPS, Pt.parts_path _ hp, hpc]
      subst hPc
      clear hp hpc
      go_wp2_with (first
        | (refine load_row (by rfl) 92 _ (by rfl) w.heap.size (by rfl) 92 _ (unhide HR) 4 4 9 Tryz.underlying92 size92 (row4_len _ hP4) ?_)
        | (refine store_row (by rfl) 92 _ _ (by rfl) w.heap.size (row4 PS) (by rfl) (by rfl) 92 (row4 PS) (unhide HR) 4 size92 (row4_len _ hP4) (row4_len _ hP4) (row4_one _) ?_; intro w6 ho6 hr6; have HO6 := hide ho6; have HR6 := hide hr6; clear ho6 hr6))
      rw [Exit.noGoto_ret]
      refine bodyPost_ret (v := .tuple #[.agg (row4 PS).toArray, .int .i64 (PS.length : Nat)]) ?_ rfl ⟨rfl, ?_⟩
      · exact results_row_int rfl _ _ w.heap.size 92 _ rfl rfl (unhide HR6) 4 4 9 Tryz.underlying92 size92 (row4_len _ hP4)
      · exact (unhide HB).trans ((unhide HO6).below (Nat.le_refl _))
end Go.Proofs.YtklkacmeopfmhaaGreat.Pth

/-
  The node of a directory, told by the entries at it and below it: what nodeOf answers. Conditions: those that each theorem names.
-/
import Derived.Test.YtebjlmnhpfoglaaGreatDoorB22
import Derived.Test.YtebjlmnhpfoglaaGreatDoorB21
import Derived.Test.YtebjlmnhpfoglaaGreatDoorB19
import Derived.Test.YtebjlmnhpfoglaaGreatDoorB16
namespace Go.Proofs.YtebjlmnhpfoglaaGreatDoor
open Go.RowKit Go.Shelf

attribute [local go_sem] Oper.semAt_some

theorem below_stops (n : Nat) (B1 B2 : Nat) (t : List En) (ht : Tr t) (d : ByteArray) (w : World) (a : Option Addr) (ca : Nat) (hca : (underT t d).length ≤ ca) (hel : EL w a (underT t d)) (W0 : World) (hw : Below w.heap.size w W0)
    (h1 : W0.cell? ⟨B1, 0, none⟩ = some (.slice a (underT t d).length ca)) (h2 : W0.cell? ⟨B2, 0, none⟩ = some (.string d)) :
    SeqStopsK Fence.wide n Tryz.prog 111 #[.pointer (some ⟨B1, 0, none⟩), .pointer (some ⟨B2, 0, none⟩)] (encG (w := w) (t := t) (d := d)) (KB w.heap.size B2) (fun zs => zs.map (·.1.1) = (namesT t d).map (downE d)) (fun _ => True) 128 W0 := fun l J Jx W hW hJ _ hY h0 =>
  below1_in n l B1 B2 t ht d w a ca hca hel J Jx (fun pre A B h hb => hJ pre A B none h ⟨hb.os, hb.tape, hb.output, hb.size, fun k hk _ => hb.block k hk⟩ (fun r e => by cases e)) hY W (hw.trans (hW.mono hw.size))
    ((hW.cell (p := ⟨B1, 0, none⟩) (block_lt_of_cell h1)).trans h1) ((hW.cell (p := ⟨B2, 0, none⟩) (block_lt_of_cell h2)).trans h2) h0
set_option maxHeartbeats 400000 in
theorem below_in (F : Fence) (n : Nat) (h80 : F.fn 80) (hro : F.round = none) (d : ByteArray) (a : Option Addr) (la ca : Nat) (w : World) :
    CallsIn F n Tryz.prog 80 #[.string d, .slice a la ca] w fun e w' => e = .returned (.func (.func 111) #[] #[.pointer (some ⟨w.heap.size + 1, 0, none⟩), .pointer (some ⟨w.heap.size, 0, none⟩)]) ∧ w' = (w.alloc (.cells #[.string d] 9)).alloc (.cells #[.slice a la ca] 22) := by
  refine callsIn_of_wp Tryz.func80 rfl h80 ?_ hro
  simp only [Tryz.ntmps80, List.size_toArray, List.length_cons, List.length_nil, Nat.reduceAdd, Nat.reduceSub, Array.replicate_succ, Array.replicate_zero, List.push_toArray, List.append_toArray, List.nil_append, List.cons_append]
  gi_wp2
  go_ret
  exact ⟨rfl, rfl⟩

set_option maxRecDepth 100000 in
set_option maxHeartbeats 2000000 in
theorem nodeOf_step (t : List En) (ht : Tr t) (d : ByteArray) (w : World) (a : Option Addr) (cap : Nat) (hc : (belowT t d).length ≤ cap) (h : EL w a (belowT t d)) (hG : Hsh.Glob w) (h3 : 3 < w.heap.size)
    (ih : ∀ s ∈ namesT t d, ∀ W a c, (grpT t d s).length ≤ c → EL W a (grpT t d s) → Hsh.Glob W → 3 < W.heap.size → Calls Tryz.prog 51 #[.string (downE d s), .slice a (grpT t d s).length c] W (NodeMade W (nodeF t (downE d s)))) :
    CallsIn Fence.wide 3 Tryz.prog 51 #[.string d, .slice a (belowT t d).length cap] w (NodeMade w (nodeF t d)) := by
  have h51 : Fence.wide.fn 51 := trivial
  have h80 : Fence.wide.fn 80 := trivial
  have HT := hide ht
  have HS := hide h
  have HG := hide hG
  have IH := hide ih
  have HNF := hide (nodeF_eq t d)
  obtain ⟨hs1, hs2⟩ := below_split ht.srt d
  have HBL : Hid ((belowT t d).length ≤ 128) := hide (by have h1 : (belowT t d).length ≤ t.length := List.length_filter_le _ _; have h2 := ht.few; omega)
  obtain ⟨NF, hNF⟩ : ∃ NF, nodeF t d = NF := ⟨_, rfl⟩
  rw [hNF] at HNF ⊢
  obtain ⟨G, hG2⟩ : ∃ G, getT t d = G := ⟨_, rfl⟩
  rw [hG2] at HNF hs1
  obtain ⟨B, hB⟩ : ∃ B, belowT t d = B := ⟨_, rfl⟩
  rw [hB] at hc HS HBL hs1 hs2 ⊢
  obtain ⟨m, hm⟩ : ∃ m, B.length = m := ⟨_, rfl⟩
  have HM := hide hm
  rw [hm] at hc HBL ⊢
  have HHC := hide hc
  have HL1 := hide hs1
  have HR1 := hide hs2
  have HB0 := hide ((below_alloc' (w := w) (.cells #[.slice none 0 0, .slice none 0 0] 52)).alloc (by simp) (.cells #[.slice none 0 0, .slice none 0 0] 52))
  have HR4 := hide ((VRow.new w 52 zeroN).alloc (.cells #[.slice none 0 0, .slice none 0 0] 52))
  have HR5 := hide (VRow.newAt (W := w.alloc (.cells zeroN.toArray 52)) (T := 52) (n := w.heap.size + 1) (vs := zeroN) (by simp))
  have HZ2 : Hid (((w.alloc (.cells zeroN.toArray 52)).alloc (.cells zeroN.toArray 52)).heap.size = w.heap.size + 2) := hide (by simp)
  unfold zeroN at HR4 HR5 HZ2
  clear ht h hG ih hNF hG2 hB hs1 hs2 hc hm
  refine callsIn_of_wp_marks Tryz.func51 rfl trivial ?_ rfl
  simp only [Tryz.ntmps51, List.size_toArray, List.length_cons, List.length_nil, Nat.reduceAdd, Nat.reduceSub, Array.replicate_succ, Array.replicate_zero, List.push_toArray, List.append_toArray, List.nil_append, List.cons_append]
  rcases (show m = 0 ∨ (∃ x rest, B = x :: rest ∧ x.1 = d) ∨ (∃ x rest, B = x :: rest ∧ ¬ x.1 = d) by
    cases B with
    | nil => exact .inl (unhide HM).symm
    | cons x r => by_cases e : x.1 = d; exact .inr (.inl ⟨x, r, rfl, e⟩); exact .inr (.inr ⟨x, r, rfl, e⟩)) with hn0 | ⟨x, rest, hB1, he⟩ | ⟨x, rest, hB1, hne⟩
  all_goals first
    | (have hmz : ¬ (0 : Int) < (m : Int) := by omega
       obtain rfl : B = [] := List.eq_nil_of_length_eq_zero (by rw [unhide HM]; exact hn0)
       have HN0 := hide hn0
       clear hn0
       gi_wp2_with fail
       obtain ⟨A, hAa⟩ : ∃ A, A = a := ⟨_, rfl⟩
       obtain ⟨cA, hcA⟩ : ∃ cA, cA = cap := ⟨_, rfl⟩
       obtain ⟨mm, hmm⟩ : ∃ mm : Nat, mm = m := ⟨_, rfl⟩
       obtain ⟨V, hV⟩ : ∃ V : Value, V = .slice none 0 0 := ⟨_, rfl⟩
       have HVV : Hid (∃ r1 c1, V = .slice r1 G.length c1 ∧ G.length ≤ c1 ∧ SV w r1 G) := hide ⟨none, 0, by rw [hV, ← unhide HL1]; rfl, by rw [← unhide HL1]; exact Nat.le_refl _, by rw [← unhide HL1]; exact SV.none _ _⟩
       have HAA : Hid (EL w A (underT t d)) := hide (by rw [← unhide HR1]; exact EL.none _ _)
       have HDD : Hid ((underT t d).length = mm) := hide (by rw [← unhide HR1, hmm, unhide HN0]; rfl)
       have HCC : Hid (mm ≤ cA) := hide (by rw [hmm, hcA]; exact unhide HHC)
       have HB9 := hide (unhide HB0)
       have HR49 := hide (unhide HR4)
       have HR59 : Hid (VRow ((w.alloc (.cells #[.slice none 0 0, .slice none 0 0] 52)).alloc (.cells #[.slice none 0 0, .slice none 0 0] 52)) (w.heap.size + 1) 52 [V, .slice none 0 0]) := hide (by rw [hV]; exact unhide HR5)
       have HZ9 := hide (unhide HZ2)
       rw [← hAa, ← hcA, ← hmm]
       clear HB0 HR4 HR5 HZ2 hV hAa hcA hmm
       generalize (w.alloc (.cells _ 52)).alloc (.cells _ 52) = W2 at HR49 HR59 HB9 HZ9 ⊢)
    | (subst hB1
       have h0 : 0 < m := by rw [← unhide HM]; simp
       obtain ⟨g, o, rfl, hg, hcell⟩ := unhide HS (by simp)
       obtain ⟨r, c, x0, x1, hc1, hsv⟩ := hcell 0 x rfl
       rw [Nat.zero_mul, Nat.add_zero] at x0 x1
       have y0 := ((unhide HB0).cell (p := ⟨g, o, none⟩) hg).trans x0
       have y1 := ((unhide HB0).cell (p := ⟨g, o + 1, none⟩) hg).trans x1
       have hmz : (0 : Int) < (m : Int) := by omega
       have HC1 := hide hc1
       have HSV := hide hsv
       obtain ⟨A, cA, s2, hcA, hA⟩ := sliceE_from (some ⟨g, o, none⟩) (x :: rest) m cap 1 (unhide HM) h0 (unhide HHC)
       have s4 : ∀ W, (Instr.slice 22 (.slice (some ⟨g, o, none⟩) m cap) (some (.int .i64 1)) none none).run Tryz.prog W = .ok (.slice A (m - 1) cA) W := s2
       have HA := hide (hA w (unhide HS))
       have HCA := hide hcA
       clear hcell hg x0 x1 hc1 hsv s2 hA hcA
       have hE : (x.1.toList == d.toList) = true := by rw [same_text, decide_eq_true he]
       have z0 := (unhide HR5).cell 0 _ rfl
       have f0 := (unhide HR5).frozen 0
       have hl1 : x.2 = G := by rw [← unhide HL1]; exact (if_pos he).symm
       have hr1 : rest = underT t d := by rw [← unhide HR1]; exact (if_pos he).symm
       have HL2 := hide hl1
       have HR2 := hide hr1
       clear he hl1 hr1
       gi_wp2_with fail
       refine wpIn_wide.2 ?_
       go_region
       gi_wp2_with fail
       obtain ⟨mm, hmm⟩ : ∃ mm : Nat, mm = m - 1 := ⟨_, rfl⟩
       obtain ⟨V, hV⟩ : ∃ V : Value, V = .slice r x.2.length c := ⟨_, rfl⟩
       have HVV : Hid (∃ r1 c1, V = .slice r1 G.length c1 ∧ G.length ≤ c1 ∧ SV w r1 G) := hide ⟨r, c, by rw [hV, ← unhide HL2], by rw [← unhide HL2]; exact unhide HC1, by rw [← unhide HL2]; exact unhide HSV⟩
       have HAA : Hid (EL w A (underT t d)) := hide (by rw [← unhide HR2]; exact unhide HA)
       have HDD : Hid ((underT t d).length = mm) := hide (by have h1 := unhide HM; rw [List.length_cons, unhide HR2] at h1; omega)
       have HCC : Hid (mm ≤ cA) := hide (by have := unhide HCA; omega)
       have HB9 := hide (below_drew (((below_alloc' (w := w) (.cells #[.slice none 0 0, .slice none 0 0] 52)).alloc (by simp) (.cells #[.slice r x.2.length c, .slice none 0 0] 52))))
       have HR49 : Hid (VRow ((w.alloc (.cells #[.slice none 0 0, .slice none 0 0] 52)).alloc (.cells #[.slice r x.2.length c, .slice none 0 0] 52)).drew w.heap.size 52 [.slice none 0 0, .slice none 0 0]) := hide ((VRow.new w 52 [.slice none 0 0, .slice none 0 0]).alloc (.cells #[.slice r x.2.length c, .slice none 0 0] 52))
       have HR59 : Hid (VRow ((w.alloc (.cells #[.slice none 0 0, .slice none 0 0] 52)).alloc (.cells #[.slice r x.2.length c, .slice none 0 0] 52)).drew (w.heap.size + 1) 52 [V, .slice none 0 0]) := hide (by rw [hV]; exact VRow.newAt (W := w.alloc (.cells #[.slice none 0 0, .slice none 0 0] 52)) (T := 52) (n := w.heap.size + 1) (vs := [.slice r x.2.length c, .slice none 0 0]) (by simp))
       have HZ9 : Hid (((w.alloc (.cells #[.slice none 0 0, .slice none 0 0] 52)).alloc (.cells #[.slice r x.2.length c, .slice none 0 0] 52)).drew.heap.size = w.heap.size + 2) := hide (by simp [World.drew])
       rw [← hmm]
       clear HB0 HR4 HR5 HZ2 hmm z0 f0 y0 y1 hE s4 hV
       generalize ((w.alloc (.cells _ 52)).alloc (.cells _ 52)).drew = W2 at HR49 HR59 HB9 HZ9 ⊢)
    | (subst hB1
       have h0 : 0 < m := by rw [← unhide HM]; simp
       obtain ⟨g, o, rfl, hg, hcell⟩ := unhide HS (by simp)
       obtain ⟨r, c, x0, x1, hc1, hsv⟩ := hcell 0 x rfl
       rw [Nat.zero_mul, Nat.add_zero] at x0 x1
       have y0 := ((unhide HB0).cell (p := ⟨g, o, none⟩) hg).trans x0
       have y1 := ((unhide HB0).cell (p := ⟨g, o + 1, none⟩) hg).trans x1
       have hmz : (0 : Int) < (m : Int) := by omega
       have HC1 := hide hc1
       have HSV := hide hsv
       obtain ⟨A, cA, s2, hcA, hA⟩ := sliceE_from (some ⟨g, o, none⟩) (x :: rest) m cap 1 (unhide HM) h0 (unhide HHC)
       have s4 : ∀ W, (Instr.slice 22 (.slice (some ⟨g, o, none⟩) m cap) (some (.int .i64 1)) none none).run Tryz.prog W = .ok (.slice A (m - 1) cA) W := s2
       have HA := hide (hA w (unhide HS))
       have HCA := hide hcA
       clear hcell hg x0 x1 hc1 hsv s2 hA hcA
       have hE : (x.1.toList == d.toList) = false := by rw [same_text, decide_eq_false hne]
       have hl1 : [] = G := by rw [← unhide HL1]; exact (if_neg hne).symm
       have hr1 : x :: rest = underT t d := by rw [← unhide HR1]; exact (if_neg hne).symm
       have HL2 := hide hl1
       have HR2 := hide hr1
       clear hne y1 hl1 hr1 s4 HA HCA
       gi_wp2_with fail
       obtain ⟨A, hAa⟩ : ∃ A : Option Addr, A = some ⟨g, o, none⟩ := ⟨_, rfl⟩
       obtain ⟨cA, hcA⟩ : ∃ cA, cA = cap := ⟨_, rfl⟩
       obtain ⟨mm, hmm⟩ : ∃ mm : Nat, mm = m := ⟨_, rfl⟩
       obtain ⟨V, hV⟩ : ∃ V : Value, V = .slice none 0 0 := ⟨_, rfl⟩
       have HVV : Hid (∃ r1 c1, V = .slice r1 G.length c1 ∧ G.length ≤ c1 ∧ SV w r1 G) := hide ⟨none, 0, by rw [hV, ← unhide HL2]; rfl, by rw [← unhide HL2]; exact Nat.le_refl _, by rw [← unhide HL2]; exact SV.none _ _⟩
       have HAA : Hid (EL w A (underT t d)) := hide (by rw [← unhide HR2, hAa]; exact unhide HS)
       have HDD : Hid ((underT t d).length = mm) := hide (by rw [← unhide HR2, hmm]; exact unhide HM)
       have HCC : Hid (mm ≤ cA) := hide (by have := unhide HHC; omega)
       have HB9 := hide (unhide HB0)
       have HR49 := hide (unhide HR4)
       have HR59 : Hid (VRow ((w.alloc (.cells #[.slice none 0 0, .slice none 0 0] 52)).alloc (.cells #[.slice none 0 0, .slice none 0 0] 52)) (w.heap.size + 1) 52 [V, .slice none 0 0]) := hide (by rw [hV]; exact unhide HR5)
       have HZ9 := hide (unhide HZ2)
       rw [← hAa, ← hcA, ← hmm]
       clear HB0 HR4 HR5 HZ2 hAa hcA hmm y0 hE hV
       generalize (w.alloc (.cells _ 52)).alloc (.cells _ 52) = W2 at HR49 HR59 HB9 HZ9 ⊢)
  all_goals
    refine (below_in Fence.wide 2 h80 rfl _ _ _ _ _).mono ?_
    rintro e w' ⟨rfl, rfl⟩
    have hsz2 := unhide HZ9
    have hB3 := hide ((((unhide HB9).alloc (unhide HB9).size (.cells #[.string d] 9))).alloc (by simp; omega) (.cells #[.slice A mm cA] 22))
    have HR43 := hide (((unhide HR49).alloc (.cells #[.string d] 9)).alloc (.cells #[.slice A mm cA] 22))
    have HR53 := hide (((unhide HR59).alloc (.cells #[.string d] 9)).alloc (.cells #[.slice A mm cA] 22))
    have HC1 := hide ((VRow.newAt (W := W2.alloc (.cells #[.string d] 9)) (T := 22) (n := W2.heap.size + 1) (vs := [.slice A mm cA]) (by simp)).cell 0 _ rfl)
    have HC2 := hide (((VRow.new W2 9 [.string d]).alloc (.cells #[.slice A mm cA] 22)).cell 0 _ rfl)
    have HZ3 : Hid (((W2.alloc (.cells #[.string d] 9)).alloc (.cells #[.slice A mm cA] 22)).heap.size = w.heap.size + 4) := hide (by simp; omega)
    gi_wp2_with fail
    obtain ⟨W3, hW3⟩ : ∃ W3, (W2.alloc (.cells #[.string d] 9)).alloc (.cells #[.slice A mm cA] 22) = W3 := ⟨_, rfl⟩
    rw [hsz2] at HC1 HC2
    rw [hW3] at hB3 HR43 HR53 HZ3 ⊢
    have HC1' : Hid (W3.cell? ⟨w.heap.size + 2 + 1, 0, none⟩ = some (.slice A mm cA)) := hide (by rw [← hW3]; exact unhide HC1)
    have HC2' : Hid (W3.cell? ⟨w.heap.size + 2, 0, none⟩ = some (.string d)) := hide (by rw [← hW3]; exact unhide HC2)
    clear HC1 HC2 hW3 hsz2
    obtain ⟨r1, c1, hV, hG1, hG2⟩ := unhide HVV
    have hz3 := unhide HZ3
    have HNP0 : Hid (NP w W3.heap.size V (.slice none 0 0) [] W3) := hide ⟨unhide HR43, unhide HR53, OKid.nil _ _, unhide hB3, Nat.le_refl _, by omega⟩
    have hdm := unhide HDD
    have HUC : Hid ((underT t d).length ≤ cA) := hide (by rw [hdm]; exact unhide HCC)
    have HW1 : Hid (W3.cell? ⟨w.heap.size + 2 + 1, 0, none⟩ = some (.slice A (underT t d).length cA)) := hide (by rw [hdm]; exact unhide HC1')
    refine wpIn_rangeFunc_ownH rfl (by decide) (gf := 111) (lb := #[.pointer (some ⟨w.heap.size + 2 + 1, 0, none⟩), .pointer (some ⟨w.heap.size + 2, 0, none⟩)]) rfl trivial (enters_of Tryz.func111 (by kernel_rfl) rfl)
      (below_stops 2 (w.heap.size + 2 + 1) (w.heap.size + 2) t (unhide HT) d w A cA (unhide HUC) (unhide HAA) W3 (unhide hB3) (unhide HW1) (unhide HC2'))
      (fun h k => KB.trans h k) (KB.put (w := W3) (by omega) (by omega)) (Below.refl _ _) (fun _ => rfl)
      (fun pre W => ∃ KV, NP w W3.heap.size V KV (kidsG pre) W)
      (fun _ _ _ => False)
      (fun s X Y row hs hg hr => by obtain ⟨KV, h⟩ := hs; exact ⟨KV, h.grown hg hr⟩)
      (fun _ _ _ _ _ hs _ _ => hs)
      ⟨_, unhide HNP0⟩
      (fun x a' W => ∃ u2 u3 u8 u9 u10 u11 u12 u13 u14 u15 u16 u17 u18 u19 u20 u21 u22 u23 u24 u25 u26 u27 u28 u29 u30 u31 u32 u33 u34 u35 u36 u37 u38 u39 u40 u41 u42 u43 : Value, a' = { tmps := #[.string d, .slice A mm cA, u2, u3, .pointer (some ⟨w.heap.size, 0, none⟩), .pointer (some ⟨w.heap.size + 1, 0, none⟩), .string x.1.1, x.1.2, u8, u9, u10, u11, u12, u13, u14, u15, u16, u17, u18, u19, u20, u21, u22, u23, u24, u25, u26, u27, u28, u29, u30, u31, u32, u33, u34, u35, u36, u37, u38, u39, u40, u41, u42, u43], defers := [] })
      (fun x a' _ X Y row hs hg hr => hs)
      ?assign ?body ?done ?stop
    case assign =>
      rintro l pre x W K ⟨KV, hnp⟩ hK
      simp only [encG]
      gi_wp2
      exact hK _ _ (KeepsFrom.refl _ _) (KB.refl _ _ _) ⟨KV, hnp⟩ ⟨_, _, _, _, _, _, _, _, _, _, _, _, _, _, _, _, _, _, _, _, _, _, _, _, _, _, _, _, _, _, _, _, _, _, _, _, _, _, rfl⟩
    case body =>
      rintro l pre ⟨⟨E, SLV⟩, s, hs, hE1, qa, qc, hE2, hqc, hqe⟩ a' W hl hrec ⟨KV, hnp⟩ ⟨u2, u3, u8, u9, u10, u11, u12, u13, u14, u15, u16, u17, u18, u19, u20, u21, u22, u23, u24, u25, u26, u27, u28, u29, u30, u31, u32, u33, u34, u35, u36, u37, u38, u39, u40, u41, u42, u43, rfl⟩ hlt
      dsimp only at hE1 hE2
      subst hE1
      subst hE2
      have HNPW := hide hnp
      obtain ⟨hdd, hsn, h4⟩ := names_dir hs
      have hpd := path_size (path_down hdd hsn h4)
      have hups := (up_of_down hdd hsn h4).2
      refine wpIn_block ?_
      refine region_round (S := fun _ => True) (by kernel_rfl) (by kernel_rfl) (fun h => by obtain ⟨a, w, h⟩ := h; exact h) trivial (fun _ => ?_)
      have hkl : (kidsG pre).length ≤ 50000 := by unfold kidsG; rw [List.length_map]; omega
      refine node_region w W3.heap.size V KV (kidsG pre) W hnp (downE d s) s (.slice qa (grpT t d s).length qc) (nodeF t (downE d s)) (sumN (nodeF t (downE d s))) _ hkl (hide (fun c a w h => h)) (sumN_len _) h3 (unhide HG)
        (hide (fun W => Pth.last_any (downE d s) (by omega) s (by rw [show Pth.Pt.last (downE d s).data.toList = (lastE (downE d s)).data.toList by unfold lastE; rw [str_data], hups]) W))
        (hide (fun W hb => unhide IH s hs W qa qc hqc (hqe.after hb) ((unhide HG).below hb h3) (Nat.lt_of_lt_of_le h3 hb.size)))
        (hide (fun A C B D W hat hG2 h32 => sumN_any A C B D _ (node_ok (unhide HT).eok _).1 W hat hG2 h32))
        (hide (fun a' W' v' hok hb hk => ?_)) _ _ _ _ _ _ _ _ _ _ _ _ _ _ _ _ _ _ _ _ _ _ _ _ _ _ _ _ _ _ _ _ _ _ _ _ _ _ _ _
      refine ⟨turn_keeps hk (by omega), turn_kb hb (by omega) _ (by omega) (by omega), v', ?_⟩
      have e : kidsG (pre ++ [⟨(downE d s, .slice qa (grpT t d s).length qc), s, hs, rfl, qa, qc, rfl, hqc, hqe⟩]) = kidsG pre ++ [(s, sumN (nodeF t (downE d s)))] := by
        unfold kidsG
        rw [List.map_append]
        show _ ++ [(lastE (downE d s), sumN (nodeF t (downE d s)))] = _
        rw [hups]
      rw [e]
      exact (unhide HNPW).put hok hb
    case done =>
      rintro D zs W hD hzs ⟨KV, hnp⟩ hK
      have hkk := kidsG_all hzs
      rw [hkk] at hnp
      obtain ⟨b, dd, rfl, hbd, hsk, hfk⟩ := own_sk (kids_digs t d (namesT t d)) hnp.ow
      obtain ⟨KS, hKS⟩ : ∃ KS, kidsT t d (namesT t d) = KS := ⟨_, rfl⟩
      have hNF : NF = ⟨G, KS⟩ := by rw [unhide HNF, ← hKS]; rfl
      rw [hKS] at hnp hbd hsk hfk
      subst hV
      subst hNF
      have HR5 := hide hnp.r5
      have HR4 := hide hnp.r4
      have HBLW := hide hnp.bl
      have HSK := hide hsk
      have HFK := hide hfk
      have HHK := hide hK
      have HHG1 := hide hG1
      have HHG2 := hide hG2
      have HHBD := hide hbd
      have HDN : Hid (∀ ad, b = some ad → 0 < KS.length → ad.block ≠ D) := hide (fun ad e h0 e2 => by
        rcases hnp.ow.2 with ⟨e3, _⟩ | ⟨g', cap', cur, e3, _, hh, _⟩
        · rw [e] at e3; cases e3
        · rw [e] at e3
          simp only [Value.slice.injEq, Option.some.injEq] at e3
          have e4 : ad.block = g' := by rw [e3.1]
          rw [← e4, e2, hK] at hh
          cases hh)
      clear hkk hnp hsk hfk hzs hKS hK hG1 hG2 hbd
      have e0 := (unhide HR5).cell 0 _ rfl
      have e1 := (unhide HR5).cell 1 _ rfl
      have g0 := (unhide HR4).cell 0 _ rfl
      have g1 := (unhide HR4).cell 1 _ rfl
      have z0 := (unhide HR4).frozen 0
      have z1 := (unhide HR4).frozen 1
      gi_wp2_with fail
      clear e0 e1 g0 g1 z0 z1
      have o1 := only_set W w.heap.size 0 (.slice r1 G.length c1)
      have o2 := only_set (W.setCell ⟨w.heap.size, 0, none⟩ (.slice r1 G.length c1)) w.heap.size 1 (.slice b KS.length dd)
      have r9 : VRow ((W.setCell ⟨w.heap.size, 0, none⟩ (.slice r1 G.length c1)).setCell ⟨w.heap.size, 1, none⟩ (.slice b KS.length dd)) w.heap.size 52 (ndL ⟨G, KS⟩ r1 c1 b dd) := ((unhide HR4).set 0 _).set 1 _
      have b9 := ((unhide HBLW).trans (o1.below (Nat.le_refl _))).trans (o2.below (Nat.le_refl _))
      have k9 : ((W.setCell ⟨w.heap.size, 0, none⟩ (.slice r1 G.length c1)).setCell ⟨w.heap.size, 1, none⟩ (.slice b KS.length dd)).heap[D]? = some (.deferred (some [])) := (o2.block D (by omega)).trans ((o1.block D (by omega)).trans (unhide HHK))
      have s9 := ((unhide HSK).only o1 (fun ad e h0 => by have h1 := unhide HFK ad e h0; omega)).only o2 (fun ad e h0 => by have h1 := unhide HFK ad e h0; omega)
      generalize (W.setCell ⟨w.heap.size, 0, none⟩ (.slice r1 G.length c1)).setCell ⟨w.heap.size, 1, none⟩ (.slice b KS.length dd) = W9 at r9 b9 k9 s9 ⊢
      clear o1 o2
      refine ⟨by simp, .inl ⟨_, _, rfl, run_takeDeferred k9, ?_⟩⟩
      have oD : Only D W9 (W9.putObj D (.deferred none)) := ⟨rfl, rfl, rfl, by simp, fun j hj => World.putObj_heap_other hj⟩
      have b10 := b9.trans (oD.below (show w.heap.size ≤ D by omega))
      exact ⟨_, results_node rfl _ _ w.heap.size _ rfl (r9.only oD (by omega)) rfl, r1, c1, b, dd, rfl, ⟨unhide HHG1, unhide HHBD, (unhide HHG2).after b10, s9.only oD (unhide HDN)⟩, b10⟩
    case stop =>
      rintro D c pre W _ _ h _
      exact h.elim
end Go.Proofs.YtebjlmnhpfoglaaGreatDoor

/-
  The root's digest, and the texts of all nodes of a tree: the document's. Conditions: those that each theorem names.
-/

namespace Go.Proofs.YtebjlmnhpfoglaaGreatDoor
open Go.RowKit

set_option maxRecDepth 100000 in
set_option maxHeartbeats 2000000 in
theorem refRoot_any (a : Option Addr) (cap : Nat) (t : List En) (ht : Eok t) (w : World) (h : EL w a t) (hG : Hsh.RefKeys w) (h3 : 3 < w.heap.size) :
    Calls Tryz.prog 22 #[.slice a t.length cap] w fun e w' => e = .returned (.agg ((rootT t).map byteVal).toArray) ∧ Below w.heap.size w w' := by
  have HB0 := hide (below_alloc' (w := w) (.cells (zero32.map byteVal).toArray 46))
  have HZ0 := hide (VRow.new w 46 (zero32.map byteVal))
  have HG := hide hG
  have KN := hide (refNodeF_any a cap t ht ⟨#[]⟩ (show (0 : Nat) ≤ 1000 by omega) _ (h.after (unhide HB0)) (hG.below (unhide HB0) (by omega)) (Nat.lt_of_lt_of_le h3 (unhide HB0).size))
  have HOK := hide (node_ok ht ⟨#[]⟩)
  have HL32 : Hid (((rootT t).map byteVal).length = 32) := hide (by rw [List.length_map]; exact sumN_len _)
  have hz32 : (zero32.map byteVal).length = 32 := rfl
  have HON := hide (one_bytes (rootT t))
  have HSUM := hide (fun (A : Option Addr) (C : Nat) (B : Option Addr) (D : Nat) (W : World) (hat : NdAt W (nodeF t ⟨#[]⟩) A C B D) (hk : Hsh.RefKeys W) (h3 : 3 < W.heap.size) => refSumN_any A C B D _ (unhide HOK).1 (unhide HOK).2 W hat hk h3)
  rw [show sumN (nodeF t ⟨#[]⟩) = rootT t from rfl] at HSUM
  generalize rootT t = S at HL32 HON HSUM ⊢
  generalize nodeF t ⟨#[]⟩ = M at KN HSUM HOK
  clear h hG ht HOK
  go_enter Tryz.func22, Tryz.ntmps22
  go_wp2_with fail
  refine (unhide KN).mono ?_
  rintro e w1 ⟨a6, c6, b6, d6, rfl, hat6, hb⟩
  have HB1 := hide (below_grow (unhide HB0) (Nat.le_refl _) hb)
  have HZ1 := hide ((unhide HZ0).after hb)
  have HAT := hide hat6
  clear hb hat6 KN
  go_wp2_with fail
  refine (unhide HSUM _ _ _ _ _ (unhide HAT) ((unhide HG).below (unhide HB1) (by omega)) (Nat.lt_of_lt_of_le h3 (unhide HB1).size)).mono ?_
  rintro e w2 ⟨rfl, hb⟩
  have HB2 := hide (below_grow (unhide HB1) (Nat.le_refl _) hb)
  have HZ2 := hide ((unhide HZ1).after hb)
  clear hb HSUM
  go_wp2_with (refine store_row (by rfl) 46 (.tmp 2) (.tmp 5) (by rfl) w.heap.size (S.map byteVal) (by rfl) (by rfl) 46 (zero32.map byteVal) (unhide HZ2) 32 sizeDg (unhide HL32) hz32 (unhide HON) ?_; intro w3 ho3 hr3; have HO3 := hide ho3; have HR3 := hide hr3; clear ho3 hr3)
  refine bodyPost_ret (v := .agg (S.map byteVal).toArray) ?_ rfl ⟨rfl, (unhide HB2).trans ((unhide HO3).below (Nat.le_refl _))⟩
  exact results_dig rfl _ _ w.heap.size _ rfl (unhide HR3) (unhide HL32)

theorem texts_len (t : List En) : ∀ (k : Nat) (d : ByteArray), (textsT k t d).length ≤ (t.length + 1) ^ k ∧ 1 ≤ (textsT k t d).length
  | 0, d => by simp [textsT]
  | k + 1, d => by
    have h2 : ∀ l : List ByteArray, (l.flatMap fun s => textsT k t (downE d s)).length ≤ l.length * (t.length + 1) ^ k := by
      intro l
      induction l with
      | nil => simp
      | cons s l ih =>
        rw [List.flatMap_cons, List.length_append, List.length_cons, Nat.succ_mul]
        have := (texts_len t k (downE d s)).1
        omega
    have h3 := h2 (namesT t d)
    have h4 := Nat.mul_le_mul_right ((t.length + 1) ^ k) (len_names t d)
    have h5 : 1 ≤ (t.length + 1) ^ k := by have := Nat.pow_le_pow_left (show 1 ≤ t.length + 1 by omega) k; rwa [Nat.one_pow] at this
    constructor
    · show (str (bytesN (nodeF t d)).1 :: (namesT t d).flatMap fun s => textsT k t (downE d s)).length ≤ (t.length + 1) ^ (k + 1)
      rw [List.length_cons, Nat.pow_succ, Nat.mul_succ, Nat.mul_comm]
      omega
    · show 1 ≤ (str (bytesN (nodeF t d)).1 :: (namesT t d).flatMap fun s => textsT k t (downE d s)).length
      rw [List.length_cons]
      omega
theorem textsF_few {t : List En} (h : t.length ≤ 12) (d : ByteArray) : (textsF t d).length ≤ 28561 :=
  Nat.le_trans (texts_len t 4 d).1 (Nat.le_trans (Nat.pow_le_pow_left (show t.length + 1 ≤ 13 by omega) 4) (by decide))
def textsL (t : List En) (d : ByteArray) (l : List ByteArray) : List ByteArray := str (bytesN (nodeF t d)).1 :: l.flatMap fun s => textsF t (downE d s)
theorem textsL_snoc (t : List En) (d : ByteArray) (l : List ByteArray) (j : Nat) (s : ByteArray) (h : l[j]? = some s) : textsL t d (l.take (j + 1)) = textsL t d (l.take j) ++ textsF t (downE d s) := by
  unfold textsL
  rw [List.take_add_one, h]
  simp
theorem textsL_len {t : List En} (h : t.length ≤ 12) (d : ByteArray) (l : List ByteArray) (hl : l.length ≤ 12) : (textsL t d l).length ≤ 400000 := by
  have h2 : ∀ l : List ByteArray, (l.flatMap fun s => textsF t (downE d s)).length ≤ l.length * 28561 := by
    intro l
    induction l with
    | nil => simp
    | cons s l ih =>
      rw [List.flatMap_cons, List.length_append, List.length_cons, Nat.succ_mul]
      have := textsF_few h (downE d s)
      omega
  have := h2 l
  unfold textsL
  rw [List.length_cons]
  omega
theorem sl_grown {w w' : World} {row : Option Nat} {a : Option Addr} {bs : List ByteArray} (h : Pth.Sl w a bs) (hp : ∀ g o, a = some ⟨g, o, none⟩ → some g ≠ row) (hg : w.grownBy w' row) : Pth.Sl w' a bs := fun h0 => by
  obtain ⟨g, o, e, hlt, hc⟩ := h h0
  exact ⟨g, o, e, Nat.lt_of_lt_of_le hlt hg.size, fun j b hj => (World.cell?_of_block (hg.block g hlt (hp g o e))).trans (hc j b hj)⟩
theorem OT.one (W : World) (base : Nat) (hb : base ≤ W.heap.size) (b : ByteArray) : OT (W.alloc (.cells #[.string b] 9)) base (.slice (some ⟨W.heap.size, 0, none⟩) 1 1) [b] :=
  World.ownsRow_lit (base := base) (e := 9) (size := 1) W #[.string b] 1 hb (by unfold maxLen; omega) rfl
set_option maxRecDepth 100000 in
set_option maxHeartbeats 4000000 in
theorem refTexts_step (a : Option Addr) (cap : Nat) (t : List En) (ht : Eok t) (h12 : t.length ≤ 12) (d : ByteArray) (hd : d.size ≤ 1000) (w : World) (h : EL w a t) (hG : Hsh.RefKeys w) (h3 : 3 < w.heap.size)
    (ih : ∀ s ∈ namesT t d, ∀ W, EL W a t → Hsh.RefKeys W → 3 < W.heap.size → Calls Tryz.prog 31 #[.slice a t.length cap, .string (downE d s)] W (MadeT W (textsF t (downE d s)))) :
    Calls Tryz.prog 31 #[.slice a t.length cap, .string d] w (MadeT w (textsF t d)) := by
  have HS := hide h
  have HG := hide hG
  have KN := hide (refNodeF_any a cap t ht d hd w h hG h3)
  have HOK := hide (node_ok ht d)
  have KM := hide fun W (h : EL W a t) => refNames_any a cap t ht d hd W h
  have HPB := hide (fun s (hs : s ∈ namesT t d) => isN_size (parts_below (t := t) hs).2.1)
  have IH := hide ih
  have HLS := hide (fun l j s h => textsL_snoc t d l j s h)
  have HNL := hide (len_names t d)
  have HTF : Hid (textsF t d = textsL t d (namesT t d)) := hide (textsF_eq t d)
  have HT0 : Hid (textsL t d [] = [str (bytesN (nodeF t d)).1]) := hide rfl
  have HLL := hide (fun l (hl : l.length ≤ 12) => textsL_len h12 d l hl)
  have HFF := hide (fun q => textsF_few (t := t) (by omega) q)
  have KB := hide (fun (A : Option Addr) (C : Nat) (B : Option Addr) (D : Nat) (W : World) (hat : NdAt W (nodeF t d) A C B D) => refBytesN_any A C B D _ (unhide HOK).1 (unhide HOK).2 W hat)
  rw [unhide HTF]
  obtain ⟨N, hN⟩ : ∃ N, namesT t d = N := ⟨_, rfl⟩
  rw [hN] at KM HPB HNL IH ⊢
  generalize nodeF t d = M at KN KB HT0 HOK
  generalize str (bytesN M).1 = T0 at KB HT0
  generalize (bytesN M).2 = E0 at KB
  clear h hG ih ht hN HTF HOK
  go_enter Tryz.func31, Tryz.ntmps31
  go_wp2_with fail
  refine (unhide KN).mono ?_
  rintro e w1 ⟨a6, c6, b6, d6, rfl, hat6, hb⟩
  have HB1 := hide hb
  have HAT := hide hat6
  clear hb hat6 KN
  go_wp2_with fail
  refine (unhide KB _ _ _ _ _ (unhide HAT)).mono ?_
  rintro e w2 ⟨rfl, hb⟩
  have HB2 := hide (below_grow (unhide HB1) (Nat.le_refl _) hb)
  clear hb KB HAT HB1
  go_wp2_with fail
  have HO2 := hide (OT.one w2 w.heap.size (unhide HB2).size T0)
  have HB3 := hide ((unhide HB2).alloc (unhide HB2).size (.cells #[.string T0] 9))
  have HZ3 : Hid (w2.heap.size < (w2.alloc (.cells #[.string T0] 9)).heap.size) := hide (by simp)
  generalize w2.alloc (.cells #[.string T0] 9) = W3 at HO2 HB3 HZ3 ⊢
  refine (unhide KM _ ((unhide HS).after (unhide HB3))).mono ?_
  rintro e w4 ⟨a4, c4, rfl, hc4, hsl4, hfr4, hb4⟩
  have HO4 := hide ((unhide HO2).after hb4)
  have HB4 := hide (below_grow (unhide HB3) (Nat.le_refl _) hb4)
  have HSL := hide hsl4
  have HFR : Hid (∀ g o, a4 = some ⟨g, o, none⟩ → w2.heap.size < g) := hide (fun g o e => Nat.lt_of_lt_of_le (unhide HZ3) (hfr4 g o e))
  clear hsl4 hfr4 hb4 HB3 HO2 HB2
  go_wp2_with fail
  go_loopw [7, 9] (fun o i wr => ∃ (j : Nat), j ≤ N.length ∧ i = .int .i64 j ∧ OT wr w.heap.size o (textsL t d (N.take j)) ∧ Pth.Sl wr a4 N ∧ (∀ g q, a4 = some ⟨g, q, none⟩ → some g ≠ o.ownBlock) ∧ Below w.heap.size w wr) (fun _ i _ => N.length - (intOf i).toNat)
  case atStart => exact ⟨0, Nat.zero_le _, rfl, by rw [List.take_zero, unhide HT0]; exact unhide HO4, unhide HSL, fun g q e h => (by have := unhide HFR g q e; injection h with h; have h' : g = w2.heap.size := h; omega), unhide HB4⟩
  case round =>
    obtain ⟨j, hj, rfl, hot, hsl, hne, hb⟩ := hrel
    have HO := hide hot
    have HSLr := hide hsl
    have HNE := hide hne
    have HB := hide hb
    have hnl := unhide HNL
    have hsz := hb.size
    by_cases hlt : j < N.length
    · obtain ⟨s, hs⟩ : ∃ s, N[j]? = some s := ⟨_, List.getElem?_eq_getElem hlt⟩
      obtain ⟨g, o, rfl, hg, hcell⟩ := hsl (by omega)
      have z0 := hcell j s hs
      have hsm := List.mem_of_getElem? hs
      have HSN := hide (unhide HLS N j s hs)
      have HI := hide (unhide IH s hsm)
      have hss := unhide HPB s hsm
      have hll := unhide HLL (N.take j) (by rw [List.length_take]; omega)
      have hff := unhide HFF (downE d s)
      have KD := hide (fun W => refDown_any d s (by omega) (by omega) W)
      generalize textsL t d (N.take j) = L at HO HSN hll
      generalize textsF t (downE d s) = F at HI HSN hff
      generalize downE d s = E at KD HI
      clear hot hsl hne hb hcell hs hsm hg hss
      go_wp2_with fail
      refine (unhide KD _).mono ?_
      rintro e w5 ⟨rfl, rfl⟩
      go_wp2_with fail
      refine (unhide HI _ ((unhide HS).after (unhide HB)) ((unhide HG).below (unhide HB) (by omega)) (Nat.lt_of_lt_of_le h3 (unhide HB).size)).mono ?_
      rintro e w6 ⟨a6, c6, rfl, hc6, hsl6, _, hb6⟩
      have HO6 := hide ((unhide HO).after hb6)
      have HSL6 := hide ((unhide HSLr).after hb6)
      have HS6 := hide hsl6
      have HB6 := hide (below_grow (unhide HB) (Nat.le_refl _) hb6)
      have hlt6 : ∀ g' o', some (⟨g, o, none⟩ : Addr) = some ⟨g', o', none⟩ → g' < w6.heap.size := fun g' o' e => by
        obtain ⟨g2, o2, e2, h2, _⟩ := hsl6 |> fun _ => (unhide HSL6) (by omega)
        rw [e] at e2
        injection e2 with e2
        injection e2 with e3
        rw [e3]
        exact h2
      clear hb6 hsl6 z0 HO HSLr HB
      go_wp2_with (at_builtin; refine append_txt (by rfl) _ _ (by rfl) w.heap.size _ L (by rfl) (unhide HO6) a6 F.length c6 F rfl (by rfl) (unhide HS6) (by omega) (unhide HB6).size ?_; intro v7 w7 hot7 hb7 hg7 hv7; have HO7 := hide hot7; have HB7 := hide ((unhide HB6).trans hb7); have HSL7 := hide (sl_grown (unhide HSL6) (unhide HNE) hg7); have HNE7 : Hid (∀ g' q, some (⟨g, o, none⟩ : Addr) = some ⟨g', q, none⟩ → some g' ≠ v7.ownBlock) := hide (fun g' q e h => by rcases hv7 with hv | hv; exact unhide HNE g' q e (h.trans hv); have h8 := h.trans hv; injection h8 with h8; have h9 := hlt6 g' q e; omega); clear hot7 hb7 hg7 hv7)
      go_roundw
      case rel => exact ⟨j + 1, by omega, by go_num, by rw [unhide HSN]; exact unhide HO7, unhide HSL7, unhide HNE7, unhide HB7⟩
      case measure => simp [intOf]; omega
    · obtain rfl : j = N.length := by omega
      rw [List.take_length] at HO
      clear hot hsl hne hb
      obtain ⟨r, c, rfl, hc, hs, hfr⟩ := (unhide HO).sl
      have HS2 := hide hs
      have HFR2 := hide hfr
      clear hs hfr
      go_wp2_with fail
      go_ret
      exact ⟨r, c, rfl, hc, unhide HS2, unhide HFR2, unhide HB⟩
theorem refTexts_any (a : Option Addr) (cap : Nat) (t : List En) (ht : Eok t) (h12 : t.length ≤ 12) : ∀ (f : Nat) (d : ByteArray), 4 ≤ (partsE d).length + f → d.size ≤ 1000 → ∀ (w : World), EL w a t → Hsh.RefKeys w → 3 < w.heap.size →
    Calls Tryz.prog 31 #[.slice a t.length cap, .string d] w (MadeT w (textsF t d))
  | 0, d, h4, hd, w, h, hG, h3 => refTexts_step a cap t ht h12 d hd w h hG h3 fun s hs => by
      rw [names_deep (by omega)] at hs
      cases hs
  | f + 1, d, h4, hd, w, h, hG, h3 => refTexts_step a cap t ht h12 d hd w h hG h3 fun s hs W h' hG' h3' => by
      have h1 := (parts_below hs).2.2
      have h2 := Pth.Pt.path_length _ h1.2
      rw [size_data] at h2
      exact refTexts_any a cap t ht h12 f (downE d s) (by omega) (by omega) W h' hG' h3'
end Go.Proofs.YtebjlmnhpfoglaaGreatDoor

/-
  The root's digest, what is seen, the node of a directory: what Root, Seen and Node answer. Conditions: those that each theorem names.
-/

namespace Go.Proofs.YtebjlmnhpfoglaaGreatDoor
open Go.RowKit

theorem nodeOf_any (t : List En) (ht : Tr t) : ∀ (f : Nat) (d : ByteArray), 4 ≤ (partsE d).length + f → ∀ (w : World) (a : Option Addr) (cap : Nat), (belowT t d).length ≤ cap → EL w a (belowT t d) → Hsh.Glob w → 3 < w.heap.size →
    Calls Tryz.prog 51 #[.string d, .slice a (belowT t d).length cap] w (NodeMade w (nodeF t d))
  | 0, d, h4, w, a, cap, hc, h, hG, h3 => callsIn_wide.1 (nodeOf_step t ht d w a cap hc h hG h3 fun s hs => by
      rw [names_deep (by omega)] at hs
      cases hs)
  | f + 1, d, h4, w, a, cap, hc, h, hG, h3 => callsIn_wide.1 (nodeOf_step t ht d w a cap hc h hG h3 fun s hs W a' c' hc' h' hG' h3' => by
      have h1 := (parts_below hs).2.2
      exact nodeOf_any t ht f (downE d s) (by omega) W a' c' hc' h' hG' h3')
theorem below_root {t : List En} (h : ∀ x ∈ t, Pth.Pt.isPath x.1.data.toList = true) : belowT t ⟨#[]⟩ = t := List.filter_eq_self.2 fun x hx => by
  unfold atU
  rw [under_root (h x hx), Bool.or_true]

set_option maxRecDepth 100000 in
set_option maxHeartbeats 2000000 in
theorem rootOf_any (a : Option Addr) (cap : Nat) (t : List En) (ht : Tr t) (hc : t.length ≤ cap) (w : World) (h : EL w a t) (hG : Hsh.Glob w) (h3 : 3 < w.heap.size) :
    Calls Tryz.prog 46 #[.slice a t.length cap] w fun e w' => e = .returned (.agg ((rootT t).map byteVal).toArray) ∧ Below w.heap.size w w' := by
  have HB0 := hide (below_alloc' (w := w) (.cells (zero32.map byteVal).toArray 46))
  have HZ0 := hide (VRow.new w 46 (zero32.map byteVal))
  have HG := hide hG
  have hbr := below_root ht.path
  have KN := hide (nodeOf_any t ht 4 ⟨#[]⟩ (by omega) _ a cap (by rw [hbr]; exact hc) (by rw [hbr]; exact (h.after (unhide HB0))) (hG.below (unhide HB0) h3) (Nat.lt_of_lt_of_le h3 (unhide HB0).size))
  rw [hbr] at KN
  have HOK := hide (node_ok ht.eok ⟨#[]⟩)
  have HL32 : Hid (((rootT t).map byteVal).length = 32) := hide (by rw [List.length_map]; exact sumN_len _)
  have hz32 : (zero32.map byteVal).length = 32 := rfl
  have HON := hide (one_bytes (rootT t))
  have HSUM := hide (fun (A : Option Addr) (C : Nat) (B : Option Addr) (D : Nat) (W : World) (hat : NdAt W (nodeF t ⟨#[]⟩) A C B D) (hk : Hsh.Glob W) (h3 : 3 < W.heap.size) => sumN_any A C B D _ (unhide HOK).1 W hat hk h3)
  rw [show sumN (nodeF t ⟨#[]⟩) = rootT t from rfl] at HSUM
  generalize rootT t = S at HL32 HON HSUM ⊢
  generalize nodeF t ⟨#[]⟩ = M at KN HSUM HOK
  clear h hG ht HOK hbr
  go_enter Tryz.func46, Tryz.ntmps46
  go_wp2_with fail
  refine (unhide KN).mono ?_
  rintro e w1 ⟨a6, c6, b6, d6, rfl, hat6, hb⟩
  have HB1 := hide (below_grow (unhide HB0) (Nat.le_refl _) hb)
  have HZ1 := hide ((unhide HZ0).after hb)
  have HAT := hide hat6
  clear hb hat6 KN
  go_wp2_with fail
  refine (unhide HSUM _ _ _ _ _ (unhide HAT) ((unhide HG).below (unhide HB1) h3) (Nat.lt_of_lt_of_le h3 (unhide HB1).size)).mono ?_
  rintro e w2 ⟨rfl, hb⟩
  have HB2 := hide (below_grow (unhide HB1) (Nat.le_refl _) hb)
  have HZ2 := hide ((unhide HZ1).after hb)
  clear hb HSUM
  go_wp2_with (refine store_row (by rfl) 46 (.tmp 2) (.tmp 5) (by rfl) w.heap.size (S.map byteVal) (by rfl) (by rfl) 46 (zero32.map byteVal) (unhide HZ2) 32 sizeDg (unhide HL32) hz32 (unhide HON) ?_; intro w3 ho3 hr3; have HO3 := hide ho3; have HR3 := hide hr3; clear ho3 hr3)
  refine bodyPost_ret (v := .agg (S.map byteVal).toArray) ?_ rfl ⟨rfl, (unhide HB2).trans ((unhide HO3).below (Nat.le_refl _))⟩
  exact results_dig rfl _ _ w.heap.size _ rfl (unhide HR3) (unhide HL32)

set_option maxRecDepth 100000 in
set_option maxHeartbeats 2000000 in
theorem treeRoot_any (p : Option Addr) (t : List En) (ht : Tr t) (w : World) (h : TrAt w p t) (hG : Hsh.Glob w) (h3 : 3 < w.heap.size) :
    Calls Tryz.prog 21 #[.pointer p] w fun e w' => e = .returned (.agg ((rootT t).map byteVal).toArray) ∧ Below w.heap.size w w' := by
  have HB0 := hide (below_alloc' (w := w) (.cells (zero32.map byteVal).toArray 46))
  have HZ0 := hide (VRow.new w 46 (zero32.map byteVal))
  have HG := hide hG
  have HT := hide ht
  have KA := hide (all_any p t _ (h.after (unhide HB0)))
  have HL32 : Hid (((rootT t).map byteVal).length = 32) := hide (by rw [List.length_map]; exact sumN_len _)
  have hz32 : (zero32.map byteVal).length = 32 := rfl
  have HON := hide (one_bytes (rootT t))
  obtain ⟨S, hS⟩ : ∃ S, rootT t = S := ⟨_, rfl⟩
  have HSS := hide hS
  rw [hS] at HL32 HON ⊢
  clear h hG ht hS
  go_enter Tryz.func21, Tryz.ntmps21
  go_wp2_with fail
  refine (unhide KA).mono ?_
  rintro e w1 ⟨a, c, rfl, hc, hel, rfl⟩
  have KR := hide (rootOf_any a c t (unhide HT) hc _ hel ((unhide HG).below (unhide HB0) h3) (Nat.lt_of_lt_of_le h3 (unhide HB0).size))
  rw [unhide HSS] at KR
  clear hc hel KA
  go_wp2_with fail
  refine (unhide KR).mono ?_
  rintro e w2 ⟨rfl, hb⟩
  have HB2 := hide (below_grow (unhide HB0) (Nat.le_refl _) hb)
  have HZ2 := hide ((unhide HZ0).after hb)
  clear hb KR
  go_wp2_with (refine store_row (by rfl) 46 (.tmp 2) (.tmp 5) (by rfl) w.heap.size (S.map byteVal) (by rfl) (by rfl) 46 (zero32.map byteVal) (unhide HZ2) 32 sizeDg (unhide HL32) hz32 (unhide HON) ?_; intro w3 ho3 hr3; have HO3 := hide ho3; have HR3 := hide hr3; clear ho3 hr3)
  refine bodyPost_ret (v := .agg (S.map byteVal).toArray) ?_ rfl ⟨rfl, (unhide HB2).trans ((unhide HO3).below (Nat.le_refl _))⟩
  exact results_dig rfl _ _ w.heap.size _ rfl (unhide HR3) (unhide HL32)

/-! What is seen. -/
theorem run_append_el {w : World} (ty : TypeId) (base : Nat) (v : Value) (es : List En) (hown : OE w base v es) (r : Option Addr) (m c : Nat) (ys : List En) (hm : ys.length = m) (hel : ELN v.ownBlock w r ys) (hn : es.length + ys.length ≤ 150000) (hbase : base ≤ w.heap.size) :
    ∃ v' w', (Builtin.append_ #[22, 22] ty #[v, .slice r m c]).run Tryz.prog w = .ok v' w' ∧ OE w' base v' (es ++ ys) ∧ Below base w w' ∧ w.grownBy w' v.ownBlock := by
  subst hm
  obtain ⟨i0, hi, hz0, hz1, hz2⟩ := info_parts infoEn
  obtain ⟨ps, e1, e2, e3⟩ := hown.is
  subst e1
  rw [List.length_map] at hn
  cases r with
  | none =>
    have hxs : ys = [] := by
      cases ys with
      | nil => rfl
      | cons d l => obtain ⟨g, o, e, _⟩ := hel (by simp); cases e
    subst hxs
    refine ⟨v, w, run_append_noneE (w := w) base 22 ty 33 i0 2 Tryz.underlying22 hi v ps.length (flatE ps) e2 c, ?_, Below.refl _ _, rfl, rfl, rfl, Nat.le_refl _, fun _ _ _ => rfl⟩
    rw [List.append_nil]
    exact hown
  | some ad =>
    have hps : ∃ qs : List EP, qs.map (·.1) = ys ∧ (∀ j u, (flatE qs)[j]? = some u → w.cell? (ad.add j) = some u) ∧ ∀ x ∈ qs, x.1.2.length ≤ x.2.2 ∧ SV w x.2.1 x.1.2 ∧ Prov (Off v.ownBlock) w x.2.1 x.1.2 := by
      cases ys with
      | nil => exact ⟨[], rfl, fun j u hu => by simp [flatE] at hu, fun _ h => by cases h⟩
      | cons d l =>
        obtain ⟨g, o, e, qs, h1, h2, h3⟩ := hel (by simp)
        injection e with e
        subst e
        refine ⟨qs, h1, fun j u hu => ?_, h3⟩
        rw [show (⟨g, o, none⟩ : Addr).add j = ⟨g, o + j, none⟩ by unfold Addr.add; split <;> simp_all]
        exact h2 j u hu
    obtain ⟨qs, h1, h2, h3⟩ := hps
    subst h1
    rw [List.length_map] at hn
    obtain ⟨v', w', hr, g1, g2, _, g4⟩ := run_append_own_at (P := Tryz.prog) w base 22 ty 33 i0 _ 2 40 Tryz.underlying22 hi hz0 hz1 hz2 rfl (by decide) v ps.length (flatE ps) e2 ad qs.length c (flatE qs) (flatE_len qs) h2 (flatE_one qs) (by unfold maxLen; omega) (by omega) hbase
    have hO : ∀ g, g < w.heap.size → Off v.ownBlock g → Off v'.ownBlock g := fun g hg h1 => by
      rcases g4 with e | e
      · rw [e]; exact h1
      · rw [e]
        intro e2
        injection e2 with e2
        have : g = w.heap.size := e2
        omega
    refine ⟨v', w', by rw [List.length_map]; exact hr, ⟨ps ++ qs, by rw [List.map_append], by rw [List.length_append, flatE_append]; exact g1, fun x hx => ?_⟩, grown_below e2 g2 hbase, g2⟩
    rcases List.mem_append.1 hx with hx | hx
    · exact ⟨(e3 x hx).1, sv_grown (e3 x hx).2.1 (e3 x hx).2.2 g2, prov_grown (e3 x hx).2.1 (e3 x hx).2.2 g2 hO⟩
    · exact ⟨(h3 x hx).1, sv_grown (h3 x hx).2.1 (h3 x hx).2.2 g2, prov_grown (h3 x hx).2.1 (h3 x hx).2.2 g2 hO⟩
theorem stepR_append_el {w : World} {ops : Array Oper} {o : Oper} {a : Act} {K : Act → World → Prop} {Q : Exit → Act → World → Prop} {E : Prop} (hgd : o.guard = none) (s x : Operand)
    (ho : o.op = .call { callee := .builtin .append, args := #[s, x], argTypes := #[22, 22] }) (base : Nat) (v : Value) (es : List En) (hs : a.eval s = v) (hown : OE w base v es)
    (r : Option Addr) (m c : Nat) (ys : List En) (hm : ys.length = m) (hx : a.eval x = .slice r m c) (hel : ELN v.ownBlock w r ys) (hn : es.length + ys.length ≤ 150000) (hbase : base ≤ w.heap.size)
    (h : ∀ v' w', OE w' base v' (es ++ ys) → Below base w w' → w.grownBy w' v.ownBlock → K (a.put o.dst v') w') : if Region.wanted o (yielded ops a.tmps) = true then Oper.wp Tryz.prog o a w K Q else E := by
  obtain ⟨v', w', hr, h1, h2, h3⟩ := run_append_el (w := w) o.type base v es hown r m c ys hm hel hn hbase
  rw [if_pos (by simp [Region.wanted, hgd])]
  unfold Oper.wp execOp
  simp only [ho, resolve, invoke, builtin, Sem.run_bind, Sem.run_pure, Result.andThen_ok, List.map_toArray, List.map_cons, List.map_nil, hs, hx, hr]
  exact h v' w' h1 h2 h3
set_option maxRecDepth 100000 in
set_option maxHeartbeats 400000 in
theorem entryOf_eln (row : Option Nat) (p : ByteArray) (r : Option Addr) (c : Nat) (l : List Vc.V) (hc : l.length ≤ c) (w : World) (h : SV w r l) (hp : Prov (Off row) w r l) :
    Calls Tryz.prog 39 #[.string p, .slice r l.length c] w fun e w' => ∃ a c', e = .returned (.slice a (oneE p l).length c') ∧ ELN row w' a (oneE p l) ∧ Below w.heap.size w w' := by
  have HS := hide h
  have HP := hide hp
  unfold oneE
  by_cases h0 : l.length = 0
  · rw [if_pos h0, h0]
    clear h hp
    go_enter Tryz.func39, Tryz.ntmps39
    go_wp2_with fail
    go_ret
    exact ⟨none, 0, rfl, fun h => absurd h (Nat.lt_irrefl _), Below.refl _ _⟩
  · rw [if_neg h0]
    have h1 : ¬ (l.length : Int) = 0 := by omega
    have h2 : ((l.length : Int) == 0) = false := beq_eq_false_iff_ne.2 h1
    have HB := hide (below_alloc' (w := w) (.cells #[.string p, .slice r l.length c] 33))
    have HV := hide (VRow.new w 33 (entL (p, l) r c))
    have HC := hide hc
    clear h hc h0 hp
    go_enter Tryz.func39, Tryz.ntmps39
    go_wp2_with fail
    go_ret
    refine ⟨_, _, rfl, fun _ => ⟨w.heap.size, 0, rfl, [((p, l), r, c)], rfl, fun j u hu => ?_, fun x hx => ?_⟩, unhide HB⟩
    · rw [Nat.zero_add]
      have e : flatE [((p, l), r, c)] = entL (p, l) r c := by simp [flatE]
      rw [e] at hu
      exact (unhide HV).cell j u hu
    · rw [List.mem_singleton.1 hx]
      exact ⟨unhide HC, (unhide HS).after (unhide HB), (unhide HP).after (unhide HS) (unhide HB)⟩
theorem shown_one (t : List En) (k : Nat) (x : En) (h : t[k]? = some x) : shownT (t.take (k + 1)) = shownT (t.take k) ++ oneE x.1 (Vc.live x.2) := shown_snoc t k x h

set_option maxRecDepth 100000 in
set_option maxHeartbeats 2000000 in
theorem treeSeen_any (p : Option Addr) (t : List En) (ht : Tr t) (w : World) (h : TrAt w p t) (hG : Hsh.Glob w) (h3 : 3 < w.heap.size) :
    Calls Tryz.prog 23 #[.pointer p] w fun e w' => e = .returned (.agg ((rootT (shownT t)).map byteVal).toArray) ∧ Below w.heap.size w w' := by
  have HB0 := hide (below_alloc' (w := w) (.cells (zero32.map byteVal).toArray 46))
  have HZ0 := hide (VRow.new w 46 (zero32.map byteVal))
  have HG := hide hG
  have HT := hide ht
  have KA := hide (all_any p t _ (h.after (unhide HB0)))
  have HL32 : Hid (((rootT (shownT t)).map byteVal).length = 32) := hide (by rw [List.length_map]; exact sumN_len _)
  have hz32 : (zero32.map byteVal).length = 32 := rfl
  have HON := hide (one_bytes (rootT (shownT t)))
  obtain ⟨S, hS⟩ : ∃ S, rootT (shownT t) = S := ⟨_, rfl⟩
  have HSS := hide hS
  obtain ⟨n, hn⟩ : ∃ n, t.length = n := ⟨_, rfl⟩
  have HN := hide hn
  have hn128 : n ≤ 128 := by rw [← hn]; exact ht.few
  rw [hS] at HL32 HON ⊢
  rw [hn] at KA
  clear h hG ht hS hn
  go_enter Tryz.func23, Tryz.ntmps23
  go_wp2_with fail
  refine (unhide KA).mono ?_
  rintro e w1 ⟨a, c, rfl, hc, hel, rfl⟩
  have HE1 := hide hel
  clear hc hel KA
  go_wp2_with fail
  generalize w.alloc (.cells _ 46) = w1 at HB0 HZ0 HE1 ⊢
  have HSN := hide fun k x h => shown_one t k x h
  go_loopw [3, 9] (fun v i wr => ∃ k : Nat, k ≤ n ∧ i = .int .i64 k ∧ OE wr w1.heap.size v (shownT (t.take k)) ∧ Below w1.heap.size w1 wr) (fun _ i _ => n - (intOf i).toNat)
  case atStart => exact ⟨0, Nat.zero_le _, rfl, OE.nil _ _, Below.refl _ _⟩
  case round =>
    obtain ⟨k, hk, rfl, hoe, hb⟩ := hrel
    have HO := hide hoe
    have HB := hide hb
    have HS1 := hide ((unhide HE1).after hb)
    clear hoe hb
    by_cases hlt : k < n
    · obtain ⟨x, hx⟩ : ∃ x, t[k]? = some x := ⟨_, List.getElem?_eq_getElem (by rw [unhide HN]; exact hlt)⟩
      obtain ⟨g, o, rfl, hg, hcell⟩ := unhide HS1 (by rw [unhide HN]; omega)
      obtain ⟨q, d, x0, x1, h5, h6⟩ := hcell k x hx
      have hm := (unhide HT).leaf x (List.mem_of_getElem? hx)
      have HLP := hide (leaf_pasts hm.2)
      have HLL := hide (leaf_fewT hm.2).2
      have HST := hide (unhide HSN k x hx)
      have HSL : Hid ((shownT (t.take k)).length ≤ 128) := hide (by have h1 := shown_len (t.take k); rw [List.length_take, unhide HN] at h1; omega)
      generalize shownT (t.take k) = L at HO HST HSL
      have H6 := hide h6
      clear hx hcell hg hm h5 h6
      go_wp2_with (refine store_row (by rfl) 33 _ _ (by rfl) wr.heap.size (entL x q d) (by rfl) (by rfl) 33 zeroEnL (VRow.newAt rfl) 2 sizeEn rfl rfl (entL_one _ _ _) ?_; intro wz ho hr; have HZ := hide ((below_alloc' (w := wr) (.cells zeroEnL.toArray 33)).trans (ho.below (Nat.le_refl _))); have RZ := hide hr; clear ho hr x0 x1)
      have z0 : wz.drew.cell? ⟨wr.heap.size, 0, none⟩ = some (.string x.1) := (unhide RZ).cell 0 _ rfl
      have z1 : wz.drew.cell? ⟨wr.heap.size, 1, none⟩ = some (.slice q x.2.length d) := (unhide RZ).cell 1 _ rfl
      have HLT : Hid (wr.heap.size < wz.heap.size) := hide (unhide RZ).lt
      have HZD := hide (below_drew (unhide HZ))
      have HV6 := hide ((unhide H6).after (unhide HZD))
      have HOW : Hid (some wr.heap.size ≠ u3.ownBlock) := hide (fun e => by have := ((unhide HO).lt _ e.symm).2; omega)
      go_region_held3 (fun w' => w'.cell? ⟨wr.heap.size, 0, none⟩ = some (.string x.1) ∧ w'.cell? ⟨wr.heap.size, 1, none⟩ = some (.slice q x.2.length d))
        (first | assumption | exact ⟨z0, z1⟩)
        (first
          | (go_at_call 48; refine (live_any (Off u3.ownBlock) q d x.2 (by have := unhide HLL; omega) (fun v hv => by have := unhide HLP v hv; omega) _ (fun j hj e => by have h1 := ((unhide HO).lt _ e.symm).2; have h2 := (unhide HZD).size; omega) (unhide HV6)).mono ?_; rintro e w4 ⟨r4, c4, rfl, hc4, hs4, hp4, hb4⟩; have hS4 : w4.cell? ⟨wr.heap.size, 0, none⟩ = some (.string x.1) ∧ w4.cell? ⟨wr.heap.size, 1, none⟩ = some (.slice q x.2.length d) := ⟨(hb4.cell (p := ⟨wr.heap.size, 0, none⟩) (unhide HLT)).trans z0, (hb4.cell (p := ⟨wr.heap.size, 1, none⟩) (unhide HLT)).trans z1⟩)
          | (go_at_call 39; refine (entryOf_eln u3.ownBlock x.1 r4 c4 (Vc.live x.2) hc4 _ hs4 hp4).mono ?_; rintro e w5 ⟨a5, c5, rfl, he5, hb5⟩; have hS5 : w5.cell? ⟨wr.heap.size, 0, none⟩ = some (.string x.1) ∧ w5.cell? ⟨wr.heap.size, 1, none⟩ = some (.slice q x.2.length d) := ⟨(hb5.cell (p := ⟨wr.heap.size, 0, none⟩) (block_lt_of_cell hS4.1)).trans hS4.1, (hb5.cell (p := ⟨wr.heap.size, 1, none⟩) (block_lt_of_cell hS4.2)).trans hS4.2⟩)
          | (refine stepR_append_el rfl _ _ (by rfl) w1.heap.size u3 L (by rfl) ((unhide HO).after (below_grow (below_grow (unhide HZD) (Nat.le_refl _) hb4) (Nat.le_refl _) hb5)) a5 (oneE x.1 (Vc.live x.2)).length c5 (oneE x.1 (Vc.live x.2)) rfl (by rfl) he5 (by have h1 := unhide HSL; have h2 := oneE_len x.1 (Vc.live x.2); omega) (Nat.le_trans (unhide HB).size (below_grow (below_grow (unhide HZD) (Nat.le_refl _) hb4) (Nat.le_refl _) hb5).size) ?_; intro v9 w9 hoe9 hb9 hg9; have hS9 : w9.cell? ⟨wr.heap.size, 0, none⟩ = some (.string x.1) ∧ w9.cell? ⟨wr.heap.size, 1, none⟩ = some (.slice q x.2.length d) := ⟨(World.cell?_of_block (hg9.block _ (block_lt_of_cell hS5.1) (unhide HOW))).trans hS5.1, (World.cell?_of_block (hg9.block _ (block_lt_of_cell hS5.2) (unhide HOW))).trans hS5.2⟩))
      rename_i hHeld
      have HB5 := hide (below_grow (below_grow (unhide HZD) (Nat.le_refl _) hb4) (Nat.le_refl _) hb5)
      have HB9 := hide (((unhide HB).trans ((unhide HB5).mono (unhide HB).size)).trans hb9)
      have HO9 := hide hoe9
      rw [← unhide HST] at HO9
      clear hHeld hb4 hb5 hb9 hoe9 hg9 hS4 hS5 hS9 z0 z1 hc4 hs4 hp4 he5
      go_wp2_with fail
      go_roundw
      case rel => exact ⟨k + 1, by omega, by go_num, unhide HO9, unhide HB9⟩
      case measure => simp [intOf]; omega
    · obtain rfl : k = n := by omega
      rw [List.take_of_length_le (by rw [unhide HN]; exact Nat.le_refl _)] at HO
      obtain ⟨a6, c6, e6, hc6, he6⟩ := (unhide HO).el
      have HBW := hide ((unhide HB0).trans ((unhide HB).mono (unhide HB0).size))
      have KR := hide (rootOf_any a6 c6 (shownT t) (unhide HT).shown hc6 wr he6 ((unhide HG).below (unhide HBW) h3) (Nat.lt_of_lt_of_le h3 (unhide HBW).size))
      rw [unhide HSS] at KR
      subst e6
      clear hc6 he6
      go_wp2_with fail
      refine (unhide KR).mono ?_
      rintro e w2 ⟨rfl, hb⟩
      have HB2 := hide (below_grow (unhide HBW) (Nat.le_refl _) hb)
      have HZ2 := hide (((unhide HZ0).after (unhide HB)).after hb)
      clear hb KR
      go_wp2_with (refine store_row (by rfl) 46 (.tmp 2) (.tmp 23) (by rfl) w.heap.size (S.map byteVal) (by rfl) (by rfl) 46 (zero32.map byteVal) (unhide HZ2) 32 sizeDg (unhide HL32) hz32 (unhide HON) ?_; intro w3 ho3 hr3; have HO3 := hide ho3; have HR3 := hide hr3; clear ho3 hr3)
      refine bodyPost_ret (v := .agg (S.map byteVal).toArray) ?_ rfl ⟨rfl, (unhide HB2).trans ((unhide HO3).below (Nat.le_refl _))⟩
      exact results_dig rfl _ _ w.heap.size _ rfl (unhide HR3) (unhide HL32)
end Go.Proofs.YtebjlmnhpfoglaaGreatDoor

/-
  Whether a tree has a node at a directory: the document's. Conditions: those that each theorem names.
-/

namespace Go.Proofs.YtebjlmnhpfoglaaGreatDoor
open Go.RowKit

def thereT (t : List En) (d : ByteArray) : Bool := d.data.toList.isEmpty || decide (0 < (getT t d).length) || decide (0 < (namesT t d).length)
set_option maxRecDepth 100000 in
set_option maxHeartbeats 2000000 in
theorem refThere_any (a : Option Addr) (cap : Nat) (t : List En) (ht : Eok t) (d : ByteArray) (hd : d.size ≤ 1000) (w : World) (h : EL w a t) :
    Calls Tryz.prog 26 #[.slice a t.length cap, .string d] w fun e w' => e = .returned (.bool (thereT t d)) ∧ Below w.heap.size w w' := by
  have KG := hide fun W (h : EL W a t) => refGetT_any a cap t (by have := ht.len; omega) d W W (Below.refl _ _) h
  have KN := hide fun W (h : EL W a t) => refNames_any a cap t ht d hd W h
  have HS := hide h
  have HE : Hid (d.toList.isEmpty = d.data.toList.isEmpty) := hide (by rw [Lib.toList_data])
  unfold thereT
  generalize getT t d = G at KG ⊢
  generalize namesT t d = N at KN ⊢
  obtain ⟨X, hX⟩ : ∃ X, (d.data.toList.isEmpty || decide (0 < G.length) || decide (0 < N.length)) = X := ⟨_, rfl⟩
  rw [hX]
  clear h ht
  have h0 := unhide HE
  cases hz : d.data.toList.isEmpty with
  | true =>
    rw [hz] at h0 hX
    obtain rfl : X = true := by rw [← hX]; rfl
    clear hz HE hX
    go_enter Tryz.func26, Tryz.ntmps26
    go_wp2_with fail
    go_ret
    exact ⟨rfl, Below.refl _ _⟩
  | false =>
    rw [hz] at h0 hX
    have HX := hide hX
    clear hz HE hX
    go_enter Tryz.func26, Tryz.ntmps26
    go_wp2_with fail
    refine (unhide KG _ (unhide HS)).mono ?_
    rintro e w1 ⟨r1, c1, rfl, _, _, rfl⟩
    have HB1 := hide (Below.refl w1.heap.size w1)
    by_cases hg : 0 < G.length
    · have hd1 : decide ((0 : Int) < ((G.length : Nat) : Int)) = true := decide_eq_true (by omega)
      obtain rfl : X = true := by rw [← unhide HX, decide_eq_true hg]; rfl
      have hne : ¬ G = [] := fun h => by rw [h] at hg; simp at hg
      clear HX
      go_wp2_with fail
      go_ret
      exact ⟨rfl, unhide HB1⟩
    · have hd1 : decide ((0 : Int) < ((G.length : Nat) : Int)) = false := decide_eq_false (by omega)
      rw [decide_eq_false hg] at HX
      obtain rfl : G = [] := List.eq_nil_of_length_eq_zero (by omega)
      clear hg hd1
      go_wp2_with fail
      refine (unhide KN _ ((unhide HS).after (unhide HB1))).mono ?_
      rintro e w2 ⟨r2, c2, rfl, _, _, _, hb⟩
      have HB2 := hide (below_grow (unhide HB1) (Nat.le_refl _) hb)
      clear hb
      by_cases hn : 0 < N.length
      · have hd3 : decide ((0 : Int) < ((N.length : Nat) : Int)) = true := decide_eq_true (by omega)
        obtain rfl : X = true := by rw [← unhide HX, decide_eq_true hn]; rfl
        have hnn : ¬ N = [] := fun h => by rw [h] at hn; simp at hn
        clear HX
        go_wp2_with fail
        go_ret
        exact ⟨rfl, unhide HB2⟩
      · have hd3 : decide ((0 : Int) < ((N.length : Nat) : Int)) = false := decide_eq_false (by omega)
        obtain rfl : X = false := by rw [← unhide HX, decide_eq_false hn]; rfl
        obtain rfl : N = [] := List.eq_nil_of_length_eq_zero (by omega)
        clear hn HX hd3
        go_wp2_with fail
        go_ret
        exact ⟨rfl, unhide HB2⟩
end Go.Proofs.YtebjlmnhpfoglaaGreatDoor

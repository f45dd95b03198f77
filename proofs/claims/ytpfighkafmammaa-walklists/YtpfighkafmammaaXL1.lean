/-
  The walk of the statement on what lies below a directory and behind a text. Conditions: those that each theorem names.
-/
import Derived.Test.YtpfighkafmammaaE01
namespace Go.Proofs.Ytpfighkafmammaa
open Go.RowKit

set_option maxRecDepth 100000 in
set_option maxHeartbeats 2000000 in
theorem lists_walk {TA : World → Option Addr → List En → Prop} (P : PrgW TA) (a : Option Addr) (cap : Nat) (l : List En) (hl : l.length ≤ 9223372036854775807) (he : ∀ x ∈ l, EnOk x) (d s : ByteArray) (hd : d.size ≤ 9223372036854775807) (hs : s.size ≤ 9223372036854775807) (most : Int) (w : World) (h : EL w a l) :
    Calls Try.prog 3 #[.slice a l.length cap, .agg #[.string d, .string s], .int .i64 most] w fun e w' => e = .returned (.bool true) ∧ Below w.heap.size w w' := by
  have HS := hide h
  have HOK := hide he
  have HP := hide P
  have KG := hide fun W (h : EL W a l) => greatE_any a cap l 20 (by omega) hl (fun x hx => (he x hx).1) W h
  have KA := hide fun W => awake16_any P W
  have HA0 := hide (below_alloc' (w := w) (.cells #[.string d, .string s] 23))
  have HV0 := hide (VRow.new w 23 [.string d, .string s])
  clear h he P
  go_enter Try.func3, Try.ntmps3
  go_wp2_with fail
  generalize w.alloc (.cells #[.string d, .string s] 23) = w0 at HA0 HV0 ⊢
  have x0 := (unhide HV0).cell 0 _ rfl
  have x1 := (unhide HV0).cell 1 _ rfl
  refine wp_region_held_drew (S := fun W => W.cell? ⟨w.heap.size, 0, none⟩ = some (.string d) ∧ W.cell? ⟨w.heap.size, 1, none⟩ = some (.string s)) (by kernel_rfl) ⟨x0, x1⟩ (fun hS => ?_)
  refine wpAnyH_take (i := 0) (oi := { dst := some 13, op := Go.Op.indexAddr 23 (Go.Operand.tmp 4) (Go.Operand.const (Go.Value.int Go.IntKind.i64 0)), type := 0, pos := "law.go:24", after := #[], guard := none }) (v := .pointer (some ⟨w.heap.size, 0, none⟩)) rfl (by kernel_rfl) (by kernel_rfl) (by kernel_rfl) (fun _ _ _ h => h) (Or.inl ⟨by rfl, ?_⟩) hS ?_
  · intro W hW; obtain ⟨hW1, hW2⟩ := hW; first | (go_simp; done) | (go_simp; with_reducible rfl)
  simp only [Act.put, List.setIfInBounds_toArray, List.set_cons_zero, List.set_cons_succ]
  refine wpAnyH_take (i := 1) (oi := { dst := some 14, op := Go.Op.load 9 (Go.Operand.tmp 13), type := 9, pos := "law.go:24", after := #[{ on := 0, ground := Go.Ground.data }], guard := none }) (v := .string d) rfl (by kernel_rfl) (by kernel_rfl) (by kernel_rfl) (fun _ _ _ h => h) (Or.inl ⟨by rfl, ?_⟩) hS ?_
  · intro W hW; obtain ⟨hW1, hW2⟩ := hW; first | (go_simp; done) | (go_simp; with_reducible rfl)
  simp only [Act.put, List.setIfInBounds_toArray, List.set_cons_zero, List.set_cons_succ]
  refine wpAnyH_take (i := 2) (oi := { dst := some 15, op := Go.Op.indexAddr 23 (Go.Operand.tmp 4) (Go.Operand.const (Go.Value.int Go.IntKind.i64 1)), type := 0, pos := "law.go:24", after := #[{ on := 4, ground := Go.Ground.gcOnly Go.Departure.lateStores }], guard := none }) (v := .pointer (some ⟨w.heap.size, 1, none⟩)) rfl (by kernel_rfl) (by kernel_rfl) (by kernel_rfl) (fun _ _ _ h => h) (Or.inl ⟨by rfl, ?_⟩) hS ?_
  · intro W hW; obtain ⟨hW1, hW2⟩ := hW; first | (go_simp; done) | (go_simp; with_reducible rfl)
  simp only [Act.put, List.setIfInBounds_toArray, List.set_cons_zero, List.set_cons_succ]
  refine wpAnyH_take (i := 3) (oi := { dst := some 16, op := Go.Op.load 9 (Go.Operand.tmp 15), type := 9, pos := "law.go:24", after := #[{ on := 2, ground := Go.Ground.data }, { on := 4, ground := Go.Ground.gcOnly Go.Departure.lateStores }], guard := none }) (v := .string s) rfl (by kernel_rfl) (by kernel_rfl) (by kernel_rfl) (fun _ _ _ h => h) (Or.inl ⟨by rfl, ?_⟩) hS ?_
  · intro W hW; obtain ⟨hW1, hW2⟩ := hW; first | (go_simp; done) | (go_simp; with_reducible rfl)
  simp only [Act.put, List.setIfInBounds_toArray, List.set_cons_zero, List.set_cons_succ]
  refine wpAnyH_take (i := 4) (oi := { dst := some 7, op := Go.Op.assign (Go.Operand.tmp 14), type := 9, pos := "law.go:24", after := #[{ on := 1, ground := Go.Ground.data }, { on := 0, ground := Go.Ground.phase }, { on := 1, ground := Go.Ground.phase }, { on := 2, ground := Go.Ground.textOnly Go.Departure.lateStores }, { on := 3, ground := Go.Ground.textOnly Go.Departure.lateStores }], guard := none }) (v := .string d) rfl (by kernel_rfl) (by kernel_rfl) (by kernel_rfl) (fun _ _ _ h => h) (Or.inl ⟨by rfl, ?_⟩) hS ?_
  · intro W hW; obtain ⟨hW1, hW2⟩ := hW; first | (go_simp; done) | (go_simp; with_reducible rfl)
  simp only [Act.put, List.setIfInBounds_toArray, List.set_cons_zero, List.set_cons_succ]
  refine wpAnyH_take (i := 5) (oi := { dst := some 8, op := Go.Op.assign (Go.Operand.tmp 16), type := 9, pos := "law.go:24", after := #[{ on := 3, ground := Go.Ground.data }, { on := 4, ground := Go.Ground.chain }, { on := 0, ground := Go.Ground.phase }, { on := 1, ground := Go.Ground.phase }, { on := 2, ground := Go.Ground.phase }, { on := 3, ground := Go.Ground.phase }, { on := 4, ground := Go.Ground.phase }], guard := none }) (v := .string s) rfl (by kernel_rfl) (by kernel_rfl) (by kernel_rfl) (fun _ _ _ h => h) (Or.inl ⟨by rfl, ?_⟩) hS ?_
  · intro W hW; obtain ⟨hW1, hW2⟩ := hW; first | (go_simp; done) | (go_simp; with_reducible rfl)
  simp only [Act.put, List.setIfInBounds_toArray, List.set_cons_zero, List.set_cons_succ]
  refine wpAnyH_done (by kernel_rfl) ?_ _
  clear hS
  have HB0 := hide (below_grow (unhide HA0) (Nat.le_refl _) (below_drew (Below.refl w0.heap.size w0)))
  have HS0 := hide ((unhide HS).after (unhide HB0))
  clear x0 x1 HV0 HA0 HS
  go_wp2_with fail
  generalize w0.drew = w0d at HB0 HS0 ⊢
  refine (unhide KG w0d (unhide HS0)).mono ?_
  rintro e w1 ⟨D, rfl, hD, hb⟩
  have HB1 := hide (below_grow (unhide HB0) (Nat.le_refl _) hb)
  have HS1 := hide ((unhide HS0).after hb)
  clear hb KG
  cases D with
  | true =>
    clear hD
    go_wp2_with fail
    refine (unhide KA w1).mono ?_
    rintro e w2 ⟨rfl, hb⟩
    have HB2 := hide (below_grow (unhide HB1) (Nat.le_refl _) hb)
    clear hb
    go_wp2_with fail
    go_ret
    exact ⟨rfl, unhide HB2⟩
  | false =>
    have HEOK := hide (eok_of16 (hD rfl) (by omega) (unhide HOK))
    clear hD
    by_cases hbig : 200 < d.size
    · have hbd : decide ((200 : Int) < ((d.size : Nat) : Int)) = true := decide_eq_true (by omega)
      go_wp2_with fail
      refine (unhide KA w1).mono ?_
      rintro e w2 ⟨rfl, hb⟩
      have HB2 := hide (below_grow (unhide HB1) (Nat.le_refl _) hb)
      clear hb
      go_wp2_with fail
      go_ret
      exact ⟨rfl, unhide HB2⟩
    · have hbd : decide ((200 : Int) < ((d.size : Nat) : Int)) = false := decide_eq_false (by omega)
      by_cases hbig2 : 200 < s.size
      · have hbd2 : decide ((200 : Int) < ((s.size : Nat) : Int)) = true := decide_eq_true (by omega)
        go_wp2_with fail
        refine (unhide KA w1).mono ?_
        rintro e w2 ⟨rfl, hb⟩
        have HB2 := hide (below_grow (unhide HB1) (Nat.le_refl _) hb)
        clear hb
        go_wp2_with fail
        go_ret
        exact ⟨rfl, unhide HB2⟩
      · have hbd2 : decide ((200 : Int) < ((s.size : Nat) : Int)) = false := decide_eq_false (by omega)
        have HDS : Hid (d.size ≤ 200) := hide (by omega)
        have HSS : Hid (s.size ≤ 200) := hide (by omega)
        have KP := hide ((unhide HP).of a cap l (unhide HEOK) w1 (unhide HS1))
        have KR := hide fun W h => refOf_any a cap l (unhide HEOK) W h
        have HTR := hide (ofT_tr l)
        generalize ofT l = R at KP KR HTR
        obtain ⟨T, E⟩ := R
        dsimp only at KP KR HTR
        clear hbig hbig2 hd hs HOK HEOK
        go_wp2_with fail
        refine (unhide KP).mono ?_
        rintro e w2 ⟨q, rfl, ht2, hb⟩
        have HB2 := hide (below_grow (unhide HB1) (Nat.le_refl _) hb)
        have HS2 := hide ((unhide HS1).after hb)
        have HT2 := hide ht2
        clear hb ht2 KP HB1 HS1
        go_wp2_with fail
        refine (unhide KR w2 (unhide HS2)).mono ?_
        rintro e w3 ⟨r, c, rfl, _, hel, hb⟩
        have HP3 := hide (show StW TA w q r T w3 from ⟨below_grow (unhide HB2) (Nat.le_refl _) hb, (unhide HP).after (unhide HT2) hb, hel⟩)
        clear hb hel KR HB2 HS2 HT2 hbd hbd2
        have KU1 := hide fun W (h : StW TA w q r T W) => (unhide HP).under q T d (unhide HTR) (unhide HDS) W h.t
        have KU2 := hide fun W (h : StW TA w q r T W) => refBelow_any r c T (unhide HTR).eok d (Nat.le_trans (unhide HDS) (by omega)) W h.m
        have KL1 := hide fun W (h : StW TA w q r T W) => (unhide HP).list q T d s most (unhide HTR) (unhide HDS) (unhide HSS) W h.t
        have KL2 := hide fun W (h : StW TA w q r T W) => refList_any r c T (unhide HTR).eok d s (Nat.le_trans (unhide HDS) (by omega)) (Nat.le_trans (unhide HSS) (by omega)) most W h.m
        have KC1 := hide fun W (h : StW TA w q r T W) => (unhide HP).count q T d (unhide HTR) (unhide HDS) W h.t
        have KC2 := hide fun W (h : StW TA w q r T W) => refCount_any r c T (unhide HTR).eok d (Nat.le_trans (unhide HDS) (by omega)) W h.m
        have HUE : Hid (Eok (belowAll T d)) := hide (list_eok (unhide HTR).eok _ _ _)
        have HLE : Hid (Eok (listT T d s most)) := hide (list_eok (unhide HTR).eok _ _ _)
        generalize belowAll T d = UL at KU1 KU2 HUE
        generalize listT T d s most = LL at KL1 KL2 HLE
        generalize countT T d = CT at KC1 KC2
        have KSU := hide fun r1 c1 r2 c2 W h1 h2 => refSameT_any r1 r2 c1 c2 UL UL (unhide HUE) (unhide HUE) W h1 h2 true (by simp)
        have KSL := hide fun r1 c1 r2 c2 W h1 h2 => refSameT_any r1 r2 c1 c2 LL LL (unhide HLE) (unhide HLE) W h1 h2 true (by simp)
        clear HUE HLE
        go_wp2_with fail
        refine (unhide KU1 w3 (unhide HP3)).mono ?_
        rintro e w4 ⟨r4, c4, rfl, _, hel, hb⟩
        have HP4 := hide (StW.after (unhide HP) (unhide HP3) hb)
        have HR4 := hide hel
        clear hel
        clear hb
        go_wp2_with fail
        refine (unhide KU2 w4 (unhide HP4)).mono ?_
        rintro e w5 ⟨r5, c5, rfl, _, hel, hb⟩
        have HP5 := hide (StW.after (unhide HP) (unhide HP4) hb)
        have HR4 := hide ((unhide HR4).after hb)
        have HR5 := hide hel
        clear hel
        clear hb
        go_wp2_with fail
        refine (unhide KSU r4 c4 r5 c5 w5 (unhide HR4) (unhide HR5)).mono ?_
        rintro e w6 ⟨rfl, hb⟩
        have HP6 := hide (StW.after (unhide HP) (unhide HP5) hb)
        clear hb
        go_wp2_with fail
        refine (unhide KL1 w6 (unhide HP6)).mono ?_
        rintro e w7 ⟨r4, c4, rfl, _, hel, hb⟩
        have HP7 := hide (StW.after (unhide HP) (unhide HP6) hb)
        have HR4 := hide hel
        clear hel
        clear hb
        go_wp2_with fail
        refine (unhide KL2 w7 (unhide HP7)).mono ?_
        rintro e w8 ⟨r5, c5, rfl, _, hel, hb⟩
        have HP8 := hide (StW.after (unhide HP) (unhide HP7) hb)
        have HR4 := hide ((unhide HR4).after hb)
        have HR5 := hide hel
        clear hel
        clear hb
        go_wp2_with fail
        refine (unhide KSL r4 c4 r5 c5 w8 (unhide HR4) (unhide HR5)).mono ?_
        rintro e w9 ⟨rfl, hb⟩
        have HP9 := hide (StW.after (unhide HP) (unhide HP8) hb)
        clear hb
        go_wp2_with fail
        refine (unhide KC1 w9 (unhide HP9)).mono ?_
        rintro e w10 ⟨rfl, hb⟩
        have HP10 := hide (StW.after (unhide HP) (unhide HP9) hb)
        clear hb
        go_wp2_with fail
        refine (unhide KC2 w10 (unhide HP10)).mono ?_
        rintro e w11 ⟨rfl, hb⟩
        have HP11 := hide (StW.after (unhide HP) (unhide HP10) hb)
        clear hb
        go_wp2_with fail
        refine (unhide KA w11).mono ?_
        rintro e w12 ⟨rfl, hb⟩
        have HP12 := hide (StW.after (unhide HP) (unhide HP11) hb)
        clear hb
        go_wp2_with fail
        go_ret
        exact ⟨by first | rfl | simp, (unhide HP12).b⟩
end Go.Proofs.Ytpfighkafmammaa

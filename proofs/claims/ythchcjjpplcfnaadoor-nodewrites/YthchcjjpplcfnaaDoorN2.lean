/-
  Whether a node may be: the program's checkKids and Check. Conditions: those that each theorem names.
-/
import Derived.Test.YthchcjjpplcfnaaDoorN1
namespace Go.Proofs.YthchcjjpplcfnaaDoor
open Go.RowKit

theorem calls_k1 : ∀ (args : Array Value) (w : World), (callFunc 49 args).run Tryd.prog w = .ok (.enter 49 args) w := fun _ _ => by kernel_rfl
theorem calls_k2 : ∀ (args : Array Value) (w : World), (callFunc 51 args).run Tryd.prog w = .ok (.enter 51 args) w := fun _ _ => by kernel_rfl
theorem calls_c1 : ∀ (args : Array Value) (w : World), (callFunc 26 args).run Tryd.prog w = .ok (.enter 26 args) w := fun _ _ => by kernel_rfl
theorem calls_c2 : ∀ (args : Array Value) (w : World), (callFunc 28 args).run Tryd.prog w = .ok (.enter 28 args) w := fun _ _ => by kernel_rfl
theorem calls_c3 : ∀ (args : Array Value) (w : World), (callFunc 30 args).run Tryd.prog w = .ok (.enter 30 args) w := fun _ _ => by kernel_rfl

set_option maxRecDepth 100000 in
set_option maxHeartbeats 400000 in
theorem kid1_any (B : Nat) (s : ByteArray) (hs : s.size ≤ 50000) (w : World) (x0 : w.cell? ⟨B, 0, none⟩ = some (.string s)) :
    Calls Tryd.prog 49 #[.pointer (some ⟨B, 0, none⟩)] w fun e w' => e = .returned (.int .i64 (unl (isN s) 1)) ∧ Below w.heap.size w w' := by
  have KN := hide fun W => Pth.name_any s (by omega) W
  rw [show Pth.Pt.isName s.data.toList = isN s from rfl] at KN
  generalize isN s = N at KN ⊢
  clear hs
  go_enter Tryd.func49, Tryd.ntmps49
  go_wp2_with fail
  refine (unhide KN _).mono ?_
  rintro e w1 ⟨rfl, hb⟩
  have HB := hide hb
  clear hb x0
  go_wp2_with fail
  refine (unless_any N 1 w1).mono ?_
  rintro e w2 ⟨rfl, rfl⟩
  go_wp2_with fail
  go_ret
  exact ⟨rfl, unhide HB⟩

set_option maxRecDepth 100000 in
set_option maxHeartbeats 400000 in
theorem kid2_any (B A : Nat) (s p : ByteArray) (w : World) (x0 : w.cell? ⟨B, 0, none⟩ = some (.string s)) (y0 : w.cell? ⟨A, 0, none⟩ = some (.string p)) :
    Calls Tryd.prog 51 #[.pointer (some ⟨B, 0, none⟩), .pointer (some ⟨A, 0, none⟩)] w fun e w' => e = .returned (.int .i64 (unl (!leqB s p) 8)) ∧ Below w.heap.size w w' := by
  have HL : Hid ((Go.Op.bytesLess s.toList p.toList || (s.toList == p.toList)) = leqB s p) := hide rfl
  generalize leqB s p = L at HL ⊢
  go_enter Tryd.func51, Tryd.ntmps51
  go_wp2_with fail
  refine (unless_any _ 8 w).mono ?_
  rintro e w2 ⟨rfl, rfl⟩
  go_wp2_with fail
  go_ret
  exact ⟨ret_int (by rw [← unhide HL, Bool.not_or]), Below.refl _ _⟩

theorem kids_first (p : ByteArray) (k : Kd) : IsFirst (fun j => if j = 0 then unl (isN k.1) 1 else unl (!leqB k.1 p) 8) 2 (kidErr p k) := by
  unfold kidErr
  cases hN : isN k.1 with
  | false => exact .inl ⟨0, by omega, rfl, by simp, fun i h => absurd h (Nat.not_lt_zero _)⟩
  | true =>
    cases hL : leqB k.1 p with
    | true =>
      refine .inl ⟨1, by omega, rfl, by simp, fun i h => ?_⟩
      rw [show i = 0 by omega]
      rfl
    | false =>
      refine .inr ⟨by simp, fun i h => ?_⟩
      rcases (show i = 0 ∨ i = 1 by omega) with rfl | rfl <;> rfl

theorem kidsF_any (B A : Nat) (x : Kd) (hx : x.1.size ≤ 50000) (p : ByteArray) (r : Int) (hF : IsFirst (fun j => if j = 0 then unl (isN x.1) 1 else unl (!leqB x.1 p) 8) 2 r) (w : World) (hr : VRow w B 37 (kL x)) (ha : VRow w A 9 [.string p]) :
    Calls Tryd.prog 25 #[.slice (some ⟨w.heap.size, 0, none⟩) 2 2] (w.alloc (.cells #[.func (.func 49) #[] #[.pointer (some ⟨B, 0, none⟩)], .func (.func 51) #[] #[.pointer (some ⟨B, 0, none⟩), .pointer (some ⟨A, 0, none⟩)]] 54)) fun e w' => e = .returned (.int .i64 r) ∧ Below w.heap.size w w' := by
  have hb := below_alloc' (w := w) (.cells #[.func (.func 49) #[] #[.pointer (some ⟨B, 0, none⟩)], .func (.func 51) #[] #[.pointer (some ⟨B, 0, none⟩), .pointer (some ⟨A, 0, none⟩)]] 54)
  have hv := VRow.new w 54 [.func (.func 49) #[] #[.pointer (some ⟨B, 0, none⟩)], .func (.func 51) #[] #[.pointer (some ⟨B, 0, none⟩), .pointer (some ⟨A, 0, none⟩)]]
  refine (firstN_any w.heap.size 2 2 (by omega) (fun j => if j = 0 then 49 else 51) (fun _ => #[]) (fun j => if j = 0 then #[.pointer (some ⟨B, 0, none⟩)] else #[.pointer (some ⟨B, 0, none⟩), .pointer (some ⟨A, 0, none⟩)]) _ r hF _ (fun j hj => ?_) (by simp) (fun j hj => ?_) (fun j hj _ W hW => ?_)).mono ?_
  · rcases (show j = 0 ∨ j = 1 by omega) with rfl | rfl
    · exact hv.cell 0 _ rfl
    · exact hv.cell 1 _ rfl
  · rcases (show j = 0 ∨ j = 1 by omega) with rfl | rfl
    · exact calls_k1
    · exact calls_k2
  · rcases (show j = 0 ∨ j = 1 by omega) with rfl | rfl
    · exact kid1_any B x.1 hx W (((hr.after hb).after hW).cell 0 _ rfl)
    · exact kid2_any B A x.1 p W (((hr.after hb).after hW).cell 0 _ rfl) (((ha.after hb).after hW).cell 0 _ rfl)
  · rintro e w' ⟨rfl, h⟩
    exact ⟨rfl, below_grow hb (Nat.le_refl _) h⟩

set_option maxRecDepth 100000 in
set_option maxHeartbeats 2000000 in
theorem checkKids_any (a : Option Addr) (c : Nat) (l : List Kd) (hl : l.length ≤ 100000) (hd : Digs l) (hs : ∀ k ∈ l, k.1.size ≤ 50000) (w : World) (h : SK w a l) :
    Calls Tryd.prog 31 #[.slice a l.length c] w fun e w' => e = .returned (.int .i64 (chkK ⟨#[]⟩ l)) ∧ Below w.heap.size w w' := by
  have hmf : ∀ (fn : Fn) (first cap : Array Value) (w : World), (Instr.makeFunc fn first cap).run Tryd.prog w = .ok (.func fn first cap) w := fun _ _ _ _ => rfl
  have HB0 := hide (below_alloc' (w := w) (.cells #[.string ⟨#[]⟩] 9))
  have HA0 := hide (VRow.new w 9 [.string ⟨#[]⟩])
  have HSK := hide h
  have HD := hide hd
  have HS := hide hs
  have HV : Hid (chkK ⟨#[]⟩ l = chkK (prevK l 0) (l.drop 0)) := hide rfl
  have HST := hide (chkK_step l)
  have HEN := hide (chkK_end l)
  obtain ⟨R, hR⟩ : ∃ R, chkK ⟨#[]⟩ l = R := ⟨_, rfl⟩
  rw [hR] at HV ⊢
  clear h hd hs hR
  go_enter Tryd.func31, Tryd.ntmps31
  go_wp2_with fail
  go_loopw [9] (fun i wr => ∃ k : Nat, k ≤ l.length ∧ i = .int .i64 k ∧ R = chkK (prevK l k) (l.drop k) ∧ VRow wr w.heap.size 9 [.string (prevK l k)] ∧ Below w.heap.size w wr) (fun i _ => l.length - (intOf i).toNat)
  case atStart => exact ⟨0, Nat.zero_le _, rfl, unhide HV, unhide HA0, unhide HB0⟩
  case round =>
    obtain ⟨k, hk, rfl, hv, hr, hb⟩ := hrel
    have HV1 := hide hv
    have HA := hide hr
    have HB := hide hb
    have hwlt := hr.lt
    clear hv hr hb
    by_cases hlt : k < l.length
    · obtain ⟨x, hx⟩ : ∃ x, l[k]? = some x := ⟨_, List.getElem?_eq_getElem hlt⟩
      have hm := List.mem_of_getElem? hx
      have hdx := unhide HD x hm
      have HLEN := hide (kL_len hdx)
      have HDX := hide hdx
      obtain ⟨g, o, rfl, hg, hc⟩ := (unhide HSK).after (unhide HB) (by omega)
      have HC := hide (hc k x hx)
      have HSX := hide (unhide HS x hm)
      have HV2 : Hid (R = if kidErr (prevK l k) x ≠ 0 then kidErr (prevK l k) x else chkK (prevK l (k + 1)) (l.drop (k + 1))) := hide ((unhide HV1).trans (unhide HST k x hx))
      have HPK := hide (prevK_at l k x hx)
      obtain ⟨p, hp⟩ : ∃ p, prevK l k = p := ⟨_, rfl⟩
      rw [hp] at HV2 HA
      obtain ⟨r, hr⟩ : ∃ r, kidErr p x = r := ⟨_, rfl⟩
      have HF := hide (hr ▸ kids_first p x)
      rw [hr] at HV2
      clear hdx hm hc hx hg HV1 hp hr
      go_wp2_with (first
        | (refine load_kid (by rfl) (.tmp 11) (by rfl) g (o + k * 33) (by rfl) x (unhide HC) (unhide HDX) ?_)
        | (refine store_row (by rfl) 37 (.tmp 5) (.tmp 12) (by rfl) wr.heap.size (kL x) (by rfl) (by rfl) 37 (kL zeroK) (VRow.newAt rfl) 33 sizeK (unhide HLEN) rfl (kL_one x) ?_; intro w1 ho1 hr1; have HB1 := hide (below_grow (unhide HB) (Nat.le_refl _) ((below_alloc' (w := wr) (.cells (kL zeroK).toArray 37)).trans (ho1.below (Nat.le_refl _)))); have HR1 := hide hr1; have HA1 := hide (((unhide HA).alloc (.cells (kL zeroK).toArray 37)).only ho1 (by omega)); clear ho1 hr1))
      refine (kidsF_any wr.heap.size w.heap.size x (unhide HSX) p r (unhide HF) w1 (unhide HR1) (unhide HA1)).mono ?_
      rintro e w2 ⟨rfl, hb⟩
      have HR2 := (unhide HR1).after hb
      have HA2 := hide ((unhide HA1).after hb)
      have HB2 := hide (below_grow (unhide HB1) (Nat.le_refl _) hb)
      have x0 := HR2.cell 0 _ rfl
      have y0 := (unhide HA2).cell 0 _ rfl
      have f0 := (unhide HA2).frozen 0
      clear hb HR2 HC
      by_cases hr : r = 0
      · subst hr
        have HV3 := hide (unhide HV2)
        rw [if_neg (by simp)] at HV3
        have HA3 := hide (show VRow (w2.setCell ⟨w.heap.size, 0, none⟩ (.string x.1)) w.heap.size 9 [.string x.1] from (unhide HA2).set 0 (.string x.1))
        have HB3 := hide (below_set (unhide HB2) (Nat.le_refl _) 0 (.string x.1))
        clear HV2
        go_wp2_with fail
        go_roundw
        case rel => exact ⟨k + 1, by omega, by go_num, unhide HV3, by rw [unhide HPK]; exact unhide HA3, unhide HB3⟩
        case measure => simp [intOf]; omega
      · have hne : (r != 0) = true := bne_iff_ne.2 hr
        have HV3 := hide (unhide HV2)
        rw [if_pos hr] at HV3
        go_wp2_with fail
        go_ret
        exact ⟨ret_int (unhide HV3).symm, unhide HB2⟩
    · obtain rfl : k = l.length := by omega
      have HV2 := hide ((unhide HV1).trans (unhide HEN _))
      go_wp2_with fail
      go_ret
      exact ⟨ret_int (unhide HV2).symm, unhide HB⟩

/-! Check. -/
def leq128 (n : Nat) : Bool := decide ((n : Int) ≤ 128)
set_option maxRecDepth 100000 in
set_option maxHeartbeats 400000 in
theorem c1_any (B : Nat) (a : Option Addr) (c : Nat) (b : Option Addr) (d : Nat) (n : Nd) (hn : Nok n) (w : World) (h : NdAt w n a c b d) (hr : VRow w B 25 (ndL n a c b d)) :
    Calls Tryd.prog 26 #[.pointer (some ⟨B, 0, none⟩)] w fun e w' => e = .returned (.int .i64 (Vc.checkLeaf n.vs)) ∧ Below w.heap.size w w' := by
  have K := hide (checkLeaf_any a c n.vs hn.few w h.sv)
  have x0 : w.cell? ⟨B, 0, none⟩ = some (.slice a n.vs.length c) := hr.cell 0 _ rfl
  clear hr h hn
  generalize Vc.checkLeaf n.vs = R at K ⊢
  go_enter Tryd.func26, Tryd.ntmps26
  go_wp2_with fail
  refine (unhide K).mono ?_
  rintro e w1 ⟨rfl, hb⟩
  have HB := hide hb
  clear hb x0
  go_wp2_with fail
  go_ret
  exact ⟨rfl, unhide HB⟩
set_option maxRecDepth 100000 in
set_option maxHeartbeats 400000 in
theorem c2_any (B : Nat) (a : Option Addr) (c : Nat) (b : Option Addr) (d : Nat) (n : Nd) (w : World) (hr : VRow w B 25 (ndL n a c b d)) :
    Calls Tryd.prog 28 #[.pointer (some ⟨B, 0, none⟩)] w fun e w' => e = .returned (.int .i64 (unl (leq128 n.ks.length) 2)) ∧ Below w.heap.size w w' := by
  have x1 : w.cell? ⟨B, 1, none⟩ = some (.slice b n.ks.length d) := hr.cell 1 _ rfl
  clear hr
  go_enter Tryd.func28, Tryd.ntmps28
  go_wp2_with fail
  refine (unless_any _ 2 w).mono ?_
  rintro e w2 ⟨rfl, rfl⟩
  go_wp2_with fail
  go_ret
  exact ⟨rfl, Below.refl _ _⟩
set_option maxRecDepth 100000 in
set_option maxHeartbeats 400000 in
theorem c3_any (B : Nat) (a : Option Addr) (c : Nat) (b : Option Addr) (d : Nat) (n : Nd) (hn : Nok n) (w : World) (h : NdAt w n a c b d) (hr : VRow w B 25 (ndL n a c b d)) :
    Calls Tryd.prog 30 #[.pointer (some ⟨B, 0, none⟩)] w fun e w' => e = .returned (.int .i64 (chkK ⟨#[]⟩ n.ks)) ∧ Below w.heap.size w w' := by
  have K := hide (checkKids_any b d n.ks hn.kids hn.digs hn.names w h.sk)
  have x1 : w.cell? ⟨B, 1, none⟩ = some (.slice b n.ks.length d) := hr.cell 1 _ rfl
  clear hr h hn
  generalize chkK ⟨#[]⟩ n.ks = R at K ⊢
  go_enter Tryd.func30, Tryd.ntmps30
  go_wp2_with fail
  refine (unhide K).mono ?_
  rintro e w1 ⟨rfl, hb⟩
  have HB := hide hb
  clear hb x1
  go_wp2_with fail
  go_ret
  exact ⟨rfl, unhide HB⟩
theorem node_first (n : Nd) : IsFirst (fun j => if j = 0 then Vc.checkLeaf n.vs else if j = 1 then unl (leq128 n.ks.length) 2 else chkK ⟨#[]⟩ n.ks) 3 (chkN n) := by
  unfold chkN
  by_cases h1 : Vc.checkLeaf n.vs ≠ 0
  · rw [if_pos h1]
    exact .inl ⟨0, by omega, rfl, h1, fun i h => absurd h (Nat.not_lt_zero _)⟩
  · rw [if_neg h1]
    have h1' := Classical.not_not.1 h1
    by_cases h2 : 128 < n.ks.length
    · rw [if_pos h2]
      have e : leq128 n.ks.length = false := decide_eq_false (by omega)
      refine .inl ⟨1, by omega, by show unl (leq128 n.ks.length) 2 = 2; rw [e]; rfl, by omega, fun i h => ?_⟩
      rw [show i = 0 by omega]
      exact h1'
    · rw [if_neg h2]
      have e : unl (leq128 n.ks.length) 2 = 0 := by rw [show leq128 n.ks.length = true from decide_eq_true (by omega)]; rfl
      by_cases h3 : chkK ⟨#[]⟩ n.ks ≠ 0
      · refine .inl ⟨2, by omega, rfl, h3, fun i h => ?_⟩
        rcases (show i = 0 ∨ i = 1 by omega) with rfl | rfl
        · exact h1'
        · exact e
      · have h3' := Classical.not_not.1 h3
        refine .inr ⟨h3', fun i h => ?_⟩
        rcases (show i = 0 ∨ i = 1 ∨ i = 2 by omega) with rfl | rfl | rfl
        · exact h1'
        · exact e
        · exact h3'
theorem nodeF_any (B G : Nat) (a : Option Addr) (c : Nat) (b : Option Addr) (d : Nat) (n : Nd) (hn : Nok n) (w : World) (hG : G = w.heap.size) (h : NdAt w n a c b d) (hr : VRow w B 25 (ndL n a c b d)) :
    Calls Tryd.prog 25 #[.slice (some ⟨G, 0, none⟩) 3 3] (w.alloc (.cells #[.func (.func 26) #[] #[.pointer (some ⟨B, 0, none⟩)], .func (.func 28) #[] #[.pointer (some ⟨B, 0, none⟩)], .func (.func 30) #[] #[.pointer (some ⟨B, 0, none⟩)]] 54)) fun e w' => e = .returned (.int .i64 (chkN n)) ∧ Below w.heap.size w w' := by
  subst hG
  have hb := below_alloc' (w := w) (.cells #[.func (.func 26) #[] #[.pointer (some ⟨B, 0, none⟩)], .func (.func 28) #[] #[.pointer (some ⟨B, 0, none⟩)], .func (.func 30) #[] #[.pointer (some ⟨B, 0, none⟩)]] 54)
  have hv := VRow.new w 54 [.func (.func 26) #[] #[.pointer (some ⟨B, 0, none⟩)], .func (.func 28) #[] #[.pointer (some ⟨B, 0, none⟩)], .func (.func 30) #[] #[.pointer (some ⟨B, 0, none⟩)]]
  refine (firstN_any w.heap.size 3 3 (by omega) (fun j => if j = 0 then 26 else if j = 1 then 28 else 30) (fun _ => #[]) (fun _ => #[.pointer (some ⟨B, 0, none⟩)]) _ _ (node_first n) _ (fun j hj => ?_) (by simp) (fun j hj => ?_) (fun j hj _ W hW => ?_)).mono ?_
  · rcases (show j = 0 ∨ j = 1 ∨ j = 2 by omega) with rfl | rfl | rfl
    · exact hv.cell 0 _ rfl
    · exact hv.cell 1 _ rfl
    · exact hv.cell 2 _ rfl
  · rcases (show j = 0 ∨ j = 1 ∨ j = 2 by omega) with rfl | rfl | rfl
    · exact calls_c1
    · exact calls_c2
    · exact calls_c3
  · have hr2 := (hr.after hb).after hW
    have h2 := (h.after hb).after hW
    rcases (show j = 0 ∨ j = 1 ∨ j = 2 by omega) with rfl | rfl | rfl
    · exact c1_any B a c b d n hn W h2 hr2
    · exact c2_any B a c b d n W hr2
    · exact c3_any B a c b d n hn W h2 hr2
  · rintro e w' ⟨rfl, h⟩
    exact ⟨rfl, below_grow hb (Nat.le_refl _) h⟩
set_option maxRecDepth 100000 in
set_option maxHeartbeats 400000 in
theorem checkN_any (a : Option Addr) (c : Nat) (b : Option Addr) (d : Nat) (n : Nd) (hn : Nok n) (w : World) (h : NdAt w n a c b d) :
    Calls Tryd.prog 8 #[.agg (ndL n a c b d).toArray] w fun e w' => e = .returned (.int .i64 (chkN n)) ∧ Below w.heap.size w w' := by
  have hmf : ∀ (fn : Fn) (first cap : Array Value) (w : World), (Instr.makeFunc fn first cap).run Tryd.prog w = .ok (.func fn first cap) w := fun _ _ _ _ => rfl
  have HB0 := hide (below_alloc' (w := w) (.cells (ndL n a c b d).toArray 25))
  have K := hide (nodeF_any w.heap.size (w.heap.size + 1) a c b d n hn (w.alloc (.cells (ndL n a c b d).toArray 25)) (by simp) (h.after (unhide HB0)) (VRow.new w 25 (ndL n a c b d)))
  generalize chkN n = R at K ⊢
  clear h hn
  unfold ndL at *
  go_enter Tryd.func8, Tryd.ntmps8
  go_wp2_with fail
  refine (unhide K).mono ?_
  rintro e w1 ⟨rfl, hb⟩
  have HB := hide (below_grow (unhide HB0) (Nat.le_refl _) hb)
  clear hb
  go_wp2_with fail
  go_ret
  exact ⟨rfl, unhide HB⟩
end Go.Proofs.YthchcjjpplcfnaaDoor

/-
  Why a dot and a version may not be, which covers another one, and what all pasts come to: the program's.
-/
import Derived.Test.YtebjlmnhpfoglaaGreatDoorB09
import Derived.Test.YtebjlmnhpfoglaaGreatDoorB10
import Derived.Test.YtebjlmnhpfoglaaGreatDoorB07
import Derived.Test.YtebjlmnhpfoglaaGreatDoorB01
namespace Go.Proofs.YtebjlmnhpfoglaaGreatDoor
open Go.RowKit

theorem check_one (d : Vc.D) : Vc.check [d] = Vc.dotErr d := by
  unfold Vc.check Vc.chk
  by_cases h : Vc.dotErr d = 0
  · have hok := (Vc.dotErr_zero d).1 h
    unfold Vc.Ok at hok
    rw [if_neg (by simpa using h), if_neg (by omega), h]
    rfl
  · rw [if_pos h]
theorem full_list {S : ByteArray} (h : S ≠ ⟨#[]⟩) : S.toList.isEmpty = false := by
  rw [ByteArray.toList_eq]
  obtain ⟨d⟩ := S
  cases hd : d.toList with
  | nil => exact absurd (by rw [Array.toList_eq_nil_iff.1 hd]) h
  | cons => simp
theorem empty_of_size {S : ByteArray} (h : ¬ 0 < S.size) : S = ⟨#[]⟩ := by
  obtain ⟨d⟩ := S
  have : d.size = 0 := by have : ¬ 0 < d.size := h; omega
  rw [Array.eq_empty_of_size_eq_zero this]

set_option maxRecDepth 100000 in
set_option maxHeartbeats 400000 in
theorem checkDot_any (p c : Int) (w : World) :
    Calls Tryz.prog 95 #[.agg #[.int .i64 p, .int .i64 c]] w fun e w' => e = .returned (.int .i64 (Vc.dotErr (p, c))) ∧ Below w.heap.size w w' := by
  have HB1 := hide (below_alloc' (w := w) (.cells #[.int .i64 p, .int .i64 c] 61))
  have HB2 := hide ((unhide HB1).alloc (unhide HB1).size (.cells #[.int .i64 p, .int .i64 c] 61))
  have K := hide (check_any (some ⟨w.heap.size + 1, 0, none⟩) 1 [(p, c)] (by simp) _ (by have h := one_sl1 (w.alloc (.cells #[.int .i64 p, .int .i64 c] 61)) p c; rw [World.size_alloc] at h; exact h))
  rw [check_one, show [(p, c)].length = 1 from rfl] at K
  generalize Vc.dotErr (p, c) = R at K ⊢
  go_enter Tryz.func95, Tryz.ntmps95
  go_wp2_with fail
  refine (unhide K).mono ?_
  rintro e w4 ⟨rfl, hb4⟩
  have HB4 := hide (below_grow (unhide HB2) (Nat.le_refl _) hb4)
  clear hb4
  go_wp2_with fail
  go_ret
  exact ⟨rfl, unhide HB4⟩

set_option maxRecDepth 100000 in
set_option maxHeartbeats 1000000 in
theorem checkV_any (v : Vc.V) (r : Option Addr) (c : Nat) (hl : v.past.length ≤ 9223372036854775807) (w : World) (s : Sl w r v.past) :
    Calls Tryz.prog 62 #[.agg (verL v r c).toArray] w fun e w' => e = .returned (.int .i64 (Vc.chkV v)) ∧ Below w.heap.size w w' := by
  have HB := hide (below_alloc1 (w := w) (.cells (verL v r c).toArray 64))
  have RS := hide (VRow.new w 64 (verL v r c))
  have KD := hide fun W => checkDot_any v.dot.1 v.dot.2 W
  have KC := hide fun W h => check_any r c v.past hl W h
  have KH := hide fun W h => has_any r c v.past hl v.dot.1 v.dot.2 W h
  have S := hide (s.after (unhide HB))
  rw [show Vc.dotErr (v.dot.1, v.dot.2) = Vc.dotErr v.dot from rfl] at KD
  rw [show has v.past (v.dot.1, v.dot.2) = Vc.hasV v.past v.dot from rfl] at KH
  obtain ⟨R, hR⟩ : ∃ R, Vc.chkV v = R := ⟨_, rfl⟩
  rw [hR]
  unfold Vc.chkV at hR
  have a0 := (unhide RS).cell 0 _ rfl
  have a1 := (unhide RS).cell 1 _ rfl
  generalize Vc.dotErr v.dot = X at KD hR
  generalize Vc.check v.past = Y at KC hR
  generalize Vc.hasV v.past v.dot = Z at KH hR
  clear s
  unfold verL at *
  go_enter Tryz.func62, Tryz.ntmps62
  go_wp2_with fail
  generalize w.alloc (.cells _ 64) = w0 at HB RS S a0 a1 ⊢
  refine (unhide KD _).mono ?_
  rintro e w1 ⟨rfl, hb⟩
  replace HB := hide (below_grow (unhide HB) (Nat.le_refl _) hb)
  replace RS := hide ((unhide RS).after hb)
  replace S := hide ((unhide S).after hb)
  clear hb a0 a1
  by_cases hX : X = 0
  · subst hX
    rw [if_neg (by simp)] at hR
    have a2 := (unhide RS).cell 2 _ rfl
    go_wp2_with fail
    refine (unhide KC _ (unhide S)).mono ?_
    rintro e w2 ⟨rfl, hb⟩
    replace HB := hide (below_grow (unhide HB) (Nat.le_refl _) hb)
    replace RS := hide ((unhide RS).after hb)
    replace S := hide ((unhide S).after hb)
    clear hb a2
    by_cases hY : Y = 0
    · subst hY
      rw [if_neg (by simp)] at hR
      have a0 := (unhide RS).cell 0 _ rfl
      have a1 := (unhide RS).cell 1 _ rfl
      have a2 := (unhide RS).cell 2 _ rfl
      go_wp2_with fail
      refine (unhide KH _ (unhide S)).mono ?_
      rintro e w3 ⟨rfl, hb⟩
      replace HB := hide (below_grow (unhide HB) (Nat.le_refl _) hb)
      replace RS := hide ((unhide RS).after hb)
      clear hb a0 a1 a2 S
      have a3 := (unhide RS).cell 3 _ rfl
      have a4 := (unhide RS).cell 4 _ rfl
      cases Z with
      | true =>
        rw [if_pos rfl] at hR
        subst hR
        go_wp2_with fail
        go_ret
        exact ⟨rfl, unhide HB⟩
      | false =>
        rw [if_neg (by simp)] at hR
        generalize v.data = SD at *
        obtain ⟨n, hn⟩ : ∃ n, SD.size = n := ⟨_, rfl⟩
        by_cases h48 : 48 < n
        · have hd : decide ((48 : Int) < (n : Int)) = true := decide_eq_true (by omega)
          rw [hn, if_pos h48] at hR
          subst hR
          go_wp2_with fail
          go_ret
          exact ⟨rfl, unhide HB⟩
        · have hd : decide ((48 : Int) < (n : Int)) = false := decide_eq_false (by omega)
          rw [hn, if_neg h48] at hR
          generalize v.dead = Q at *
          cases Q with
          | true =>
            by_cases h0 : 0 < n
            · have hne : SD ≠ ⟨#[]⟩ := fun e => by rw [e] at hn; rw [← hn] at h0; exact absurd h0 (by decide)
              have hnb : SD.toList.isEmpty = false := full_list hne
              rw [if_pos ⟨rfl, h0⟩] at hR
              subst hR
              go_wp2_with fail
              go_ret
              exact ⟨rfl, unhide HB⟩
            · have hE : SD = ⟨#[]⟩ := empty_of_size (by rw [hn]; exact h0)
              rw [if_neg (fun h => h0 h.2)] at hR
              subst hR hE
              go_wp2_with fail
              go_ret
              exact ⟨rfl, unhide HB⟩
          | false =>
            rw [if_neg (fun h => by cases h.1)] at hR
            subst hR
            go_wp2_with fail
            go_ret
            exact ⟨rfl, unhide HB⟩
    · rw [if_pos hY] at hR
      subst hR
      have hYb : (Y != 0) = true := bne_iff_ne.2 hY
      go_wp2_with fail
      go_ret
      exact ⟨rfl, unhide HB⟩
  · rw [if_pos hX] at hR
    subst hR
    have hXb : (X != 0) = true := bne_iff_ne.2 hX
    have hXc : (X == 0) = false := by simpa using hX
    go_wp2_with fail
    go_ret
    exact ⟨rfl, unhide HB⟩

/-- What all pasts come to together. -/
def pastF (vs : List Vc.V) : List Vc.D := vs.foldl (fun c v => Vc.joins c v.past) []
theorem pastF_snoc (l : List Vc.V) (v : Vc.V) : pastF (l ++ [v]) = Vc.joins (pastF l) v.past := by unfold pastF; rw [List.foldl_append]; rfl
theorem hasV_join {a b : List Vc.D} (ha : Vc.Up (-1) a) (hb : Vc.Up (-1) b) (d : Vc.D) : Vc.hasV (Vc.joins a b) d = (Vc.hasV a d || Vc.hasV b d) := by
  rw [Vc.joins_vec ha hb, Bool.eq_iff_iff, Bool.or_eq_true, Vc.hasV_up (Vc.join_up ha hb), Vc.hasV_up ha, Vc.hasV_up hb, Vc.join_look ha hb]
  omega
theorem fold_has : ∀ {vs : List Vc.V} {c : List Vc.D}, Vc.Up (-1) c → (∀ u ∈ vs, Vc.Up (-1) u.past) → Vc.Up (-1) (vs.foldl (fun c v => Vc.joins c v.past) c) ∧ ∀ d, Vc.hasV (vs.foldl (fun c v => Vc.joins c v.past) c) d = (Vc.hasV c d || vs.any fun u => Vc.hasV u.past d)
  | [], c, hc, _ => ⟨hc, fun d => by simp⟩
  | v :: l, c, hc, h => by
    have hv := h v (List.mem_cons_self ..)
    have hj : Vc.Up (-1) (Vc.joins c v.past) := by rw [Vc.joins_vec hc hv]; exact Vc.join_up hc hv
    obtain ⟨h1, h2⟩ := fold_has hj fun u hu => h u (List.mem_cons_of_mem _ hu)
    refine ⟨h1, fun d => ?_⟩
    rw [List.foldl_cons, h2 d, hasV_join hc hv, List.any_cons, Bool.or_assoc]
theorem past_covered {vs : List Vc.V} (h : ∀ u ∈ vs, Vc.Up (-1) u.past) (v : Vc.V) : Vc.hasV (pastF vs) v.dot = Vc.covered vs v := by
  have := (fold_has (c := []) trivial h).2 v.dot
  unfold pastF
  rw [this]
  unfold Vc.covered Vc.covers
  rw [show Vc.hasV [] v.dot = false by cases hh : Vc.hasV [] v.dot with | false => rfl | true => exact absurd ((Vc.hasV_up (l := []) trivial _).1 hh) (by show ¬ (1 ≤ v.dot.2 ∧ v.dot.2 ≤ 0); omega)]
  rfl
theorem pastF_len : ∀ (vs : List Vc.V), (pastF vs).length ≤ 64 := fun vs => by
  rcases List.eq_nil_or_concat vs with rfl | ⟨l, v, rfl⟩
  · exact Nat.zero_le _
  · rw [List.concat_eq_append, pastF_snoc]; exact Vc.joins_len _ _

def MadeF (w : World) (ds : List Vc.D) (e : Ending) (w' : World) : Prop := ∃ r cap, e = .returned (.slice r ds.length cap) ∧ ds.length ≤ cap ∧ Sl w' r ds ∧ Below w.heap.size w w' ∧ Fresh w.heap.size r ds
theorem Fresh.weak {n m : Nat} {r : Option Addr} {ds : List Vc.D} (h : Fresh n r ds) (hm : m ≤ n) : Fresh m r ds := fun ad e h0 => Nat.le_trans hm (h ad e h0)
theorem Fresh.nil (n : Nat) (ds : List Vc.D) : Fresh n none ds := fun _ e => by cases e

set_option maxRecDepth 100000 in
set_option maxHeartbeats 1000000 in
theorem pasts_any (a : Option Addr) (cap : Nat) (vs : List Vc.V) (hf : Few vs) (w : World) (h : SV w a vs) :
    Calls Tryz.prog 99 #[.slice a vs.length cap] w (MadeF w (pastF vs)) := by
  have HS := hide h
  have HF := hide hf
  have hl := hf.1
  clear h hf
  go_enter Tryz.func99, Tryz.ntmps99
  go_wp2_with fail
  go_loopw [3, 8] (fun l i wr => ∃ (k : Nat) (r : Option Addr) (c : Nat) (cur : List Vc.D), k ≤ vs.length ∧ i = .int .i64 k ∧ l = .slice r cur.length c ∧ cur.length ≤ c ∧ cur.length ≤ 64 ∧ cur = pastF (vs.take k) ∧ Sl wr r cur ∧ Below w.heap.size w wr ∧ Fresh w.heap.size r cur) (fun _ i _ => vs.length - (intOf i).toNat)
  case atStart => exact ⟨0, none, 0, [], Nat.zero_le _, rfl, rfl, Nat.le_refl _, by simp, rfl, Sl.none _ _, Below.refl _ _, Fresh.nil _ _⟩
  case round =>
    obtain ⟨k, r, c, cur, hk, rfl, rfl, hcc, hc64, hcur, hsl, hb, hfr⟩ := hrel
    have HCUR := hide hcur
    have HSL := hide hsl
    have HBr := hide hb
    have HFR := hide hfr
    have S := hide ((unhide HS).after hb)
    clear hcur hsl hb hfr
    by_cases hlt : k < vs.length
    · obtain ⟨v, hx⟩ : ∃ d, vs[k]? = some d := ⟨_, List.getElem?_eq_getElem hlt⟩
      obtain ⟨g, o, rfl, hg, hcell⟩ := unhide S (by omega)
      obtain ⟨q, d, x0, x1, x2, x3, x4, h5, h6⟩ := hcell k v hx
      have K1 := hide fun W h h' => join_fresh r q c d cur v.past (by omega) ((unhide HF).at hx) hcc h5 W h h'
      have HNX : Hid (Vc.joins cur v.past = pastF (vs.take (k + 1))) := hide (by rw [take_snocA hx, pastF_snoc, ← unhide HCUR])
      have hj64 := Vc.joins_len cur v.past
      have H6 := hide h6
      have HW0 := hide (unhide HBr).size
      generalize Vc.joins cur v.past = nxt at K1 HNX hj64
      clear hx hg hcell h5 h6
      go_wp2_with (refine store_row (by rfl) 64 _ _ (by rfl) wr.heap.size (verL v q d) (by rfl) (by rfl) 64 zero64 (VRow.newAt rfl) 5 size64 rfl rfl (verL_one _ _ _) ?_; intro wz ho hr; have HZ := hide ((below_alloc' (w := wr) (.cells zero64.toArray 64)).trans (ho.below (Nat.le_refl _))); have RZ := hide hr; clear ho hr x0 x1 x2 x3 x4; have z2 := (unhide RZ).cell 2 _ rfl)
      refine (unhide K1 _ ((unhide HSL).after (unhide HZ)) ((unhide H6).after (unhide HZ))).mono ?_
      rintro e w2 ⟨r2, c2, rfl, hc2, hs2, hb2, hf2⟩
      have HB2 := hide (below_grow (below_grow (unhide HBr) (Nat.le_refl _) (unhide HZ)) (Nat.le_refl _) hb2)
      have HS2 := hide hs2
      have HC2 := hide hc2
      have HF2 := hide (hf2.weak (Nat.le_trans (unhide HW0) (unhide HZ).size))
      clear hb2 hs2 hf2 hc2 z2
      go_wp2_with fail
      go_roundw
      case rel => exact ⟨k + 1, r2, c2, nxt, by omega, by go_num, rfl, unhide HC2, hj64, unhide HNX, unhide HS2, unhide HB2, unhide HF2⟩
      case measure => simp [intOf]; omega
    · obtain rfl : k = vs.length := by omega
      have hcur := unhide HCUR
      rw [List.take_length] at hcur
      subst hcur
      clear HCUR
      go_wp2_with fail
      go_ret
      exact ⟨r, c, rfl, hcc, unhide HSL, unhide HBr, unhide HFR⟩

/-- The closure that tells what is left out, and what it reads. -/
structure Clo (W : World) (B : Nat) (P : List Vc.D) : Prop where
  is : ∃ r c, VRow W B 62 [.slice r P.length c] ∧ P.length ≤ c ∧ Sl W r P
theorem Clo.after {W W' : World} {B : Nat} {P : List Vc.D} (h : Clo W B P) (hb : Below W.heap.size W W') : Clo W' B P := by
  obtain ⟨r, c, h1, h2, h3⟩ := h.is
  exact ⟨r, c, h1.after hb, h2, h3.after hb⟩

set_option maxRecDepth 100000 in
set_option maxHeartbeats 400000 in
theorem coveredBy_any (a : Option Addr) (cap : Nat) (vs : List Vc.V) (hf : Few vs) (w : World) (h : SV w a vs) :
    Calls Tryz.prog 64 #[.slice a vs.length cap] w fun e w' => ∃ B, e = .returned (.func (.func 100) #[] #[.pointer (some ⟨B, 0, none⟩)]) ∧ Clo w' B (pastF vs) ∧ Below w.heap.size w w' := by
  have K := hide (pasts_any a cap vs hf w h)
  have hl := hf.1
  generalize pastF vs = P at K ⊢
  clear h hf
  go_enter Tryz.func64, Tryz.ntmps64
  go_wp2_with fail
  refine (unhide K).mono ?_
  rintro e w1 ⟨r, c, rfl, hc, hs, hb, _⟩
  have HB := hide hb
  have HS := hide hs
  have HC := hide hc
  clear hb hs hc
  go_wp2_with fail
  go_ret
  refine ⟨w1.heap.size, rfl, ⟨r, c, ?_, unhide HC, ?_⟩, ?_⟩
  · exact VRow.new w1 62 [.slice r P.length c]
  · exact (unhide HS).after (below_alloc' _)
  · exact (unhide HB).alloc (unhide HB).size _
end Go.Proofs.YtebjlmnhpfoglaaGreatDoor

namespace Go.Proofs.YtebjlmnhpfoglaaGreatDoor
open Go.RowKit

set_option maxRecDepth 100000 in
set_option maxHeartbeats 400000 in
theorem cov_any (v : Vc.V) (q : Option Addr) (d : Nat) (P : List Vc.D) (hP : P.length ≤ 64) (B : Nat) (w : World) (hc : Clo w B P) :
    Calls Tryz.prog 100 #[.agg (verL v q d).toArray, .pointer (some ⟨B, 0, none⟩)] w fun e w' => e = .returned (.bool (Vc.hasV P v.dot)) ∧ Below w.heap.size w w' := by
  obtain ⟨r, c, h1, h2, h3⟩ := hc.is
  have HB := hide (below_alloc1 (w := w) (.cells (verL v q d).toArray 64))
  have RS := VRow.new w 64 (verL v q d)
  have a0 := RS.cell 0 _ rfl
  have a1 := RS.cell 1 _ rfl
  have b0 := (h1.alloc (.cells (verL v q d).toArray 64)).cell 0 _ rfl
  have S := hide (h3.after (unhide HB))
  have K := hide fun W h => has_any r c P (by omega) v.dot.1 v.dot.2 W h
  rw [show has P (v.dot.1, v.dot.2) = Vc.hasV P v.dot from rfl] at K
  generalize Vc.hasV P v.dot = X at K ⊢
  clear hc h1 h3 RS h2
  unfold verL at *
  go_enter Tryz.func100, Tryz.ntmps100
  go_wp2_with fail
  refine (unhide K _ (unhide S)).mono ?_
  rintro e w1 ⟨rfl, hb⟩
  have HB1 := hide (below_grow (unhide HB) (Nat.le_refl _) hb)
  clear hb
  go_wp2_with fail
  go_ret
  exact ⟨rfl, unhide HB1⟩

theorem any_snoc {vs : List Vc.V} {k : Nat} {u : Vc.V} {F : Vc.V → Bool} (h : vs[k]? = some u) (hall : ∀ x ∈ vs.take k, F x = false) (hu : F u = false) : ∀ x ∈ vs.take (k + 1), F x = false := fun x hx => by
  rw [take_snocA h] at hx
  rcases List.mem_append.1 hx with hx | hx
  · exact hall x hx
  · rw [List.mem_singleton.1 hx]; exact hu
def Found (R : Bool) (w : World) (e : Ending) (w' : World) : Prop := ∃ i : Int, e = .returned (.int .i64 i) ∧ decide (0 ≤ i) = R ∧ Below w.heap.size w w'

set_option maxRecDepth 100000 in
set_option maxHeartbeats 600000 in
theorem index_any (a : Option Addr) (cap : Nat) (vs : List Vc.V) (hl : vs.length ≤ 100000) (P : List Vc.D) (hP : P.length ≤ 64) (B : Nat) (w : World) (h : SV w a vs) (hc : Clo w B P) :
    Calls Tryz.prog 98 #[.slice a vs.length cap, .func (.func 100) #[] #[.pointer (some ⟨B, 0, none⟩)]] w (Found (vs.any fun v => Vc.hasV P v.dot) w) := by
  have HS := hide h
  have HC := hide hc
  have K := hide fun v q d W h => cov_any v q d P hP B W h
  obtain ⟨F, hF⟩ : ∃ F : Vc.V → Bool, (fun v => Vc.hasV P v.dot) = F := ⟨_, rfl⟩
  rw [hF]
  have HF : Hid (∀ v, Vc.hasV P v.dot = F v) := hide fun v => by rw [← hF]
  clear h hc hF
  go_enter Tryz.func98, Tryz.ntmps98
  go_wp2_with fail
  go_loopw [8] (fun i wr => ∃ k : Nat, k ≤ vs.length ∧ i = .int .i64 k ∧ (∀ x ∈ vs.take k, F x = false) ∧ Below w.heap.size w wr) (fun i _ => vs.length - (intOf i).toNat)
  case atStart => exact ⟨0, Nat.zero_le _, rfl, fun x hx => (by simp at hx), Below.refl _ _⟩
  case round =>
    obtain ⟨k, hk, rfl, hall, hb⟩ := hrel
    have HALL := hide hall
    have HB := hide hb
    have S := (unhide HS).after hb
    have C := hide ((unhide HC).after hb)
    clear hall hb
    by_cases hlt : k < vs.length
    · obtain ⟨v, hx⟩ : ∃ d, vs[k]? = some d := ⟨_, List.getElem?_eq_getElem hlt⟩
      obtain ⟨g, o, rfl, hg, hcell⟩ := S (by omega)
      obtain ⟨q, d, x0, x1, x2, x3, x4, h5, h6⟩ := hcell k v hx
      have KV := hide fun W h => unhide K v q d W h
      rw [unhide HF v] at KV
      unfold verL at KV
      have HX := hide hx
      cases hFv : F v with
      | true =>
        rw [hFv] at KV
        have HT : Hid (vs.any F = true) := hide (List.any_eq_true.2 ⟨v, List.mem_of_getElem? hx, hFv⟩)
        have hki : decide ((0 : Int) ≤ (k : Int)) = true := decide_eq_true (by omega)
        have HKI := hide hki
        clear hcell hx hFv h5 h6 hg hki
        go_wp2_with (go_at_call 100; refine (unhide KV _ (unhide C)).mono ?_; rintro e w2 ⟨rfl, hb2⟩; replace HB := hide (below_grow (unhide HB) (Nat.le_refl _) hb2); clear hb2 x0 x1 x2 x3 x4)
        go_ret
        exact ⟨k, rfl, (unhide HKI).trans (unhide HT).symm, unhide HB⟩
      | false =>
        rw [hFv] at KV
        have HALL2 := hide (any_snoc hx (unhide HALL) hFv)
        clear hcell hx hFv h5 h6 hg
        go_wp2_with (go_at_call 100; refine (unhide KV _ (unhide C)).mono ?_; rintro e w2 ⟨rfl, hb2⟩; replace HB := hide (below_grow (unhide HB) (Nat.le_refl _) hb2); clear hb2 x0 x1 x2 x3 x4)
        go_roundw
        case rel => exact ⟨k + 1, by omega, by go_num, unhide HALL2, unhide HB⟩
        case measure => simp [intOf]; omega
    · obtain rfl : k = vs.length := by omega
      have HT : Hid (vs.any F = false) := hide (List.any_eq_false.2 fun x hx => by rw [unhide HALL x (by rw [List.take_length]; exact hx)]; simp)
      go_wp2_with fail
      go_ret
      exact ⟨-1, rfl, (by rw [unhide HT]; decide), unhide HB⟩

set_option maxRecDepth 100000 in
set_option maxHeartbeats 400000 in
theorem contains_any (a : Option Addr) (cap : Nat) (vs : List Vc.V) (hl : vs.length ≤ 100000) (P : List Vc.D) (hP : P.length ≤ 64) (B : Nat) (w : World) (h : SV w a vs) (hc : Clo w B P) :
    Calls Tryz.prog 63 #[.slice a vs.length cap, .func (.func 100) #[] #[.pointer (some ⟨B, 0, none⟩)]] w fun e w' => e = .returned (.bool (vs.any fun v => Vc.hasV P v.dot)) ∧ Below w.heap.size w w' := by
  have K := hide (index_any a cap vs hl P hP B w h hc)
  generalize (vs.any fun v => Vc.hasV P v.dot) = R at K ⊢
  clear h hc
  go_enter Tryz.func63, Tryz.ntmps63
  go_wp2_with fail
  refine (unhide K).mono ?_
  rintro e w1 ⟨i, rfl, hi, hb⟩
  have HB := hide hb
  have HI := hide hi
  clear hb hi
  go_wp2_with fail
  go_ret
  exact ⟨ret_bool (unhide HI), unhide HB⟩

theorem leaf_any {vs : List Vc.V} (h : ¬ 64 < vs.length) (h2 : Vc.chkL (-1) vs = 0) : Vc.checkLeaf vs = if (vs.any fun v => Vc.hasV (pastF vs) v.dot) = true then 7 else 0 := by
  have hup := (Vc.chkL_zero vs _).1 h2
  have e : (vs.any fun v => Vc.hasV (pastF vs) v.dot) = vs.any fun v => Vc.covered vs v := by
    congr 1
    funext v
    exact past_covered (fun u hu => (hup.mem hu).1.past) v
  unfold Vc.checkLeaf
  rw [if_neg h, if_neg (by simpa using h2), e]

set_option maxRecDepth 100000 in
set_option maxHeartbeats 2000000 in
theorem checkLeaf_any (a : Option Addr) (cap : Nat) (vs : List Vc.V) (hf : Few vs) (w : World) (h : SV w a vs) :
    Calls Tryz.prog 35 #[.slice a vs.length cap] w fun e w' => e = .returned (.int .i64 (Vc.checkLeaf vs)) ∧ Below w.heap.size w w' := by
  have HS := hide h
  have HF := hide hf
  have hl := hf.1
  clear h hf
  by_cases h64 : 64 < vs.length
  · rw [leaf_long h64]
    have hd : decide ((64 : Int) < (vs.length : Int)) = true := decide_eq_true (by omega)
    go_enter Tryz.func35, Tryz.ntmps35
    go_wp2_with fail
    go_ret
    exact ⟨rfl, Below.refl _ _⟩
  · have hd : decide ((64 : Int) < (vs.length : Int)) = false := decide_eq_false (by omega)
    have HBAD := hide fun h2 => leaf_bad h64 h2
    have HANY := hide fun h2 => leaf_any h64 h2
    have HC := hide (show Vc.chkL (-1) vs = Vc.chkL (prevQ vs 0) (vs.drop 0) from rfl)
    obtain ⟨C, hC⟩ : ∃ C, Vc.chkL (-1) vs = C := ⟨_, rfl⟩
    obtain ⟨R, hR⟩ : ∃ R, Vc.checkLeaf vs = R := ⟨_, rfl⟩
    rw [hC] at HC HBAD HANY
    rw [hR] at HBAD HANY ⊢
    have KB := hide fun W h => coveredBy_any a cap vs (unhide HF) W h
    have KT := hide fun B W h h' => contains_any a cap vs hl (pastF vs) (pastF_len vs) B W h h'
    clear hC hR
    go_enter Tryz.func35, Tryz.ntmps35
    go_wp2_with fail
    go_loopw [11] (fun i wr => ∃ k : Nat, k ≤ vs.length ∧ i = .int .i64 k ∧ C = Vc.chkL (prevQ vs k) (vs.drop k) ∧ Below w.heap.size w wr) (fun i _ => vs.length - (intOf i).toNat)
    case atStart => exact ⟨0, Nat.zero_le _, rfl, unhide HC, Below.refl _ _⟩
    case round =>
      obtain ⟨k, hk, rfl, hc, hb⟩ := hrel
      have HC1 := hide hc
      have HB := hide hb
      have S := hide ((unhide HS).after hb)
      clear hc hb HC
      by_cases hlt : k < vs.length
      · obtain ⟨v, hx⟩ : ∃ d, vs[k]? = some d := ⟨_, List.getElem?_eq_getElem hlt⟩
        obtain ⟨g, o, rfl, hg, hcell⟩ := unhide S (by omega)
        obtain ⟨q, d, x0, x1, x2, x3, x4, h5, h6⟩ := hcell k v hx
        have HG := hide hg
        have HCell := hide hcell
        have KV := hide fun W h => checkV_any v q d ((unhide HF).at hx) W h
        have HST := hide (chkL_step vs k v hx)
        have H6 := hide h6
        unfold verL at KV
        clear hx hg hcell h5 h6
        go_wp2_with (refine store_row (by rfl) 64 _ _ (by rfl) wr.heap.size (verL v q d) (by rfl) (by rfl) 64 zero64 (VRow.newAt rfl) 5 size64 rfl rfl (verL_one _ _ _) ?_; intro wz ho hr; have HZ := hide ((below_alloc' (w := wr) (.cells zero64.toArray 64)).trans (ho.below (Nat.le_refl _))); have RZ := hide hr; clear ho hr x0 x1 x2 x3 x4; have z0 := (unhide RZ).cell 0 _ rfl; have z1 := (unhide RZ).cell 1 _ rfl; have z2 := (unhide RZ).cell 2 _ rfl; have z3 := (unhide RZ).cell 3 _ rfl; have z4 := (unhide RZ).cell 4 _ rfl)
        refine (unhide KV _ ((unhide H6).after (unhide HZ))).mono ?_
        rintro e w2 ⟨rfl, hb2⟩
        have HBw := hide (below_grow (unhide HZ) (Nat.le_refl _) hb2)
        have HB2 := hide (below_grow (unhide HB) (Nat.le_refl _) (unhide HBw))
        have RZ2 := hide ((unhide RZ).after hb2)
        clear hb2 z0 z1 z2 z3 z4 HZ RZ
        by_cases he : Vc.chkV v = 0
        · have hok := ((Vc.chkV_zero v).1 he).dot
          rw [he] at KV ⊢
          rw [if_neg (by simpa using he)] at HST
          have hp0 : 0 ≤ v.dot.1 := hok.1
          clear he hok
          by_cases hk0 : 0 < k
          · obtain ⟨m, hm⟩ : ∃ m, k = m + 1 := ⟨k - 1, by omega⟩
            obtain ⟨u, hu⟩ : ∃ d, vs[m]? = some d := ⟨_, List.getElem?_eq_getElem (by omega)⟩
            have e' : prevQ vs k = u.dot.1 := by rw [hm]; exact prevQ_at vs m _ hu
            rw [e'] at HST HC1
            obtain ⟨q', d', y0, _, _, _, _, _, _⟩ := unhide HCell m u hu
            have c2 := (unhide RZ2).cell 0 _ rfl
            have c3 := ((unhide HBw).cell (p := ⟨g, o + m * 5, none⟩) (unhide HG)).trans y0
            have hmi : (k : Int) - 1 = (m : Int) := by omega
            have hmw : IntKind.i64.wrap ((k : Int) - 1) = (m : Int) := by rw [hmi]; exact wrap_small (by omega) (by omega)
            have hml : m < vs.length := by omega
            have hgi : (0 : Int) < (k : Int) := by omega
            have HMK : Hid (k = m + 1) := hm
            clear hu hm e' y0
            generalize u.dot.1 = p' at HST HC1 c3
            generalize hvp : v.dot.1 = p at *
            clear hvp
            by_cases hle : p ≤ p'
            · have HNX : Hid (R = 8) := by
                have h := unhide HST
                rw [if_pos hle] at h
                have h8 : C = 8 := (unhide HC1).trans h
                exact hide ((unhide HBAD (by rw [h8]; decide)).trans h8)
              go_wp2_with fail
              go_quiet (fail)
              go_wp2_with fail
              go_ret
              exact ⟨ret_int (unhide HNX).symm, below_drewN (unhide HB2) _⟩
            · have HNX : Hid (C = Vc.chkL (prevQ vs (k + 1)) (vs.drop (k + 1))) := by
                have h := unhide HST
                rw [if_neg hle] at h
                exact hide ((unhide HC1).trans h)
              go_wp2_with fail
              go_quiet (fail)
              go_wp2_with fail
              go_roundw
              case rel => exact ⟨k + 1, by omega, by go_num, unhide HNX, below_drewN (unhide HB2) _⟩
              case measure => simp [intOf]; omega
          · have HNX : Hid (C = Vc.chkL (prevQ vs (k + 1)) (vs.drop (k + 1))) := by
              have h := unhide HST
              have e : prevQ vs k = -1 := by rw [show k = 0 by omega]; rfl
              rw [e, if_neg (show ¬ v.dot.1 ≤ -1 by omega)] at h
              rw [unhide HC1, e]
              exact h
            have hgd : decide (0 < (k : Int)) = false := decide_eq_false (by omega)
            go_wp2_with fail
            go_quiet (fail)
            go_wp2_with fail
            go_roundw
            case rel => exact ⟨k + 1, by omega, by go_num, unhide HNX, below_drewN (unhide HB2) _⟩
            case measure => simp [intOf]; omega
        · have HNX : Hid (R = Vc.chkV v) := by
            have h := unhide HST
            rw [if_pos (by simpa using he)] at h
            have h8 : C = Vc.chkV v := (unhide HC1).trans h
            exact hide ((unhide HBAD (by rw [h8]; exact he)).trans h8)
          have heb : (Vc.chkV v != 0) = true := bne_iff_ne.2 he
          clear HST
          generalize Vc.chkV v = X at KV HNX heb he ⊢
          clear he
          go_wp2_with fail
          go_ret
          exact ⟨ret_int (unhide HNX).symm, unhide HB2⟩
      · obtain rfl : k = vs.length := by omega
        have hC0 : C = 0 := (unhide HC1).trans (chkL_end vs _)
        subst hC0
        have HR := hide (unhide HANY rfl)
        clear HC1 HBAD HANY
        generalize (vs.any fun v => Vc.hasV (pastF vs) v.dot) = X at HR KT
        generalize pastF vs = P at KB KT
        go_wp2_with fail
        refine (unhide KB _ (unhide S)).mono ?_
        rintro e w2 ⟨B, rfl, hclo, hb2⟩
        have HB2 := hide (below_grow (unhide HB) (Nat.le_refl _) hb2)
        have S2 := hide ((unhide S).after hb2)
        have CL := hide hclo
        clear hb2 hclo
        go_wp2_with fail
        refine (unhide KT B _ (unhide S2) (unhide CL)).mono ?_
        rintro e w3 ⟨rfl, hb3⟩
        have HB3 := hide (below_grow (unhide HB2) (Nat.le_refl _) hb3)
        clear hb3
        cases X with
        | true =>
          obtain rfl : R = 7 := unhide HR
          go_wp2_with fail
          go_ret
          exact ⟨rfl, unhide HB3⟩
        | false =>
          obtain rfl : R = 0 := unhide HR
          go_wp2_with fail
          go_ret
          exact ⟨rfl, unhide HB3⟩
end Go.Proofs.YtebjlmnhpfoglaaGreatDoor

/-
  What a leaf stands for, what is left of versions behind a closure, the live ones, and which of two wins: the program's.
-/

namespace Go.Proofs.YtebjlmnhpfoglaaGreatDoor
open Go.RowKit

theorem run_append_none {w : World} (base : Nat) (t ty e : TypeId) (i : TypeInfo) (size : Nat) (ht : Tryz.prog.underlying t = some (.slice e)) (hi : Tryz.prog.info? e = some i)
    (v : Value) (n : Nat) (xs : List Value) (hown : w.ownsRow base e size v n xs) (c : Nat) :
    (Builtin.append_ #[t, t] ty #[v, .slice none 0 c]).run Tryz.prog w = .ok v w := by
  rcases hown.2 with ⟨rfl, rfl⟩ | ⟨g, cap, cur, rfl, _, _, hnc, _⟩
  · simp [Builtin.append_, run_underlying ht, sizeOf, typeInfo, hi, Builtin.lenOf, Builtin.firstCells]
  · simp [Builtin.append_, run_underlying ht, sizeOf, typeInfo, hi, Builtin.lenOf, Builtin.firstCells, hnc, storeCells]
/-- A list of dots appended to one of the call's own. -/
theorem append_sl {w : World} {ops : Array Oper} {rest : List Oper} {o : Oper} {a : Act} {Q : Exit → Act → World → Prop} (hgd : o.guard = none) (s x : Operand)
    (ho : o.op = .call { callee := .builtin .append, args := #[s, x], argTypes := #[62, 62] }) (base : Nat) (v : Value) (ds : List Vc.D) (hs : a.eval s = v) (hown : w.ownsRow base 61 2 v ds.length (flat ds))
    (r : Option Addr) (c : Nat) (xs : List Vc.D) (hx : a.eval x = .slice r xs.length c) (hsl : Sl w r xs) (hn : ds.length + xs.length ≤ 200000) (hbase : base ≤ w.heap.size)
    (h : ∀ v' w', w'.ownsRow base 61 2 v' (ds ++ xs).length (flat (ds ++ xs)) → Below base w w' → wpList Tryz.prog ops Q rest (a.put o.dst v') w') : wpList Tryz.prog ops Q (o :: rest) a w := by
  obtain ⟨i0, hi, hz0, hz1, hz2⟩ := info_parts info61
  cases r with
  | none =>
    have hxs : xs = [] := by
      cases xs with
      | nil => rfl
      | cons d l => obtain ⟨g, o, e, _⟩ := hsl (by simp); cases e
    subst hxs
    refine wpList_plain hgd fun K hK => ?_
    have hrun := run_append_none (w := w) base 62 o.type 61 i0 2 Tryz.underlying62 hi v ds.length (flat ds) hown c
    unfold Oper.wp
    simp only [List.length_nil] at hx
    simp [execOp, ho, resolve, invoke, builtin, hs, hx, hrun, Result.andThen]
    refine hK _ _ (h v w ?_ (Below.refl _ _))
    rw [List.append_nil]
    exact hown
  | some ad =>
    refine wpList_append_own w hgd s x 62 ho base 61 i0 _ 2 16 Tryz.underlying62 hi hz0 hz1 hz2 rfl (by decide) v ds.length (flat ds) hs hown ad xs.length c (flat xs) hx (flat_len xs) ?_ (flat_one xs) (by unfold maxLen; omega) (by omega) hbase ?_
    · cases xs with
      | nil => intro j u hu; simp [flat] at hu
      | cons d l =>
        obtain ⟨g, o, e, _, hc⟩ := hsl (by simp)
        injection e with e
        subst e
        exact sl_cells hc
    · intro v' w' h1 h2 _
      refine h v' w' ?_ (grown_below hown h2 hbase)
      rw [List.length_append, flat_append]
      exact h1

set_option maxRecDepth 100000 in
set_option maxHeartbeats 400000 in
theorem cloneD_any (a : Option Addr) (cap : Nat) (ds : List Vc.D) (hl : ds.length ≤ 100000) (w : World) (h : Sl w a ds) : Calls Tryz.prog 70 #[.slice a ds.length cap] w (MadeF w ds) := by
  have HS := hide h
  have HL := hide hl
  have q25 : ∀ (w : World) (a : Option Addr) (n c n' c' : Nat), (binOp .eql 62 (.slice a n c) (.slice none n' c')).run Tryz.prog w = .ok (.bool a.isNone) w := fun w a n c n' c' => Lib.run_eql_slice_nil w _ _ a n c n' c' Tryz.underlying62
  clear h hl
  cases a with
  | none =>
    have hxs : ds = [] := by
      cases ds with
      | nil => rfl
      | cons d l => obtain ⟨g, o, e, _⟩ := unhide HS (by simp); cases e
    subst hxs
    go_enter Tryz.func70, Tryz.ntmps70
    go_wp2_with fail
    go_ret
    exact ⟨none, 0, rfl, Nat.le_refl _, Sl.none _ _, Below.refl _ _, Fresh.nil _ _⟩
  | some ad =>
    have HB := hide (below_alloc' (w := w) (.cells #[] 61))
    have HO := hide (World.ownsRow_lit (base := w.heap.size) (e := 61) (size := 2) w #[] 0 (Nat.le_refl _) (by unfold maxLen; omega) rfl)
    go_enter Tryz.func70, Tryz.ntmps70
    go_wp2_with (at_builtin; refine append_sl (by rfl) _ _ (by rfl) w.heap.size _ [] (by rfl) (unhide HO) _ _ ds (by rfl) ((unhide HS).after (unhide HB)) (by have := unhide HL; simp; omega) (by simp) ?_; intro v' w2 hown' hb2; have HB2 := hide ((unhide HB).trans hb2); have HO2 := hide hown'; clear hb2 hown')
    rw [List.nil_append] at HO2
    obtain ⟨r, cap', rfl, hcap, hsl, hfr⟩ := own_slF rfl (unhide HO2)
    have HSL := hide hsl
    have HCAP := hide hcap
    have HFR := hide hfr
    clear hsl hcap hfr
    go_wp2_with fail
    go_ret
    exact ⟨r, cap', rfl, unhide HCAP, unhide HSL, unhide HB2, unhide HFR⟩

set_option maxRecDepth 100000 in
set_option maxHeartbeats 400000 in
theorem live1_any (v : Vc.V) (q : Option Addr) (d : Nat) (w : World) :
    Calls Tryz.prog 78 #[.agg (verL v q d).toArray] w fun e w' => e = .returned (.bool v.dead) ∧ Below w.heap.size w w' := by
  have HB := hide (below_alloc1 (w := w) (.cells (verL v q d).toArray 64))
  have a3 := (VRow.new w 64 (verL v q d)).cell 3 _ rfl
  unfold verL at *
  go_enter Tryz.func78, Tryz.ntmps78
  go_wp2_with fail
  go_ret
  exact ⟨rfl, unhide HB⟩
/-- What is left: a row of the call's own. -/
def Left (O : Nat → Prop) (w : World) (vs : List Vc.V) (e : Ending) (w' : World) : Prop := ∃ l, e = .returned l ∧ OV O w' w.heap.size l vs ∧ Below w.heap.size w w'
theorem Left.made {O : Nat → Prop} {w w' : World} {vs : List Vc.V} {e : Ending} (hO : ∀ g, w.heap.size ≤ g → O g) (h : Left O w vs e w') : MadeV O w vs e w' := by
  obtain ⟨l, rfl, h1, h2⟩ := h
  obtain ⟨r, c, rfl, hc, hs, hp⟩ := h1.sv
  exact ⟨r, c, rfl, hc, hs, hp hO, h2⟩

set_option maxRecDepth 100000 in
set_option maxHeartbeats 1000000 in
theorem without53_any (O : Nat → Prop) (F : Vc.V → Bool) (a : Option Addr) (cap : Nat) (vs : List Vc.V) (hl : vs.length ≤ 100000) (hp : ∀ v ∈ vs, v.past.length ≤ 100000) (w : World) (hO : ∀ g, w.heap.size ≤ g → O g) (h : SV w a vs)
    (KF : ∀ W, Below w.heap.size w W → ∀ v r c, Calls Tryz.prog 78 #[.agg (verL v r c).toArray] W fun e w' => e = .returned (.bool (F v)) ∧ Below W.heap.size W w') :
    Calls Tryz.prog 77 #[.slice a vs.length cap, .func (.func 78) #[] #[]] w (Left O w (vs.filter fun v => !F v)) := by
  have HS := hide h
  have HOO := hide hO
  have KFF := hide KF
  have HPP := hide hp
  obtain ⟨G, hG⟩ : ∃ G : Vc.V → Bool, (fun v => !F v) = G := ⟨_, rfl⟩
  have HG0 : Hid (∀ v, G v = !F v) := hide (fun v => by rw [← hG])
  rw [hG]
  clear h hO KF hp hG
  go_enter Tryz.func77, Tryz.ntmps77
  go_wp2_with fail
  go_loopw [5, 10] (fun l i wr => ∃ (k : Nat), k ≤ vs.length ∧ i = .int .i64 k ∧ OV O wr w.heap.size l ((vs.take k).filter G) ∧ Below w.heap.size w wr) (fun _ i _ => vs.length - (intOf i).toNat)
  case atStart => exact ⟨0, Nat.zero_le _, rfl, OV.nil _ _ _, Below.refl _ _⟩
  case round =>
    obtain ⟨k, hk, rfl, hov, hb⟩ := hrel
    have HO := hide hov
    have HB := hide hb
    have S := (unhide HS).after hb
    have HSZ := hide hb.size
    have HFL0 := hide (show ((vs.take k).filter G).length ≤ 100000 from Nat.le_trans (List.length_filter_le _ _) (by rw [List.length_take]; omega))
    by_cases hlt : k < vs.length
    · obtain ⟨v, hx⟩ : ∃ d, vs[k]? = some d := ⟨_, List.getElem?_eq_getElem hlt⟩
      obtain ⟨g, o, rfl, hg, hcell⟩ := S (by omega)
      obtain ⟨q, d, x0, x1, x2, x3, x4, h5, h6⟩ := hcell k v hx
      have HFL := hide (show (vs.take (k + 1)).filter G = ((vs.take k).filter G) ++ ([v].filter G) by rw [take_snocA hx, List.filter_append])
      generalize ((vs.take k).filter G) = L at HO HFL HFL0
      have H6 := hide h6
      have HPL := hide (unhide HPP v (List.mem_of_getElem? hx))
      clear hx hcell hg h5 h6 hov hb
      go_wp2_with (refine store_row (by rfl) 64 _ _ (by rfl) wr.heap.size (verL v q d) (by rfl) (by rfl) 64 zero64 (VRow.newAt rfl) 5 size64 rfl rfl (verL_one _ _ _) ?_; intro wz ho hr; have HZ := hide ((below_alloc' (w := wr) (.cells zero64.toArray 64)).trans (ho.below (Nat.le_refl _))); have RZ := hide hr; clear ho hr x0 x1 x2 x3 x4; have z0 := (unhide RZ).cell 0 _ rfl; have z1 := (unhide RZ).cell 1 _ rfl; have z2 := (unhide RZ).cell 2 _ rfl; have z3 := (unhide RZ).cell 3 _ rfl; have z4 := (unhide RZ).cell 4 _ rfl)
      refine (unhide KFF _ (below_grow (unhide HB) (Nat.le_refl _) (unhide HZ)) v q d).mono ?_
      rintro e w2 ⟨rfl, hb2⟩
      have RZ2 := hide ((unhide RZ).after hb2)
      have HZ2 := hide (below_grow (unhide HZ) (Nat.le_refl _) hb2)
      have H62 := hide ((unhide H6).after (unhide HZ2))
      clear hb2 z0 z1 z2 z3 z4 RZ HZ H6
      cases hFv : F v with
      | true =>
        rw [show [v].filter G = [] by simp [unhide HG0, hFv], List.append_nil] at HFL
        go_wp2_with fail
        go_roundw
        case rel => exact ⟨k + 1, by omega, by go_num, by rw [unhide HFL]; exact (unhide HO).after (unhide HZ2), below_grow (unhide HB) (Nat.le_refl _) (unhide HZ2)⟩
        case measure => simp [intOf]; omega
      | false =>
        rw [show [v].filter G = [v] by simp [unhide HG0, hFv]] at HFL
        have KC := hide (cloneD_any q d v.past (unhide HPL) w2 (unhide H62))
        have z2 := (unhide RZ2).cell 2 _ rfl
        go_wp2_with fail
        refine (unhide KC).mono ?_
        rintro e wc ⟨r3, c3, rfl, hc3, hs3, hb3, hf3⟩
        have RZc := hide ((unhide RZ2).after hb3)
        have HDlt := hide ((unhide RZ2).lt)
        have HZc := hide (below_grow (unhide HZ2) (Nat.le_refl _) hb3)
        have RW := (unhide RZc).set 2 (.slice r3 v.past.length c3)
        have HSW := hide (hs3.onlyNe (only_set wc wr.heap.size 2 (.slice r3 v.past.length c3)) (fun ad e h0 => by have h1 := hf3 ad e h0; have h2 := unhide HDlt; omega))
        have HBW := hide (below_set (unhide HZc) (Nat.le_refl _) 2 (.slice r3 v.past.length c3))
        have HROW := hide (VRow.newAt (W := wc.setCell ⟨wr.heap.size, 2, none⟩ (.slice r3 v.past.length c3)) (T := 64) (n := wc.heap.size) (vs := verL v r3 c3) (by simp))
        have HAP : Hid (Apart O u5.ownBlock r3 v.past) := hide (fun ad e h0 => by
          have h1 := hf3 ad e h0
          have h2 := unhide HDlt
          refine ⟨fun e' => ?_, unhide HOO _ (by have := unhide HSZ; omega)⟩
          have := ((unhide HO).lt _ e'.symm).2
          omega)
        have HC3 := hide hc3
        have HLW : Hid (w.heap.size ≤ wc.heap.size) := hide (Nat.le_trans (unhide HSZ) (unhide HZc).size)
        clear hb3 hs3 hf3 hc3 z2 KC
        have y2 := (unhide RZc).cell 2 _ rfl
        have f2 := (unhide RZc).frozen 2
        have t0 := RW.cell 0 _ rfl
        have t1 := RW.cell 1 _ rfl
        have t2 := RW.cell 2 _ rfl
        have t3 := RW.cell 3 _ rfl
        have t4 := RW.cell 4 _ rfl
        clear RW
        go_wp2_with (at_builtin; refine append_sv (by rfl) _ _ (by rfl) w.heap.size _ L (by rfl) ((unhide HO).after (keep_alloc' (unhide HBW) (.cells (verL v r3 c3).toArray 64))) _ _ [v] (by rfl) (one_svn (unhide HROW) (unhide HC3) ((unhide HSW).after (below_alloc' _)) (unhide HAP)) (by have := unhide HFL0; simp; omega) (by have := unhide HLW; simp; omega) ?_; intro v9 w9 hown9 hb9 _ _; have HO9 := hide hown9; have HB9 := hide ((below_grow (unhide HB) (Nat.le_refl _) (keep_alloc' (unhide HBW) (.cells (verL v r3 c3).toArray 64))).trans hb9); clear hown9 hb9)
        go_roundw
        case rel => exact ⟨k + 1, by omega, by go_num, by rw [unhide HFL]; exact unhide HO9, unhide HB9⟩
        case measure => simp [intOf]; omega
    · obtain rfl : k = vs.length := by omega
      rw [List.take_length] at HO
      clear hov
      go_wp2_with fail
      go_ret
      exact ⟨u5, rfl, unhide HO, unhide HB⟩

set_option maxRecDepth 100000 in
set_option maxHeartbeats 400000 in
theorem live_any (O : Nat → Prop) (a : Option Addr) (cap : Nat) (vs : List Vc.V) (hl : vs.length ≤ 100000) (hp : ∀ v ∈ vs, v.past.length ≤ 100000) (w : World) (hO : ∀ g, w.heap.size ≤ g → O g) (h : SV w a vs) :
    Calls Tryz.prog 48 #[.slice a vs.length cap] w (MadeV O w (Vc.live vs)) := by
  have K := hide (without53_any O (fun v => v.dead) a cap vs hl hp w hO h (fun W _ v r c => live1_any v r c W))
  rw [show (vs.filter fun v => !v.dead) = Vc.live vs from rfl] at K
  generalize Vc.live vs = L at K ⊢
  have HO := hide hO
  clear h hp hO
  go_enter Tryz.func48, Tryz.ntmps48
  go_wp2_with fail
  refine (unhide K).mono ?_
  rintro e w1 hm
  obtain ⟨r, c, rfl, hc, hs, hpr, hb⟩ := Left.made (unhide HO) hm
  have H1 := hide hc
  have H2 := hide hs
  have H3 := hide hpr
  have H4 := hide hb
  clear hm hc hs hpr hb
  go_wp2_with fail
  go_ret
  exact ⟨r, c, rfl, unhide H1, unhide H2, unhide H3, unhide H4⟩

end Go.Proofs.YtebjlmnhpfoglaaGreatDoor

/-
  A node's digest, said plainly. Conditions: none.
-/

namespace Go.Proofs.YtebjlmnhpfoglaaGreatDoor
open Go.RowKit

def sumN (n : Nd) : List UInt8 := if chkN n ≠ 0 then zero32 else Hsh.Sha.sha (encN n)
theorem sumN_len (n : Nd) : (sumN n).length = 32 := by
  unfold sumN
  split
  · rfl
  · exact Hsh.Sha.sha_len _
end Go.Proofs.YtebjlmnhpfoglaaGreatDoor

/-
  The library's strings.Clone, at this program: the library's own contract, applied to this program's numbers (no walk of its text). Conditions: those that each theorem names.
-/
import Derived.Test.YthecijjmgfempaaGreatSib
import Derived.Shelf.Strconv.Clone
import Derived.Test.YthecijjmgfempaaGreatGrow
namespace Go.Proofs.YthecijjmgfempaaGreat
open Go.RowKit Go.Shelf
def ren316 : Go.Shelf.Ren := ⟨fun | 316 => 79 | n => n, fun | 37 => 39 | 127 => 128 | n => n, fun | n => n⟩
theorem lays316 : Go.Proofs.LaysM.n316 Tryz.prog ren316 := {
  mixed := by kernel_rfl
  f316 := Tryz.func79.trans (congrArg some (by kernel_rfl))
  t0 := Tryz.underlying0
  a0 := Tryz.isAgg0
  z0 := Tryz.sizeOf0
  v0 := Tryz.zeroValue0
  t3 := Tryz.underlying3
  a3 := Tryz.isAgg3
  z3 := Tryz.sizeOf3
  v3 := Tryz.zeroValue3
  t4 := Tryz.underlying4
  a4 := Tryz.isAgg4
  z4 := Tryz.sizeOf4
  v4 := Tryz.zeroValue4
  t5 := Tryz.underlying5
  a5 := Tryz.isAgg5
  z5 := Tryz.sizeOf5
  v5 := Tryz.zeroValue5
  t9 := Tryz.underlying9
  a9 := Tryz.isAgg9
  z9 := Tryz.sizeOf9
  v9 := Tryz.zeroValue9
  t37 := Tryz.underlying39
  a37 := Tryz.isAgg39
  z37 := Tryz.sizeOf39
  v37 := Tryz.zeroValue39
  t127 := Tryz.underlying128
  a127 := Tryz.isAgg128
  z127 := Tryz.sizeOf128
  v127 := Tryz.zeroValue128
  i0 := by kernel_rfl
  i3 := by kernel_rfl
  i4 := by kernel_rfl
  i5 := by kernel_rfl
  i9 := by kernel_rfl
  i37 := by kernel_rfl
  i127 := by kernel_rfl }
theorem slite_clone (s : ByteArray) (w : World) (h : s.size ≤ 281474976710656) : Calls Tryz.prog 79 #[.string s] w fun e w' => e = .returned (.string s) ∧ Below w.heap.size w w' :=
  Any.stringslite_Clone lays316 s w h
theorem clone_any (s : ByteArray) (w : World) (h : s.size ≤ 281474976710656) : Calls Tryz.prog 69 #[.string s] w fun e w' => e = .returned (.string s) ∧ Below w.heap.size w w' := by
  have K := hide (slite_clone s w h)
  go_enter Tryz.func69, Tryz.ntmps69
  go_wp2_with (go_at_call 79; refine (unhide K).mono ?_; rintro e w1 ⟨rfl, hb⟩)
  go_ret
  exact ⟨rfl, hb⟩
end Go.Proofs.YthecijjmgfempaaGreat

namespace Go.Proofs.YthecijjmgfempaaGreat
open Go.RowKit

/-- The number ahead, at most one, and how many bytes it has. -/
def aheadN (b : List UInt8) (most : Int) : Int × Nat × Int :=
  if (Cnt.takeF b).2.2 ≠ 0 then (0, 0, (Cnt.takeF b).2.2) else if most < (Cnt.takeF b).1 then (0, 0, 2) else ((Cnt.takeF b).1, (Cnt.takeF b).2.1.toNat, 0)
theorem rNumber_ahead (st : St) (most : Int) : rNumber st most = (got st (aheadN st.1 most).2.2 0 (aheadN st.1 most).1, cut st (aheadN st.1 most).2.1 (aheadN st.1 most).2.2) := by
  unfold rNumber got cut aheadN
  by_cases h0 : st.2 ≠ 0
  · simp [h0]
  · rw [if_neg h0, if_neg h0, if_neg h0]
    by_cases h1 : (Cnt.takeF st.1).2.2 ≠ 0
    · simp [h1]
    · rw [if_neg h1, if_neg h1]
      by_cases h2 : most < (Cnt.takeF st.1).1
      · simp [h2]
      · simp [h2]
theorem aheadN_ok (b : List UInt8) (most : Int) : 0 ≤ (aheadN b most).1 ∧ (aheadN b most).2.1 ≤ b.length := by
  unfold aheadN
  split
  · exact ⟨Int.le_refl _, Nat.zero_le _⟩
  · split
    · exact ⟨Int.le_refl _, Nat.zero_le _⟩
    · rename_i h1 _
      refine ⟨takeF_nonneg _, ?_⟩
      have := (Cnt.takeF_ok b (by simpa using h1)).2.1
      show (Cnt.takeF b).2.1.toNat ≤ _
      omega

set_option maxRecDepth 100000 in
set_option maxHeartbeats 400000 in
theorem numberAhead_any (b : List UInt8) (most : Int) (hs : b.length ≤ 50000000) (w : World) :
    Calls Tryz.prog 68 #[.string (str b), .int .i64 most] w fun e w' => e = .returned (.tuple #[.int .i64 (aheadN b most).1, .int .i64 (aheadN b most).2.1, .int .i64 (aheadN b most).2.2]) ∧ w' = w := by
  have KT := hide (Take_any (str b) w (by rw [str_size]; unfold maxLen; omega))
  rw [str_data] at KT
  have hok := Cnt.takeF_ok b
  unfold aheadN
  obtain ⟨n, k, x, hT⟩ : ∃ n k x, Cnt.takeF b = (n, k, x) := ⟨_, _, _, rfl⟩
  rw [hT] at KT hok ⊢
  dsimp only at KT hok ⊢
  generalize str b = S at KT ⊢
  clear hT
  by_cases hx : x = 0
  · subst hx
    obtain ⟨hk1, hk2, _⟩ := hok rfl
    obtain ⟨K, rfl⟩ : ∃ K : Nat, k = K := ⟨k.toNat, by omega⟩
    rw [if_neg (by simp), Int.toNat_natCast]
    clear hok
    by_cases hm : most < n
    · rw [if_pos hm]
      go_enter Tryz.func68, Tryz.ntmps68
      go_wp2_with (go_at_call 78; refine (unhide KT).mono ?_; rintro e w1 ⟨rfl, rfl⟩)
      go_ret3
      exact ⟨rfl, rfl⟩
    · rw [if_neg hm]
      have hm' : n ≤ most := by omega
      go_enter Tryz.func68, Tryz.ntmps68
      go_wp2_with (go_at_call 78; refine (unhide KT).mono ?_; rintro e w1 ⟨rfl, rfl⟩)
      go_ret3
      exact ⟨rfl, rfl⟩
  · rw [if_pos hx]
    have hne2 : (x != 0) = true := by simp [hx]
    clear hok
    go_enter Tryz.func68, Tryz.ntmps68
    go_wp2_with (go_at_call 78; refine (unhide KT).mono ?_; rintro e w1 ⟨rfl, rfl⟩)
    go_ret3
    exact ⟨rfl, rfl⟩

set_option maxRecDepth 100000 in
theorem number1_any (b : List UInt8) (most : Int) (hs : b.length ≤ 50000000) (B : Nat) (w : World) (h : VRow w B 3 [.int .i64 most]) :
    Calls Tryz.prog 135 #[.string (str b), .pointer (some ⟨B, 0, none⟩)] w fun e w' => e = .returned (.tuple #[.int .i64 (aheadN b most).1, .int .i64 (aheadN b most).2.1, .int .i64 (aheadN b most).2.2]) ∧ w' = w := by
  have K := hide (numberAhead_any b most hs w)
  have c0 := h.cell 0 _ rfl
  generalize str b = S at K ⊢
  generalize (aheadN b most).1 = x1 at K ⊢
  generalize ((aheadN b most).2.1 : Int) = x2 at K ⊢
  generalize (aheadN b most).2.2 = x3 at K ⊢
  clear h hs
  go_enter Tryz.func135, Tryz.ntmps135
  go_wp2_with (go_at_call 68; refine (unhide K).mono ?_; rintro e w1 ⟨rfl, rfl⟩)
  go_ret3
  exact ⟨rfl, rfl⟩

set_option maxRecDepth 100000 in
set_option maxHeartbeats 400000 in
theorem rnumber_any {w : World} {p : Addr} {st : St} {own : Nat → Prop} (h : Rd w p st own) (hs : st.1.length ≤ 50000000) (most : Int) :
    Calls Tryz.prog 130 #[.pointer (some p), .int .i64 most] w (Turned Rd own p w (rNumber st most).2 (.int .i64 (rNumber st most).1)) := by
  have HB := hide (below_alloc' (w := w) (.cells #[.int .i64 most] 3))
  have R := VRow.new w 3 [.int .i64 most]
  have KT := hide (takeN_any (rd_after h (unhide HB)) w.heap.size (aheadN st.1 most).1 (aheadN st.1 most).2.1 (aheadN st.1 most).2.2 hs (fun _ => (aheadN_ok _ _).2) (fun _ => (number1_any st.1 most hs w.heap.size _ R).mono (by rintro e w' ⟨rfl, rfl⟩; exact ⟨rfl, Below.refl _ _⟩)))
  rw [rNumber_ahead]
  dsimp only
  generalize got st (aheadN st.1 most).2.2 0 (aheadN st.1 most).1 = V at KT ⊢
  generalize cut st (aheadN st.1 most).2.1 (aheadN st.1 most).2.2 = C at KT ⊢
  clear h R hs
  go_enter Tryz.func130, Tryz.ntmps130
  go_wp2_with (go_at_call 134; refine (unhide KT).mono ?_; intro e w2 hm; have HM := hide (turned_of (unhide HB) hm); clear hm; obtain rfl : e = .returned (.int .i64 V) := (unhide HM).choose_spec.1)
  go_ret
  exact unhide HM
set_option maxRecDepth 100000 in
theorem rnumber_nil (most : Int) (w : World) : Calls Tryz.prog 130 #[.pointer none, .int .i64 most] w (Told w (.int .i64 0)) := by
  have HB := hide (below_alloc' (w := w) (.cells #[.int .i64 most] 3))
  have KT := hide (takeN_nil w.heap.size (w.alloc (.cells #[.int .i64 most] 3)))
  go_enter Tryz.func130, Tryz.ntmps130
  go_wp2_with (go_at_call 134; refine (unhide KT).mono ?_; rintro e w2 ⟨rfl, hb⟩; have HB2 := hide (below_grow (unhide HB) (Nat.le_refl _) hb); clear hb)
  go_ret
  exact ⟨rfl, unhide HB2⟩

/-- The text ahead, and how many bytes it has, with those of its length. -/
def aheadT (b : List UInt8) (most : Int) : List UInt8 × Nat × Int :=
  if (aheadN b most).2.2 ≠ 0 then ([], 0, (aheadN b most).2.2) else if ((b.length - (aheadN b most).2.1 : Nat) : Int) < (aheadN b most).1 then ([], 0, 5)
  else ((b.drop (aheadN b most).2.1).take (aheadN b most).1.toNat, (aheadN b most).2.1 + (aheadN b most).1.toNat, 0)
theorem rText_ahead (st : St) (most : Int) : rText st most = (got st (aheadT st.1 most).2.2 [] (aheadT st.1 most).1, cut st (aheadT st.1 most).2.1 (aheadT st.1 most).2.2) := by
  unfold rText
  rw [rNumber_ahead]
  unfold aheadT
  obtain ⟨n, k, x, hA⟩ : ∃ n k x, aheadN st.1 most = (n, k, x) := ⟨_, _, _, rfl⟩
  rw [hA]
  dsimp only
  by_cases h0 : st.2 = 0
  · by_cases hx : x = 0
    · subst hx
      have h1 : cut st k 0 = (st.1.drop k, 0) := by simp [cut, h0]
      have h2 : got st 0 0 n = n := by simp [got, h0]
      rw [h1, h2]
      dsimp only
      rw [List.length_drop]
      by_cases hl : ((st.1.length - k : Nat) : Int) < n
      · simp [got, cut, h0, hl]
      · simp [got, cut, h0, hl, List.drop_drop]
    · simp [got, cut, h0, hx]
  · simp [got, cut, h0]
theorem aheadT_ok (b : List UInt8) (most : Int) : (aheadT b most).2.1 ≤ b.length := by
  have h := aheadN_ok b most
  unfold aheadT
  split
  · exact Nat.zero_le _
  · split
    · exact Nat.zero_le _
    · show (aheadN b most).2.1 + (aheadN b most).1.toNat ≤ _
      omega

set_option maxRecDepth 100000 in
set_option maxHeartbeats 400000 in
theorem textAhead_any (b : List UInt8) (most : Int) (hs : b.length ≤ 50000000) (w : World) :
    Calls Tryz.prog 50 #[.string (str b), .int .i64 most] w fun e w' => e = .returned (.tuple #[.string (str (aheadT b most).1), .int .i64 (aheadT b most).2.1, .int .i64 (aheadT b most).2.2]) ∧ Below w.heap.size w w' := by
  have KN := hide (numberAhead_any b most hs w)
  have hok := aheadN_ok b most
  unfold aheadT
  obtain ⟨n, k, x, hA⟩ : ∃ n k x, aheadN b most = (n, k, x) := ⟨_, _, _, rfl⟩
  rw [hA] at KN hok ⊢
  dsimp only at KN hok ⊢
  have hsz := str_size b
  clear hA
  obtain ⟨N, rfl⟩ : ∃ N : Nat, n = N := ⟨n.toNat, by omega⟩
  by_cases hx : x = 0
  · subst hx
    rw [if_neg (by simp), Int.toNat_natCast]
    by_cases hl : ((b.length - k : Nat) : Int) < (N : Int)
    · rw [if_pos hl]
      have hl2 : ((str b).size : Int) - (k : Int) < (N : Int) := by omega
      have hks : k ≤ (str b).size := by omega
      have hss : (str b).size ≤ 50000000 := by omega
      generalize str b = S at *
      clear hl hok hs hsz
      go_enter Tryz.func50, Tryz.ntmps50
      go_wp2_with (go_at_call 68; refine (unhide KN).mono ?_; rintro e w1 ⟨rfl, rfl⟩)
      go_ret3
      exact ⟨rfl, Below.refl _ _⟩
    · rw [if_neg hl]
      have hl2 : (N : Int) ≤ ((str b).size : Int) - (k : Int) := by omega
      have hks : k + N ≤ (str b).size := by omega
      have hks' : (k : Int) + (N : Int) ≤ ((str b).size : Int) := by omega
      have hss : (str b).size ≤ 50000000 := by omega
      have HX : Hid ((str b).extract k (k + N) = str ((b.drop k).take N)) := hide (by rw [str_ext, List.drop_take]; congr 2; omega)
      have KC := hide fun W => clone_any (str ((b.drop k).take N)) W (by rw [str_size, List.length_take, List.length_drop]; omega)
      rw [← unhide HX] at KC ⊢
      generalize str b = S at *
      clear hl hok hs hsz
      go_enter Tryz.func50, Tryz.ntmps50
      go_wp2_with (first
        | (go_at_call 68; refine (unhide KN).mono ?_; rintro e w1 ⟨rfl, rfl⟩)
        | (go_at_call 69; refine (unhide KC _).mono ?_; rintro e w2 ⟨rfl, hb⟩; have HB := hide hb; clear hb))
      go_ret3
      exact ⟨rfl, unhide HB⟩
  · rw [if_pos hx]
    have hne2 : (x != 0) = true := by simp [hx]
    clear hok hs hsz
    generalize str b = S at *
    go_enter Tryz.func50, Tryz.ntmps50
    go_wp2_with (go_at_call 68; refine (unhide KN).mono ?_; rintro e w1 ⟨rfl, rfl⟩)
    go_ret3
    exact ⟨rfl, Below.refl _ _⟩

set_option maxRecDepth 100000 in
theorem text1_any (b : List UInt8) (most : Int) (hs : b.length ≤ 50000000) (B : Nat) (w : World) (h : VRow w B 3 [.int .i64 most]) :
    Calls Tryz.prog 49 #[.string (str b), .pointer (some ⟨B, 0, none⟩)] w fun e w' => e = .returned (.tuple #[.string (str (aheadT b most).1), .int .i64 (aheadT b most).2.1, .int .i64 (aheadT b most).2.2]) ∧ Below w.heap.size w w' := by
  have K := hide (textAhead_any b most hs w)
  have c0 := h.cell 0 _ rfl
  generalize str b = S at K ⊢
  generalize str (aheadT b most).1 = x1 at K ⊢
  generalize ((aheadT b most).2.1 : Int) = x2 at K ⊢
  generalize (aheadT b most).2.2 = x3 at K ⊢
  clear h hs
  go_enter Tryz.func49, Tryz.ntmps49
  go_wp2_with (go_at_call 50; refine (unhide K).mono ?_; rintro e w1 ⟨rfl, hb⟩; have HB := hide hb; clear hb)
  go_ret3
  exact ⟨rfl, unhide HB⟩

theorem got_str (st : St) (x : Int) (v : List UInt8) : got st x (⟨#[]⟩ : ByteArray) (str v) = str (got st x [] v) := by
  unfold got
  split
  · rfl
  · split <;> rfl
set_option maxRecDepth 100000 in
set_option maxHeartbeats 400000 in
theorem rtext_any {w : World} {p : Addr} {st : St} {own : Nat → Prop} (h : Rd w p st own) (hs : st.1.length ≤ 50000000) (most : Int) :
    Calls Tryz.prog 31 #[.pointer (some p), .int .i64 most] w (Turned Rd own p w (rText st most).2 (.string (str (rText st most).1))) := by
  have HB := hide (below_alloc' (w := w) (.cells #[.int .i64 most] 3))
  have R := VRow.new w 3 [.int .i64 most]
  have KT := hide (takeT_any (rd_after h (unhide HB)) w.heap.size (str (aheadT st.1 most).1) (aheadT st.1 most).2.1 (aheadT st.1 most).2.2 hs (fun _ => aheadT_ok _ _) (fun _ => text1_any st.1 most hs w.heap.size _ R))
  rw [rText_ahead]
  dsimp only
  rw [← got_str]
  generalize got st (aheadT st.1 most).2.2 (⟨#[]⟩ : ByteArray) (str (aheadT st.1 most).1) = V at KT ⊢
  generalize cut st (aheadT st.1 most).2.1 (aheadT st.1 most).2.2 = C at KT ⊢
  clear h R hs
  go_enter Tryz.func31, Tryz.ntmps31
  go_wp2_with (go_at_call 48; refine (unhide KT).mono ?_; intro e w2 hm; have HM := hide (turned_of (unhide HB) hm); clear hm; obtain rfl : e = .returned (.string V) := (unhide HM).choose_spec.1)
  go_ret
  exact unhide HM
set_option maxRecDepth 100000 in
theorem rtext_nil (most : Int) (w : World) : Calls Tryz.prog 31 #[.pointer none, .int .i64 most] w (Told w (.string ⟨#[]⟩)) := by
  have HB := hide (below_alloc' (w := w) (.cells #[.int .i64 most] 3))
  have KT := hide (takeT_nil w.heap.size (w.alloc (.cells #[.int .i64 most] 3)))
  go_enter Tryz.func31, Tryz.ntmps31
  go_wp2_with (go_at_call 48; refine (unhide KT).mono ?_; rintro e w2 ⟨rfl, hb⟩; have HB2 := hide (below_grow (unhide HB) (Nat.le_refl _) hb); clear hb)
  go_ret
  exact ⟨rfl, unhide HB2⟩
end Go.Proofs.YthecijjmgfempaaGreat

namespace Go.Proofs.YthecijjmgfempaaGreat
open Go.RowKit

def aheadF1 (b : List UInt8) : Bool × Nat × Int :=
  match b with
  | [] => (false, 0, 5)
  | x :: _ => if 1 < x.toNat then (false, 0, 7) else (x == 1, 1, 0)
theorem rFlag_ahead (st : St) : rFlag st = (got st (aheadF1 st.1).2.2 false (aheadF1 st.1).1, cut st (aheadF1 st.1).2.1 (aheadF1 st.1).2.2) := by
  obtain ⟨b, e⟩ := st
  unfold rFlag got cut aheadF1
  by_cases h0 : e ≠ 0
  · simp [h0]
  · have h0' : e = 0 := by simpa using h0
    subst h0'
    cases b with
    | nil => rfl
    | cons x r =>
      by_cases h1 : 1 < x.toNat
      · simp [h1]
      · simp [h1]
theorem aheadF1_ok (b : List UInt8) : (aheadF1 b).2.2 = 0 → (aheadF1 b).2.1 ≤ b.length := by
  unfold aheadF1
  cases b with
  | nil => intro h; cases h
  | cons x r =>
    dsimp only
    split
    · intro h; cases h
    · intro _; simp

set_option maxRecDepth 100000 in
set_option maxHeartbeats 400000 in
theorem flagAhead_any (b : List UInt8) (hs : b.length ≤ 50000000) (w : World) :
    Calls Tryz.prog 129 #[.string (str b)] w fun e w' => e = .returned (.tuple #[.bool (aheadF1 b).1, .int .i64 (aheadF1 b).2.1, .int .i64 (aheadF1 b).2.2]) ∧ w' = w := by
  cases b with
  | nil =>
    rw [show str [] = ⟨#[]⟩ from rfl, show aheadF1 [] = (false, 0, 5) from rfl]
    go_enter Tryz.func129, Tryz.ntmps129
    go_wp2_with fail
    go_ret3
    exact ⟨rfl, rfl⟩
  | cons x r =>
    have hemp := str_emp x r
    have hsz : 1 ≤ (str (x :: r)).size := by rw [str_size]; simp
    have hsm : (str (x :: r)).size ≤ 9223372036854775807 := by rw [str_size]; omega
    have HX : (str (x :: r)).extract 0 1 = str [x] := ext_head (x :: r) 1
    have q0 : ((str [x]).toList == [0]) = (x == 0) := by rw [ByteArray.toList_eq, str_data]; simp
    have q1 : ((str [x]).toList == [1]) = (x == 1) := by rw [ByteArray.toList_eq, str_data]; simp
    generalize str [x] = Y at *
    by_cases hx : 1 < x.toNat
    · rw [show aheadF1 (x :: r) = (false, 0, 7) from by simp [aheadF1, hx]]
      have n0 : (x == 0) = false := by rw [beq_eq_false_iff_ne]; rintro rfl; simp at hx
      have n1 : (x == 1) = false := by rw [beq_eq_false_iff_ne]; rintro rfl; simp at hx
      rw [n0] at q0
      rw [n1] at q1
      generalize str (x :: r) = S at *
      go_enter Tryz.func129, Tryz.ntmps129
      go_wp2_with fail
      go_ret3
      exact ⟨rfl, rfl⟩
    · rw [show aheadF1 (x :: r) = (x == 1, 1, 0) from by simp [aheadF1, hx]]
      generalize str (x :: r) = S at *
      have hcases : x = 0 ∨ x = 1 := by
        by_cases h0 : x = 0
        · exact .inl h0
        · refine .inr (UInt8.toNat_inj.1 ?_)
          have h2 : x.toNat ≠ 0 := fun h => h0 (UInt8.toNat_inj.1 (by simpa using h))
          show x.toNat = 1
          omega
      rcases hcases with rfl | rfl
      · rw [show ((0 : UInt8) == 0) = true from rfl] at q0
        go_enter Tryz.func129, Tryz.ntmps129
        go_wp2_with fail
        go_ret3
        exact ⟨rfl, rfl⟩
      · rw [show ((1 : UInt8) == 0) = false from rfl] at q0
        rw [show ((1 : UInt8) == 1) = true from rfl] at q1
        go_enter Tryz.func129, Tryz.ntmps129
        go_wp2_with fail
        go_ret3
        exact ⟨rfl, rfl⟩

set_option maxRecDepth 100000 in
set_option maxHeartbeats 400000 in
theorem rflag_any {w : World} {p : Addr} {st : St} {own : Nat → Prop} (h : Rd w p st own) (hs : st.1.length ≤ 50000000) :
    Calls Tryz.prog 105 #[.pointer (some p)] w (Turned Rd own p w (rFlag st).2 (.bool (rFlag st).1)) := by
  have KT := hide (takeF_any h (aheadF1 st.1).1 (aheadF1 st.1).2.1 (aheadF1 st.1).2.2 hs (aheadF1_ok st.1) (fun _ => (flagAhead_any st.1 hs w).mono (by rintro e w' ⟨rfl, rfl⟩; exact ⟨rfl, Below.refl _ _⟩)))
  rw [rFlag_ahead]
  dsimp only
  generalize got st (aheadF1 st.1).2.2 false (aheadF1 st.1).1 = V at KT ⊢
  generalize cut st (aheadF1 st.1).2.1 (aheadF1 st.1).2.2 = C at KT ⊢
  clear h hs
  go_enter Tryz.func105, Tryz.ntmps105
  go_wp2_with (go_at_call 128; refine (unhide KT).mono ?_; intro e w2 hm; have HM := hide hm; clear hm; obtain rfl : e = .returned (.bool V) := (unhide HM).choose_spec.1)
  go_ret
  exact unhide HM
set_option maxRecDepth 100000 in
theorem rflag_nil (w : World) : Calls Tryz.prog 105 #[.pointer none] w (Told w (.bool false)) := by
  have KT := hide (takeF_nil w)
  go_enter Tryz.func105, Tryz.ntmps105
  go_wp2_with (go_at_call 128; refine (unhide KT).mono ?_; rintro e w2 ⟨rfl, hb⟩; have HB2 := hide hb; clear hb)
  go_ret
  exact ⟨rfl, unhide HB2⟩
end Go.Proofs.YthecijjmgfempaaGreat

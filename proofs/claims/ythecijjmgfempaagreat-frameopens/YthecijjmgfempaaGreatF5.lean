/-
  The message of a frame: the document's Open.
-/
import Derived.Test.YthecijjmgfempaaGreatF0
import Derived.Test.YthecijjmgfempaaGreatX3
namespace Go.Proofs.YthecijjmgfempaaGreat
open Go.RowKit

theorem results_msg8 (tmps : Array Value) (w : World) (g : Nat) (vs : List Value) (v : Value) (hp : tmps.getD 2 undef = .pointer (some ⟨g, 0, none⟩)) (hq : tmps.getD 3 undef = v) (hr : VRow w g 28 vs) (hn : vs.length = 41) :
    (results Tryz.f8 tmps).run Tryz.prog w = .ok (.tuple #[.agg vs.toArray, v]) w := by
  have hp' : tmps[2]?.getD undef = .pointer (some ⟨g, 0, none⟩) := by simpa using hp
  have hq' : tmps[3]?.getD undef = v := by simpa using hq
  have hl := run_loadVar_row (P := Tryz.prog) w g 28 28 vs.toArray (0, 0) _ hr Tryz.underlying28 rfl (by rw [sizeM]; simp [hn])
  simp [results, hp', hq', asAddr, hl]
theorem u8_ne {x : UInt8} {n : Nat} (hn : n < 256) (h : ¬ x = UInt8.ofNat n) : ((x.toNat : Int) != n) = true := by
  rw [bne_iff_ne]
  intro e
  apply h
  apply UInt8.toNat_inj.1
  rw [UInt8.toNat_ofNat']
  omega
theorem three {t : List UInt8} (h : ¬ t.length < 3) : ∃ a b c r, t = a :: b :: c :: r := by
  rcases t with _ | ⟨a, _ | ⟨b, _ | ⟨c, r⟩⟩⟩
  · exact absurd (by simp : ([] : List UInt8).length < 3) h
  · exact absurd (by simp) h
  · exact absurd (by simp) h
  · exact ⟨a, b, c, r, rfl⟩
section
variable {w : World}
/-- What lies there as the walk begins. -/
def AtStart (w : World) : Prop := VRow (w.alloc (.cells #[.int .i64 0, .int .i64 0, .int .i64 0, .int .i64 0, .bool false, .string ⟨#[]⟩, .int .u8 0, .int .u8 0, .int .u8 0, .int .u8 0, .int .u8 0, .int .u8 0, .int .u8 0, .int .u8 0, .int .u8 0, .int .u8 0, .int .u8 0, .int .u8 0, .int .u8 0, .int .u8 0, .int .u8 0, .int .u8 0, .int .u8 0, .int .u8 0, .int .u8 0, .int .u8 0, .int .u8 0, .int .u8 0, .int .u8 0, .int .u8 0, .int .u8 0, .int .u8 0, .int .u8 0, .int .u8 0, .int .u8 0, .int .u8 0, .int .u8 0, .int .u8 0, .slice none 0 0, .slice none 0 0, .string ⟨#[]⟩] 28)) w.heap.size 28 mZ ∧ Below w.heap.size w (w.alloc (.cells #[.int .i64 0, .int .i64 0, .int .i64 0, .int .i64 0, .bool false, .string ⟨#[]⟩, .int .u8 0, .int .u8 0, .int .u8 0, .int .u8 0, .int .u8 0, .int .u8 0, .int .u8 0, .int .u8 0, .int .u8 0, .int .u8 0, .int .u8 0, .int .u8 0, .int .u8 0, .int .u8 0, .int .u8 0, .int .u8 0, .int .u8 0, .int .u8 0, .int .u8 0, .int .u8 0, .int .u8 0, .int .u8 0, .int .u8 0, .int .u8 0, .int .u8 0, .int .u8 0, .int .u8 0, .int .u8 0, .int .u8 0, .int .u8 0, .int .u8 0, .int .u8 0, .slice none 0 0, .slice none 0 0, .string ⟨#[]⟩] 28))
theorem at_start (w : World) : AtStart w := ⟨by rw [mZ_lit]; exact VRow.new w 28 [.int .i64 0, .int .i64 0, .int .i64 0, .int .i64 0, .bool false, .string ⟨#[]⟩, .int .u8 0, .int .u8 0, .int .u8 0, .int .u8 0, .int .u8 0, .int .u8 0, .int .u8 0, .int .u8 0, .int .u8 0, .int .u8 0, .int .u8 0, .int .u8 0, .int .u8 0, .int .u8 0, .int .u8 0, .int .u8 0, .int .u8 0, .int .u8 0, .int .u8 0, .int .u8 0, .int .u8 0, .int .u8 0, .int .u8 0, .int .u8 0, .int .u8 0, .int .u8 0, .int .u8 0, .int .u8 0, .int .u8 0, .int .u8 0, .int .u8 0, .int .u8 0, .slice none 0 0, .slice none 0 0, .string ⟨#[]⟩], below_alloc' _⟩
set_option maxRecDepth 100000 in
set_option maxHeartbeats 2000000 in
theorem refOpen_size (l : List UInt8) (h : 131072 < l.length) (w : World) : Calls Tryz.prog 8 #[.string (str l)] w (ReadMade w (zeroM, 2)) := by
  have HZ0 := hide (at_start w).1
  have HB0 := hide (at_start w).2
  have hz := str_size l
  go_enter Tryz.func8, Tryz.ntmps8
  go_wp2_with ((with_reducible refine atS27 ?_); (refine store_row (by rfl) 28 (.tmp 2) (.tmp 12) (by rfl) w.heap.size [.int .i64 0, .int .i64 0, .int .i64 0, .int .i64 0, .bool false, .string ⟨#[]⟩, .int .u8 0, .int .u8 0, .int .u8 0, .int .u8 0, .int .u8 0, .int .u8 0, .int .u8 0, .int .u8 0, .int .u8 0, .int .u8 0, .int .u8 0, .int .u8 0, .int .u8 0, .int .u8 0, .int .u8 0, .int .u8 0, .int .u8 0, .int .u8 0, .int .u8 0, .int .u8 0, .int .u8 0, .int .u8 0, .int .u8 0, .int .u8 0, .int .u8 0, .int .u8 0, .int .u8 0, .int .u8 0, .int .u8 0, .int .u8 0, .int .u8 0, .int .u8 0, .slice none 0 0, .slice none 0 0, .string ⟨#[]⟩] (by rfl) (by rfl) 28 mZ (unhide HZ0) 41 sizeM rfl mZ_len (by rw [← mZ_lit]; exact mZ_one) ?_); intro w9 ho9 hr9; have HO9 := hide ho9; have HR9 := hide hr9; clear ho9 hr9)
  refine bodyPost_ret (v := .tuple #[.agg (mL zeroM none 0 none 0).toArray, .int .i64 2]) ?_ rfl ⟨none, 0, none, 0, rfl, Fresh.nil _ _, RProv.none _ _ _, Sl.none _ _, RL.none _ _, ?_⟩
  · have h9 := unhide HR9
    rw [← mZ_lit] at h9
    exact results_msg8 _ _ w.heap.size _ _ rfl rfl h9 mZ_len
  · exact (unhide HB0).trans ((unhide HO9).below (Nat.le_refl _))
set_option maxRecDepth 100000 in
set_option maxHeartbeats 2000000 in
theorem refOpen_sum (l : List UInt8) (h : l.length ≤ 131072) (h2 : ¬ Right l) (w : World) : Calls Tryz.prog 8 #[.string (str l)] w (ReadMade w (zeroM, 9)) := by
  have HZ0 := hide (at_start w).1
  have HB0 := hide (at_start w).2
  have hz := str_size l
  have K := hide (refCrcOpen_any l (by omega) (w.alloc (.cells #[.int .i64 0, .int .i64 0, .int .i64 0, .int .i64 0, .bool false, .string ⟨#[]⟩, .int .u8 0, .int .u8 0, .int .u8 0, .int .u8 0, .int .u8 0, .int .u8 0, .int .u8 0, .int .u8 0, .int .u8 0, .int .u8 0, .int .u8 0, .int .u8 0, .int .u8 0, .int .u8 0, .int .u8 0, .int .u8 0, .int .u8 0, .int .u8 0, .int .u8 0, .int .u8 0, .int .u8 0, .int .u8 0, .int .u8 0, .int .u8 0, .int .u8 0, .int .u8 0, .int .u8 0, .int .u8 0, .int .u8 0, .int .u8 0, .int .u8 0, .int .u8 0, .slice none 0 0, .slice none 0 0, .string ⟨#[]⟩] 28)))
  rw [if_neg h2, decide_eq_false h2] at K
  go_enter Tryz.func8, Tryz.ntmps8
  go_wp2_with fail
  refine (unhide K).mono ?_
  rintro e w1 ⟨rfl, hb⟩
  have HB1 := hide (below_grow (unhide HB0) (Nat.le_refl _) hb)
  have HZ1 := hide ((unhide HZ0).after hb)
  clear hb
  go_wp2_with ((with_reducible refine atS27 ?_); (refine store_row (by rfl) 28 (.tmp 2) (.tmp 20) (by rfl) w.heap.size [.int .i64 0, .int .i64 0, .int .i64 0, .int .i64 0, .bool false, .string ⟨#[]⟩, .int .u8 0, .int .u8 0, .int .u8 0, .int .u8 0, .int .u8 0, .int .u8 0, .int .u8 0, .int .u8 0, .int .u8 0, .int .u8 0, .int .u8 0, .int .u8 0, .int .u8 0, .int .u8 0, .int .u8 0, .int .u8 0, .int .u8 0, .int .u8 0, .int .u8 0, .int .u8 0, .int .u8 0, .int .u8 0, .int .u8 0, .int .u8 0, .int .u8 0, .int .u8 0, .int .u8 0, .int .u8 0, .int .u8 0, .int .u8 0, .int .u8 0, .int .u8 0, .slice none 0 0, .slice none 0 0, .string ⟨#[]⟩] (by rfl) (by rfl) 28 mZ (unhide HZ1) 41 sizeM rfl mZ_len (by rw [← mZ_lit]; exact mZ_one) ?_); intro w9 ho9 hr9; have HO9 := hide ho9; have HR9 := hide hr9; clear ho9 hr9)
  refine bodyPost_ret (v := .tuple #[.agg (mL zeroM none 0 none 0).toArray, .int .i64 9]) ?_ rfl ⟨none, 0, none, 0, rfl, Fresh.nil _ _, RProv.none _ _ _, Sl.none _ _, RL.none _ _, ?_⟩
  · have h9 := unhide HR9
    rw [← mZ_lit] at h9
    exact results_msg8 _ _ w.heap.size _ _ rfl rfl h9 mZ_len
  · exact (unhide HB1).trans ((unhide HO9).below (Nat.le_refl _))
set_option maxRecDepth 100000 in
set_option maxHeartbeats 2000000 in
theorem refOpen_short (l t : List UInt8) (h : l.length ≤ 131072) (h2 : Right l) (ht : l.take (l.length - 4) = t) (h3 : t.length < 3) (w : World) : Calls Tryz.prog 8 #[.string (str l)] w (ReadMade w (zeroM, 5)) := by
  have HZ0 := hide (at_start w).1
  have HB0 := hide (at_start w).2
  have hz := str_size l
  have K := hide (refCrcOpen_any l (by omega) (w.alloc (.cells #[.int .i64 0, .int .i64 0, .int .i64 0, .int .i64 0, .bool false, .string ⟨#[]⟩, .int .u8 0, .int .u8 0, .int .u8 0, .int .u8 0, .int .u8 0, .int .u8 0, .int .u8 0, .int .u8 0, .int .u8 0, .int .u8 0, .int .u8 0, .int .u8 0, .int .u8 0, .int .u8 0, .int .u8 0, .int .u8 0, .int .u8 0, .int .u8 0, .int .u8 0, .int .u8 0, .int .u8 0, .int .u8 0, .int .u8 0, .int .u8 0, .int .u8 0, .int .u8 0, .int .u8 0, .int .u8 0, .int .u8 0, .int .u8 0, .int .u8 0, .int .u8 0, .slice none 0 0, .slice none 0 0, .string ⟨#[]⟩] 28)))
  rw [if_pos h2, decide_eq_true h2, ht] at K
  have hz2 := str_size t
  clear h2 ht
  go_enter Tryz.func8, Tryz.ntmps8
  go_wp2_with fail
  refine (unhide K).mono ?_
  rintro e w1 ⟨rfl, hb⟩
  have HB1 := hide (below_grow (unhide HB0) (Nat.le_refl _) hb)
  have HZ1 := hide ((unhide HZ0).after hb)
  clear hb
  go_wp2_with ((with_reducible refine atS27 ?_); (refine store_row (by rfl) 28 (.tmp 2) (.tmp 24) (by rfl) w.heap.size [.int .i64 0, .int .i64 0, .int .i64 0, .int .i64 0, .bool false, .string ⟨#[]⟩, .int .u8 0, .int .u8 0, .int .u8 0, .int .u8 0, .int .u8 0, .int .u8 0, .int .u8 0, .int .u8 0, .int .u8 0, .int .u8 0, .int .u8 0, .int .u8 0, .int .u8 0, .int .u8 0, .int .u8 0, .int .u8 0, .int .u8 0, .int .u8 0, .int .u8 0, .int .u8 0, .int .u8 0, .int .u8 0, .int .u8 0, .int .u8 0, .int .u8 0, .int .u8 0, .int .u8 0, .int .u8 0, .int .u8 0, .int .u8 0, .int .u8 0, .int .u8 0, .slice none 0 0, .slice none 0 0, .string ⟨#[]⟩] (by rfl) (by rfl) 28 mZ (unhide HZ1) 41 sizeM rfl mZ_len (by rw [← mZ_lit]; exact mZ_one) ?_); intro w9 ho9 hr9; have HO9 := hide ho9; have HR9 := hide hr9; clear ho9 hr9)
  refine bodyPost_ret (v := .tuple #[.agg (mL zeroM none 0 none 0).toArray, .int .i64 5]) ?_ rfl ⟨none, 0, none, 0, rfl, Fresh.nil _ _, RProv.none _ _ _, Sl.none _ _, RL.none _ _, ?_⟩
  · have h9 := unhide HR9
    rw [← mZ_lit] at h9
    exact results_msg8 _ _ w.heap.size _ _ rfl rfl h9 mZ_len
  · exact (unhide HB1).trans ((unhide HO9).below (Nat.le_refl _))
end
set_option maxRecDepth 100000 in
set_option maxHeartbeats 2000000 in
theorem refOpen_a (l : List UInt8) (a b c : UInt8) (r : List UInt8) (h : l.length ≤ 131072) (h2 : Right l) (ht : l.take (l.length - 4) = a :: b :: c :: r) (ha : ¬ a = 104) (w : World) : Calls Tryz.prog 8 #[.string (str l)] w (ReadMade w (zeroM, 7)) := by
  have HZ0 := hide (at_start w).1
  have HB0 := hide (at_start w).2
  have hz := str_size l
  have K := hide (refCrcOpen_any l (by omega) (w.alloc (.cells #[.int .i64 0, .int .i64 0, .int .i64 0, .int .i64 0, .bool false, .string ⟨#[]⟩, .int .u8 0, .int .u8 0, .int .u8 0, .int .u8 0, .int .u8 0, .int .u8 0, .int .u8 0, .int .u8 0, .int .u8 0, .int .u8 0, .int .u8 0, .int .u8 0, .int .u8 0, .int .u8 0, .int .u8 0, .int .u8 0, .int .u8 0, .int .u8 0, .int .u8 0, .int .u8 0, .int .u8 0, .int .u8 0, .int .u8 0, .int .u8 0, .int .u8 0, .int .u8 0, .int .u8 0, .int .u8 0, .int .u8 0, .int .u8 0, .int .u8 0, .int .u8 0, .slice none 0 0, .slice none 0 0, .string ⟨#[]⟩] 28)))
  rw [if_pos h2, decide_eq_true h2, ht] at K
  obtain ⟨S, hS⟩ : ∃ S, str (a :: b :: c :: r) = S := ⟨_, rfl⟩
  have hz2 : S.size = r.length + 3 := by rw [← hS, str_size]; rfl
  have g0 : (S[0]'(by omega)) = a := by subst hS; rfl
  have g1 : (S[1]'(by omega)) = b := by subst hS; rfl
  have g2 : (S[2]'(by omega)) = c := by subst hS; rfl
  have hcut : S.extract 3 (r.length + 3) = str r := by rw [← hz2]; subst hS; rw [str_ex, str_data]; rfl
  have y0 : (((S[0]'(by omega)).toNat : Int) != 104) = true := by rw [g0]; exact u8_ne (n := 104) (by decide) ha
  clear hcut
  rw [hS] at K
  clear h2 ht hS g0 g1 g2
  go_enter Tryz.func8, Tryz.ntmps8
  go_wp2_with fail
  refine (unhide K).mono ?_
  rintro e w1 ⟨rfl, hb⟩
  have HB1 := hide (below_grow (unhide HB0) (Nat.le_refl _) hb)
  have HZ1 := hide ((unhide HZ0).after hb)
  clear hb
  go_wp2_with ((with_reducible refine atS27 ?_); (refine store_row (by rfl) 28 (.tmp 2) (.tmp 33) (by rfl) w.heap.size [.int .i64 0, .int .i64 0, .int .i64 0, .int .i64 0, .bool false, .string ⟨#[]⟩, .int .u8 0, .int .u8 0, .int .u8 0, .int .u8 0, .int .u8 0, .int .u8 0, .int .u8 0, .int .u8 0, .int .u8 0, .int .u8 0, .int .u8 0, .int .u8 0, .int .u8 0, .int .u8 0, .int .u8 0, .int .u8 0, .int .u8 0, .int .u8 0, .int .u8 0, .int .u8 0, .int .u8 0, .int .u8 0, .int .u8 0, .int .u8 0, .int .u8 0, .int .u8 0, .int .u8 0, .int .u8 0, .int .u8 0, .int .u8 0, .int .u8 0, .int .u8 0, .slice none 0 0, .slice none 0 0, .string ⟨#[]⟩] (by rfl) (by rfl) 28 mZ (unhide HZ1) 41 sizeM rfl mZ_len (by rw [← mZ_lit]; exact mZ_one) ?_); intro w9 ho9 hr9; have HO9 := hide ho9; have HR9 := hide hr9; clear ho9 hr9)
  refine bodyPost_ret (v := .tuple #[.agg (mL zeroM none 0 none 0).toArray, .int .i64 7]) ?_ rfl ⟨none, 0, none, 0, rfl, Fresh.nil _ _, RProv.none _ _ _, Sl.none _ _, RL.none _ _, ?_⟩
  · have h9 := unhide HR9
    rw [← mZ_lit] at h9
    exact results_msg8 _ _ w.heap.size _ _ rfl rfl h9 mZ_len
  · exact (unhide HB1).trans ((unhide HO9).below (Nat.le_refl _))
set_option maxRecDepth 100000 in
set_option maxHeartbeats 2000000 in
theorem refOpen_b (l : List UInt8) (a b c : UInt8) (r : List UInt8) (h : l.length ≤ 131072) (h2 : Right l) (ht : l.take (l.length - 4) = a :: b :: c :: r) (ha : a = 104) (hb0 : ¬ b = 115) (w : World) : Calls Tryz.prog 8 #[.string (str l)] w (ReadMade w (zeroM, 7)) := by
  have HZ0 := hide (at_start w).1
  have HB0 := hide (at_start w).2
  have hz := str_size l
  have K := hide (refCrcOpen_any l (by omega) (w.alloc (.cells #[.int .i64 0, .int .i64 0, .int .i64 0, .int .i64 0, .bool false, .string ⟨#[]⟩, .int .u8 0, .int .u8 0, .int .u8 0, .int .u8 0, .int .u8 0, .int .u8 0, .int .u8 0, .int .u8 0, .int .u8 0, .int .u8 0, .int .u8 0, .int .u8 0, .int .u8 0, .int .u8 0, .int .u8 0, .int .u8 0, .int .u8 0, .int .u8 0, .int .u8 0, .int .u8 0, .int .u8 0, .int .u8 0, .int .u8 0, .int .u8 0, .int .u8 0, .int .u8 0, .int .u8 0, .int .u8 0, .int .u8 0, .int .u8 0, .int .u8 0, .int .u8 0, .slice none 0 0, .slice none 0 0, .string ⟨#[]⟩] 28)))
  rw [if_pos h2, decide_eq_true h2, ht] at K
  obtain ⟨S, hS⟩ : ∃ S, str (a :: b :: c :: r) = S := ⟨_, rfl⟩
  have hz2 : S.size = r.length + 3 := by rw [← hS, str_size]; rfl
  have g0 : (S[0]'(by omega)) = a := by subst hS; rfl
  have g1 : (S[1]'(by omega)) = b := by subst hS; rfl
  have g2 : (S[2]'(by omega)) = c := by subst hS; rfl
  have hcut : S.extract 3 (r.length + 3) = str r := by rw [← hz2]; subst hS; rw [str_ex, str_data]; rfl
  have y0 : (((S[0]'(by omega)).toNat : Int) != 104) = false := by rw [g0, ha]; rfl
  have y1 : (((S[1]'(by omega)).toNat : Int) != 115) = true := by rw [g1]; exact u8_ne (n := 115) (by decide) hb0
  clear hcut
  rw [hS] at K
  clear h2 ht hS g0 g1 g2
  go_enter Tryz.func8, Tryz.ntmps8
  go_wp2_with fail
  refine (unhide K).mono ?_
  rintro e w1 ⟨rfl, hb⟩
  have HB1 := hide (below_grow (unhide HB0) (Nat.le_refl _) hb)
  have HZ1 := hide ((unhide HZ0).after hb)
  clear hb
  go_wp2_with ((with_reducible refine atS27 ?_); (refine store_row (by rfl) 28 (.tmp 2) (.tmp 33) (by rfl) w.heap.size [.int .i64 0, .int .i64 0, .int .i64 0, .int .i64 0, .bool false, .string ⟨#[]⟩, .int .u8 0, .int .u8 0, .int .u8 0, .int .u8 0, .int .u8 0, .int .u8 0, .int .u8 0, .int .u8 0, .int .u8 0, .int .u8 0, .int .u8 0, .int .u8 0, .int .u8 0, .int .u8 0, .int .u8 0, .int .u8 0, .int .u8 0, .int .u8 0, .int .u8 0, .int .u8 0, .int .u8 0, .int .u8 0, .int .u8 0, .int .u8 0, .int .u8 0, .int .u8 0, .int .u8 0, .int .u8 0, .int .u8 0, .int .u8 0, .int .u8 0, .int .u8 0, .slice none 0 0, .slice none 0 0, .string ⟨#[]⟩] (by rfl) (by rfl) 28 mZ (unhide HZ1) 41 sizeM rfl mZ_len (by rw [← mZ_lit]; exact mZ_one) ?_); intro w9 ho9 hr9; have HO9 := hide ho9; have HR9 := hide hr9; clear ho9 hr9)
  refine bodyPost_ret (v := .tuple #[.agg (mL zeroM none 0 none 0).toArray, .int .i64 7]) ?_ rfl ⟨none, 0, none, 0, rfl, Fresh.nil _ _, RProv.none _ _ _, Sl.none _ _, RL.none _ _, ?_⟩
  · have h9 := unhide HR9
    rw [← mZ_lit] at h9
    exact results_msg8 _ _ w.heap.size _ _ rfl rfl h9 mZ_len
  · exact (unhide HB1).trans ((unhide HO9).below (Nat.le_refl _))
set_option maxRecDepth 100000 in
set_option maxHeartbeats 2000000 in
theorem refOpen_c (l : List UInt8) (a b c : UInt8) (r : List UInt8) (h : l.length ≤ 131072) (h2 : Right l) (ht : l.take (l.length - 4) = a :: b :: c :: r) (ha : a = 104) (hb0 : b = 115) (hc0 : ¬ c = 1) (w : World) : Calls Tryz.prog 8 #[.string (str l)] w (ReadMade w (zeroM, 15)) := by
  have HZ0 := hide (at_start w).1
  have HB0 := hide (at_start w).2
  have hz := str_size l
  have K := hide (refCrcOpen_any l (by omega) (w.alloc (.cells #[.int .i64 0, .int .i64 0, .int .i64 0, .int .i64 0, .bool false, .string ⟨#[]⟩, .int .u8 0, .int .u8 0, .int .u8 0, .int .u8 0, .int .u8 0, .int .u8 0, .int .u8 0, .int .u8 0, .int .u8 0, .int .u8 0, .int .u8 0, .int .u8 0, .int .u8 0, .int .u8 0, .int .u8 0, .int .u8 0, .int .u8 0, .int .u8 0, .int .u8 0, .int .u8 0, .int .u8 0, .int .u8 0, .int .u8 0, .int .u8 0, .int .u8 0, .int .u8 0, .int .u8 0, .int .u8 0, .int .u8 0, .int .u8 0, .int .u8 0, .int .u8 0, .slice none 0 0, .slice none 0 0, .string ⟨#[]⟩] 28)))
  rw [if_pos h2, decide_eq_true h2, ht] at K
  obtain ⟨S, hS⟩ : ∃ S, str (a :: b :: c :: r) = S := ⟨_, rfl⟩
  have hz2 : S.size = r.length + 3 := by rw [← hS, str_size]; rfl
  have g0 : (S[0]'(by omega)) = a := by subst hS; rfl
  have g1 : (S[1]'(by omega)) = b := by subst hS; rfl
  have g2 : (S[2]'(by omega)) = c := by subst hS; rfl
  have hcut : S.extract 3 (r.length + 3) = str r := by rw [← hz2]; subst hS; rw [str_ex, str_data]; rfl
  have y0 : (((S[0]'(by omega)).toNat : Int) != 104) = false := by rw [g0, ha]; rfl
  have y1 : (((S[1]'(by omega)).toNat : Int) != 115) = false := by rw [g1, hb0]; rfl
  have y2 : (((S[2]'(by omega)).toNat : Int) != 1) = true := by rw [g2]; exact u8_ne (n := 1) (by decide) hc0
  clear hcut
  rw [hS] at K
  clear h2 ht hS g0 g1 g2
  go_enter Tryz.func8, Tryz.ntmps8
  go_wp2_with fail
  refine (unhide K).mono ?_
  rintro e w1 ⟨rfl, hb⟩
  have HB1 := hide (below_grow (unhide HB0) (Nat.le_refl _) hb)
  have HZ1 := hide ((unhide HZ0).after hb)
  clear hb
  go_wp2_with ((with_reducible refine atS27 ?_); (refine store_row (by rfl) 28 (.tmp 2) (.tmp 37) (by rfl) w.heap.size [.int .i64 0, .int .i64 0, .int .i64 0, .int .i64 0, .bool false, .string ⟨#[]⟩, .int .u8 0, .int .u8 0, .int .u8 0, .int .u8 0, .int .u8 0, .int .u8 0, .int .u8 0, .int .u8 0, .int .u8 0, .int .u8 0, .int .u8 0, .int .u8 0, .int .u8 0, .int .u8 0, .int .u8 0, .int .u8 0, .int .u8 0, .int .u8 0, .int .u8 0, .int .u8 0, .int .u8 0, .int .u8 0, .int .u8 0, .int .u8 0, .int .u8 0, .int .u8 0, .int .u8 0, .int .u8 0, .int .u8 0, .int .u8 0, .int .u8 0, .int .u8 0, .slice none 0 0, .slice none 0 0, .string ⟨#[]⟩] (by rfl) (by rfl) 28 mZ (unhide HZ1) 41 sizeM rfl mZ_len (by rw [← mZ_lit]; exact mZ_one) ?_); intro w9 ho9 hr9; have HO9 := hide ho9; have HR9 := hide hr9; clear ho9 hr9)
  refine bodyPost_ret (v := .tuple #[.agg (mL zeroM none 0 none 0).toArray, .int .i64 15]) ?_ rfl ⟨none, 0, none, 0, rfl, Fresh.nil _ _, RProv.none _ _ _, Sl.none _ _, RL.none _ _, ?_⟩
  · have h9 := unhide HR9
    rw [← mZ_lit] at h9
    exact results_msg8 _ _ w.heap.size _ _ rfl rfl h9 mZ_len
  · exact (unhide HB1).trans ((unhide HO9).below (Nat.le_refl _))
set_option maxRecDepth 100000 in
set_option maxHeartbeats 2000000 in
theorem refOpen_bad (l : List UInt8) (a b c : UInt8) (r : List UInt8) (h : l.length ≤ 131072) (h2 : Right l) (ht : l.take (l.length - 4) = a :: b :: c :: r) (ha : a = 104) (hb0 : b = 115) (hc0 : c = 1) (E : Int) (hE : rDone (rText (r, 0) 131072).2 = E) (hE0 : E ≠ 0) (w : World) : Calls Tryz.prog 8 #[.string (str l)] w (ReadMade w (zeroM, E)) := by
  have HZ0 := hide (at_start w).1
  have HB0 := hide (at_start w).2
  have hz := str_size l
  have K := hide (refCrcOpen_any l (by omega) (w.alloc (.cells #[.int .i64 0, .int .i64 0, .int .i64 0, .int .i64 0, .bool false, .string ⟨#[]⟩, .int .u8 0, .int .u8 0, .int .u8 0, .int .u8 0, .int .u8 0, .int .u8 0, .int .u8 0, .int .u8 0, .int .u8 0, .int .u8 0, .int .u8 0, .int .u8 0, .int .u8 0, .int .u8 0, .int .u8 0, .int .u8 0, .int .u8 0, .int .u8 0, .int .u8 0, .int .u8 0, .int .u8 0, .int .u8 0, .int .u8 0, .int .u8 0, .int .u8 0, .int .u8 0, .int .u8 0, .int .u8 0, .int .u8 0, .int .u8 0, .int .u8 0, .int .u8 0, .slice none 0 0, .slice none 0 0, .string ⟨#[]⟩] 28)))
  rw [if_pos h2, decide_eq_true h2, ht] at K
  obtain ⟨S, hS⟩ : ∃ S, str (a :: b :: c :: r) = S := ⟨_, rfl⟩
  have hz2 : S.size = r.length + 3 := by rw [← hS, str_size]; rfl
  have g0 : (S[0]'(by omega)) = a := by subst hS; rfl
  have g1 : (S[1]'(by omega)) = b := by subst hS; rfl
  have g2 : (S[2]'(by omega)) = c := by subst hS; rfl
  have hcut : S.extract 3 (r.length + 3) = str r := by rw [← hz2]; subst hS; rw [str_ex, str_data]; rfl
  have y0 : (((S[0]'(by omega)).toNat : Int) != 104) = false := by rw [g0, ha]; rfl
  have y1 : (((S[1]'(by omega)).toNat : Int) != 115) = false := by rw [g1, hb0]; rfl
  have y2 : (((S[2]'(by omega)).toNat : Int) != 1) = false := by rw [g2, hc0]; rfl
  have HCUT := hide hcut
  have HLR : Hid (r.length ≤ 50000000) := hide (by
    have h8 := congrArg List.length ht
    simp only [List.length_take, List.length_cons] at h8
    omega)
  clear hcut
  have hne : (E != 0) = true := bne_iff_ne.2 hE0
  have HE := hide hE
  clear hE hE0
  rw [hS] at K
  clear h2 ht hS g0 g1 g2
  go_enter Tryz.func8, Tryz.ntmps8
  go_wp2_with fail
  refine (unhide K).mono ?_
  rintro e w1 ⟨rfl, hb⟩
  have HB1 := hide (below_grow (unhide HB0) (Nat.le_refl _) hb)
  have HZ1 := hide ((unhide HZ0).after hb)
  clear hb
  go_wp2_with fail
  rw [unhide HCUT]
  have HD0 := hide (show Doc (w1.alloc (.cells #[.string (str r), .int .i64 0] 51)) w1.heap.size 51 (r, 0) from VRow.new w1 51 [.string (str r), .int .i64 0])
  have HB1a := hide ((unhide HB1).trans ((below_alloc' (w := w1) (.cells #[.string (str r), .int .i64 0] 51)).mono (unhide HB1).size))
  have HZ1a := hide ((unhide HZ1).alloc (.cells #[.string (str r), .int .i64 0] 51))
  have HW1 : Hid (w.heap.size + 1 ≤ w1.heap.size) := hide (unhide HZ1).lt
  refine (refTextR_any w1.heap.size (r, 0) 131072 (by have h9 := unhide HLR; show r.length ≤ _; omega) _ (unhide HD0)).mono ?_
  rintro e w2 ⟨rfl, hd, hb⟩
  have HD := hide hd
  have HB2 := hide ((unhide HB1a).trans (hb.below (by have := (unhide HB1a).size; omega) (by rintro g rfl; have := unhide HW1; omega)))
  have HZ2 := hide ((unhide HZ1a).beside hb (by have := unhide HW1; omega))
  have HSZ2 : Hid (w.heap.size < w2.heap.size) := hide (unhide HZ2).lt
  have KD := hide (refDoneR_any w1.heap.size (rText (r, 0) 131072).2 w2 hd)
  rw [unhide HE] at KD
  clear hd hb
  go_wp2_with fail
  refine (unhide KD).mono ?_
  rintro e w3 ⟨rfl, rfl⟩
  go_wp2_with ((with_reducible refine atS27 ?_); (refine store_row (by rfl) 28 (.tmp 2) (.tmp 48) (by rfl) w.heap.size [.int .i64 0, .int .i64 0, .int .i64 0, .int .i64 0, .bool false, .string ⟨#[]⟩, .int .u8 0, .int .u8 0, .int .u8 0, .int .u8 0, .int .u8 0, .int .u8 0, .int .u8 0, .int .u8 0, .int .u8 0, .int .u8 0, .int .u8 0, .int .u8 0, .int .u8 0, .int .u8 0, .int .u8 0, .int .u8 0, .int .u8 0, .int .u8 0, .int .u8 0, .int .u8 0, .int .u8 0, .int .u8 0, .int .u8 0, .int .u8 0, .int .u8 0, .int .u8 0, .int .u8 0, .int .u8 0, .int .u8 0, .int .u8 0, .int .u8 0, .int .u8 0, .slice none 0 0, .slice none 0 0, .string ⟨#[]⟩] (by rfl) (by rfl) 28 mZ (unhide HZ2) 41 sizeM rfl mZ_len (by rw [← mZ_lit]; exact mZ_one) ?_); intro w9 ho9 hr9; have HO9 := hide ho9; have HR9 := hide hr9; clear ho9 hr9)
  refine bodyPost_ret (v := .tuple #[.agg (mL zeroM none 0 none 0).toArray, .int .i64 E]) ?_ rfl ⟨none, 0, none, 0, rfl, Fresh.nil _ _, RProv.none _ _ _, Sl.none _ _, RL.none _ _, ?_⟩
  · have h9 := unhide HR9
    rw [← mZ_lit] at h9
    exact results_msg8 _ _ w.heap.size _ _ rfl rfl h9 mZ_len
  · exact (unhide HB2).trans ((unhide HO9).below (Nat.le_refl _))
set_option maxRecDepth 100000 in
set_option maxHeartbeats 2000000 in
theorem refOpen_good (l : List UInt8) (a b c : UInt8) (r : List UInt8) (h : l.length ≤ 131072) (h2 : Right l) (ht : l.take (l.length - 4) = a :: b :: c :: r) (ha : a = 104) (hb0 : b = 115) (hc0 : c = 1) (hE : rDone (rText (r, 0) 131072).2 = 0) (w : World) : Calls Tryz.prog 8 #[.string (str l)] w (ReadMade w (readM ((rText (r, 0) 131072).1, 0))) := by
  have HZ0 := hide (at_start w).1
  have HB0 := hide (at_start w).2
  have hz := str_size l
  have K := hide (refCrcOpen_any l (by omega) (w.alloc (.cells #[.int .i64 0, .int .i64 0, .int .i64 0, .int .i64 0, .bool false, .string ⟨#[]⟩, .int .u8 0, .int .u8 0, .int .u8 0, .int .u8 0, .int .u8 0, .int .u8 0, .int .u8 0, .int .u8 0, .int .u8 0, .int .u8 0, .int .u8 0, .int .u8 0, .int .u8 0, .int .u8 0, .int .u8 0, .int .u8 0, .int .u8 0, .int .u8 0, .int .u8 0, .int .u8 0, .int .u8 0, .int .u8 0, .int .u8 0, .int .u8 0, .int .u8 0, .int .u8 0, .int .u8 0, .int .u8 0, .int .u8 0, .int .u8 0, .int .u8 0, .int .u8 0, .slice none 0 0, .slice none 0 0, .string ⟨#[]⟩] 28)))
  rw [if_pos h2, decide_eq_true h2, ht] at K
  obtain ⟨S, hS⟩ : ∃ S, str (a :: b :: c :: r) = S := ⟨_, rfl⟩
  have hz2 : S.size = r.length + 3 := by rw [← hS, str_size]; rfl
  have g0 : (S[0]'(by omega)) = a := by subst hS; rfl
  have g1 : (S[1]'(by omega)) = b := by subst hS; rfl
  have g2 : (S[2]'(by omega)) = c := by subst hS; rfl
  have hcut : S.extract 3 (r.length + 3) = str r := by rw [← hz2]; subst hS; rw [str_ex, str_data]; rfl
  have y0 : (((S[0]'(by omega)).toNat : Int) != 104) = false := by rw [g0, ha]; rfl
  have y1 : (((S[1]'(by omega)).toNat : Int) != 115) = false := by rw [g1, hb0]; rfl
  have y2 : (((S[2]'(by omega)).toNat : Int) != 1) = false := by rw [g2, hc0]; rfl
  have HCUT := hide hcut
  have HLR : Hid (r.length ≤ 50000000) := hide (by
    have h8 := congrArg List.length ht
    simp only [List.length_take, List.length_cons] at h8
    omega)
  clear hcut
  have HE := hide hE
  have HTL : Hid ((rText (r, 0) 131072).1.length ≤ 131072) := hide (rText_most (r, 0) 131072 (by omega))
  have KR := hide fun W => refRead_any (str (rText (r, 0) 131072).1) (by rw [str_size]; have := unhide HTL; omega) W
  rw [str_data] at KR
  have HF := hide (readM_few ((rText (r, 0) 131072).1, 0))
  generalize readM ((rText (r, 0) 131072).1, 0) = X at KR HF ⊢
  obtain ⟨m, E⟩ := X
  clear hE
  rw [hS] at K
  clear h2 ht hS g0 g1 g2
  go_enter Tryz.func8, Tryz.ntmps8
  go_wp2_with fail
  refine (unhide K).mono ?_
  rintro e w1 ⟨rfl, hb⟩
  have HB1 := hide (below_grow (unhide HB0) (Nat.le_refl _) hb)
  have HZ1 := hide ((unhide HZ0).after hb)
  clear hb
  go_wp2_with fail
  rw [unhide HCUT]
  have HD0 := hide (show Doc (w1.alloc (.cells #[.string (str r), .int .i64 0] 51)) w1.heap.size 51 (r, 0) from VRow.new w1 51 [.string (str r), .int .i64 0])
  have HB1a := hide ((unhide HB1).trans ((below_alloc' (w := w1) (.cells #[.string (str r), .int .i64 0] 51)).mono (unhide HB1).size))
  have HZ1a := hide ((unhide HZ1).alloc (.cells #[.string (str r), .int .i64 0] 51))
  have HW1 : Hid (w.heap.size + 1 ≤ w1.heap.size) := hide (unhide HZ1).lt
  refine (refTextR_any w1.heap.size (r, 0) 131072 (by have h9 := unhide HLR; show r.length ≤ _; omega) _ (unhide HD0)).mono ?_
  rintro e w2 ⟨rfl, hd, hb⟩
  have HD := hide hd
  have HB2 := hide ((unhide HB1a).trans (hb.below (by have := (unhide HB1a).size; omega) (by rintro g rfl; have := unhide HW1; omega)))
  have HZ2 := hide ((unhide HZ1a).beside hb (by have := unhide HW1; omega))
  have HSZ2 : Hid (w.heap.size < w2.heap.size) := hide (unhide HZ2).lt
  have KD := hide (refDoneR_any w1.heap.size (rText (r, 0) 131072).2 w2 hd)
  rw [unhide HE] at KD
  clear hd hb
  go_wp2_with fail
  refine (unhide KD).mono ?_
  rintro e w3 ⟨rfl, rfl⟩
  go_wp2_with fail
  refine (unhide KR _).mono ?_
  rintro e w4 ⟨a4, c4, b4, d4, rfl, h1, h2, h3, h4, hb⟩
  dsimp only at h1 h2 h3 h4 ⊢
  have HX1 := hide h1
  have HX2 := hide h2
  have HX3 := hide h3
  have HX4 := hide h4
  have HB4 := hide (below_grow (unhide HB2) (Nat.le_refl _) hb)
  have HZ4 := hide ((unhide HZ2).after hb)
  have HLN := hide (mL_len (unhide HF).root a4 c4 b4 d4)
  have HON := hide (mL_one m a4 c4 b4 d4)
  clear h1 h2 h3 h4 hb
  go_wp2_with ((with_reducible refine atS27 ?_); (refine store_row (by rfl) 28 (.tmp 2) (.tmp 52) (by rfl) w.heap.size (mL m a4 c4 b4 d4) (by rfl) (by rfl) 28 mZ (unhide HZ4) 41 sizeM (unhide HLN) mZ_len (unhide HON) ?_); intro w9 ho9 hr9; have HO9 := hide ho9; have HR9 := hide hr9; clear ho9 hr9)
  have hlt := unhide HSZ2
  refine bodyPost_ret (v := .tuple #[.agg (mL m a4 c4 b4 d4).toArray, .int .i64 E]) ?_ rfl ⟨a4, c4, b4, d4, rfl, (unhide HX1).weak (m := w.heap.size) (by omega), ((unhide HX2).beside (unhide HX4) (unhide HO9).beside (by omega)).weak (fun g hg => Nat.le_trans (Nat.le_of_lt hlt) hg), ?_, ?_, ?_⟩
  · exact results_msg8 _ _ w.heap.size _ _ rfl rfl (unhide HR9) (unhide HLN)
  · exact (unhide HX3).beside (unhide HO9).beside ((unhide HX1).ne hlt)
  · exact (unhide HX4).beside (unhide HX2) (unhide HO9).beside (by omega)
  · exact (unhide HB4).trans ((unhide HO9).below (Nat.le_refl _))

theorem refOpen_any (l : List UInt8) (w : World) : Calls Tryz.prog 8 #[.string (str l)] w (ReadMade w (openF l)) := by
  unfold openF
  split
  · rename_i h
    exact refOpen_size l h w
  · rename_i h
    unfold fr1
    split
    · rename_i h2
      unfold fr2
      split
      · rename_i h3
        exact refOpen_short l _ (by omega) h2 rfl h3 w
      · rename_i h3
        obtain ⟨a, b, c, r, ht⟩ := three h3
        rw [ht]
        unfold fr3
        by_cases ha : a = 104
        · by_cases hb : b = 115
          · rw [if_pos (by rw [ha, hb]; rfl)]
            show Calls _ _ _ _ (ReadMade w (fr4 (c :: r)))
            unfold fr4
            by_cases hc : c = 1
            · rw [if_pos (by rw [hc]; rfl)]
              show Calls _ _ _ _ (ReadMade w (fr5 r))
              unfold fr5
              split
              · rename_i hE
                exact refOpen_bad l a b c r (by omega) h2 ht ha hb hc _ rfl hE w
              · rename_i hE
                exact refOpen_good l a b c r (by omega) h2 ht ha hb hc (Classical.not_not.1 hE) w
            · rw [if_neg (by intro h9; simp at h9; exact hc h9.symm)]
              exact refOpen_c l a b c r (by omega) h2 ht ha hb hc w
          · rw [if_neg (by intro h9; simp at h9; exact hb h9.2.symm)]
            exact refOpen_b l a b c r (by omega) h2 ht ha hb w
        · rw [if_neg (by intro h9; simp at h9; exact ha h9.1.symm)]
          exact refOpen_a l a b c r (by omega) h2 ht ha w
    · rename_i h2
      exact refOpen_sum l (by omega) h2 w
end Go.Proofs.YthecijjmgfempaaGreat

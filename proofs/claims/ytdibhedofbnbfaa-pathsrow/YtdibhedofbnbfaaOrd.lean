/-
  The walk of the statement that Compare is an order.
-/
import Derived.Test.YtdibhedofbnbfaaName
namespace Go.Proofs.Ytdibhedofbnbfaa
open Go.RowKit

/-- long, at texts that were laid in a row just now. -/
theorem long_new (ss : List ByteArray) (n : Nat) (hn : ss.length = n) (h0 : 0 < n) (h1 : n ≤ 100) (w : World) (T : Nat) (L : Bool) (hL : L = ss.any fun x => decide (400 < x.size)) :
    Calls Try.prog 9 #[.slice (some ⟨w.heap.size, 0, none⟩) n n] (w.alloc (.cells (ss.map Value.string).toArray T)) fun e w' => e = .returned (.bool L) ∧ w' = w.alloc (.cells (ss.map Value.string).toArray T) := by
  subst hn
  refine long_any w.heap.size 0 ss.length ss _ (fun _ => rfl) (by unfold maxLen; omega) _ ?_ L hL
  intro i x hx
  rw [Nat.zero_add]
  exact (VRow.new w T (ss.map Value.string)).cell i _ (by rw [List.getElem?_map, hx]; rfl)

theorem eq_of_cmp (a b : ByteArray) (h : Pt.cmpT a.data.toList b.data.toList = 0) : a.data.toList = b.data.toList := (Pt.cmpT_good.eq _ _).1 h

theorem same_toList (a b : ByteArray) : (a.toList == b.toList) = decide (Pt.cmpT a.data.toList b.data.toList = 0) := by
  rw [Lib.toList_data, Lib.toList_data, Bool.eq_iff_iff, beq_iff_eq, decide_eq_true_eq]
  exact (Pt.cmpT_good.eq _ _).symm

theorem row_cases (a b c : ByteArray) (X Y Z V : Int) (E : Bool) (hX : Pt.cmpT a.data.toList b.data.toList = X) (hY : Pt.cmpT b.data.toList c.data.toList = Y) (hZ : Pt.cmpT a.data.toList c.data.toList = Z)
    (hV : Pt.cmpT b.data.toList a.data.toList = V) (hE : (a.toList == b.toList) = E) :
    (X = 1 ∧ V = -1 ∧ E = false) ∨ (X = 0 ∧ V = 0 ∧ E = true ∧ Y = -1 ∧ Z = -1) ∨ (X = 0 ∧ V = 0 ∧ E = true ∧ Y = 0 ∧ Z = 0) ∨ (X = 0 ∧ V = 0 ∧ E = true ∧ Y = 1) ∨
    (X = -1 ∧ V = 1 ∧ E = false ∧ Y = 1) ∨ (X = -1 ∧ V = 1 ∧ E = false ∧ Y = 0 ∧ Z = -1) ∨ (X = -1 ∧ V = 1 ∧ E = false ∧ Y = -1 ∧ Z = -1) := by
  rw [same_toList, hX] at hE
  have r1 := Pt.cmpT_good.rng a.data.toList b.data.toList
  have r2 := Pt.cmpT_good.rng b.data.toList c.data.toList
  have an := Pt.cmpT_good.anti a.data.toList b.data.toList
  have t := Pt.cmpT_good.tr a.data.toList b.data.toList c.data.toList
  have e1 := eq_of_cmp a b
  have e2 := eq_of_cmp b c
  rw [hX] at r1 an t e1
  rw [hY] at r2 t e2
  rw [hV] at an
  rw [hZ] at t
  rcases r1 with rfl | rfl | rfl
  · have hE' : E = false := by rw [← hE]; rfl
    rcases r2 with rfl | rfl | rfl
    · exact .inr (.inr (.inr (.inr (.inr (.inr ⟨rfl, by omega, hE', rfl, t rfl rfl⟩)))))
    · have := e2 rfl
      rw [← this, hX] at hZ
      exact .inr (.inr (.inr (.inr (.inr (.inl ⟨rfl, by omega, hE', rfl, hZ.symm⟩)))))
    · exact .inr (.inr (.inr (.inr (.inl ⟨rfl, by omega, hE', rfl⟩))))
  · have hE' : E = true := by rw [← hE]; rfl
    have := e1 rfl
    rw [this, hY] at hZ
    rcases r2 with rfl | rfl | rfl
    · exact .inr (.inl ⟨rfl, by omega, hE', rfl, hZ.symm⟩)
    · exact .inr (.inr (.inl ⟨rfl, by omega, hE', rfl, hZ.symm⟩))
    · exact .inr (.inr (.inr (.inl ⟨rfl, by omega, hE', rfl⟩)))
  · exact .inl ⟨rfl, by omega, by rw [← hE]; rfl⟩

set_option maxRecDepth 100000 in
set_option maxHeartbeats 2000000 in
theorem row_walk (a b c : ByteArray) (ha : a.size ≤ maxLen) (hb : b.size ≤ maxLen) (hc : c.size ≤ maxLen) (w : World) :
    Calls Try.prog 8 #[.string a, .string b, .string c] w fun e w' => e = .returned (.bool true) ∧ Below w.heap.size w w' := by
  obtain ⟨X, hX⟩ : ∃ X, Pt.cmpT a.data.toList b.data.toList = X := ⟨_, rfl⟩
  obtain ⟨Y, hY⟩ : ∃ X, Pt.cmpT b.data.toList c.data.toList = X := ⟨_, rfl⟩
  obtain ⟨Z, hZ⟩ : ∃ X, Pt.cmpT a.data.toList c.data.toList = X := ⟨_, rfl⟩
  obtain ⟨V, hV⟩ : ∃ X, Pt.cmpT b.data.toList a.data.toList = X := ⟨_, rfl⟩
  obtain ⟨E, hE⟩ : ∃ E, (a.toList == b.toList) = E := ⟨_, rfl⟩
  have k1 := compare_any a b ha hb
  have k2 := compare_any b c hb hc
  have k3 := compare_any a c ha hc
  have k4 := compare_any b a hb ha
  have hk := row_cases a b c X Y Z V E hX hY hZ hV hE
  rw [hX] at k1
  rw [hY] at k2
  rw [hZ] at k3
  rw [hV] at k4
  have K1 := hide k1
  have K2 := hide k2
  have K3 := hide k3
  have K4 := hide k4
  have KL := hide fun L hL => long_new [a, b, c] 3 rfl (by decide) (by decide) w 9 L hL
  clear hX hY hZ hV k1 k2 k3 k4 ha hb hc
  cases hLL : [a, b, c].any fun x => decide (400 < x.size) with
  | true =>
    have KL2 := hide (unhide KL true hLL.symm)
    clear hLL KL hk hE K1 K2 K3 K4
    go_enter Try.func8, Try.ntmps8
    go_wp2_with fail
    refine (unhide KL2).mono ?_
    rintro e w1 ⟨rfl, rfl⟩
    go_wp2_with fail
    refine (awake_any _).mono ?_
    rintro e w2 ⟨rfl, hb2⟩
    have HB2 := hide (below_grow ((Below.refl w.heap.size w).alloc (Nat.le_refl _) _) (Nat.le_refl _) hb2)
    clear hb2
    go_wp2_with fail
    go_ret
    exact ⟨rfl, unhide HB2⟩
  | false =>
    have KL2 := hide (unhide KL false hLL.symm)
    clear hLL KL
    rcases hk with ⟨rfl, rfl, rfl⟩ | ⟨rfl, rfl, rfl, rfl, rfl⟩ | ⟨rfl, rfl, rfl, rfl, rfl⟩ | ⟨rfl, rfl, rfl, rfl⟩ | ⟨rfl, rfl, rfl, rfl⟩ | ⟨rfl, rfl, rfl, rfl, rfl⟩ | ⟨rfl, rfl, rfl, rfl, rfl⟩
    all_goals
      go_enter Try.func8, Try.ntmps8
      go_wp2_with fail
      refine (unhide KL2).mono ?_
      rintro e w1 ⟨rfl, rfl⟩
      have HB1 := hide ((Below.refl w.heap.size w).alloc (Nat.le_refl _) (.cells ([a, b, c].map Value.string).toArray 9))
      go_wp2_with fail
      refine (unhide K1 _).mono ?_
      rintro e w1 ⟨rfl, n1, rfl⟩
      go_wp2_with fail
      refine (unhide K2 _).mono ?_
      rintro e w1 ⟨rfl, n2, rfl⟩
      go_wp2_with fail
      refine (unhide K3 _).mono ?_
      rintro e w1 ⟨rfl, n3, rfl⟩
      go_wp2_with fail
      refine (unhide K4 _).mono ?_
      rintro e w1 ⟨rfl, n4, rfl⟩
      go_wp2_with fail
      refine (awake_any _).mono ?_
      rintro e w2 ⟨rfl, hb2⟩
      have HB2 := hide (below_grow (below_drewN (unhide HB1) _) (Nat.le_refl _) hb2)
      clear hb2
      go_wp2_with fail
      go_ret
      exact ⟨rfl, unhide HB2⟩
end Go.Proofs.Ytdibhedofbnbfaa

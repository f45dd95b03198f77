/-
  The program's matrix: Stable, Steady.
-/
import Derived.Test.YtbgpdiinkkgieaaP4
import Derived.Test.YtbgpdiinkkgieaaStab
import Derived.Deep.RegionHeld3
namespace Go.Proofs.Ytbgpdiinkkgieaa
open Go.RowKit

set_option maxRecDepth 100000 in
set_option maxHeartbeats 400000 in
theorem nStable_any (w : World) : Calls Try.prog 17 #[.pointer none] w (Made w []) := by
  go_enter Try.func17, Try.ntmps17
  go_wp2_with fail
  refine (nRow_any _ _).mono ?_
  rintro e w1 ⟨r1, c1, rfl, hc1, hs1, hb1⟩
  have HE : Hid (Made w [] (.returned (.slice r1 0 c1)) w1) := hide ⟨r1, c1, rfl, hc1, hs1, hb1⟩
  clear hc1 hs1 hb1
  simp only [List.length_nil]
  go_wp2_with fail
  refine (nPeers_still _).mono ?_
  rintro e w2 ⟨rfl, rfl⟩
  go_wp2_with fail
  go_loopw [3, 4, 9] (fun l _ i wr => i = .int .i64 0 ∧ l = .slice r1 0 c1 ∧ wr = w2) (fun _ _ _ _ => 0)
  case atStart => exact ⟨rfl, rfl, rfl⟩
  case round =>
    obtain ⟨rfl, rfl, rfl⟩ := hrel
    go_wp2_with fail
    go_ret
    exact unhide HE

set_option maxRecDepth 100000 in
set_option maxHeartbeats 2000000 in
theorem stable_any {w : World} {p : Addr} {rows : List (List Vc.D)} {own : Nat → Prop} (h : MatR w p rows own) :
    Calls Try.prog 17 #[.pointer (some p)] w fun e w' => ∃ r c, e = .returned (.slice r (stableL rows).length c) ∧ (stableL rows).length ≤ c ∧ Sl w' r (stableL rows) ∧ Fresh w.heap.size r (stableL rows) ∧ Below w.heap.size w w' := by
  have KP := hide fun W (hW : Below w.heap.size w W) => peers_still (h.after hW)
  have hlen : 0 < rows.length := by obtain ⟨b, g, cap, ps, h⟩ := h; exact h.vecs.2.1
  have KJ := hide (row_fresh h 0 hlen)
  obtain ⟨b, g, cap, ps, h⟩ := h
  obtain rfl := h.at0
  have HM := hide h
  have HX : Hid (∀ S, Met rows rows.length S → S = stableL rows) := hide (fun S hS => hS.all h.vecs.1 h.vecs.2.1)
  generalize stableL rows = ST at HX ⊢
  have hlen2 := h.vecs.2.2
  have HF := hide (Met.first h.vecs.1 hlen)
  generalize rows[0]?.getD [] = D0 at KJ HF
  clear h
  go_enter Try.func17, Try.ntmps17
  go_wp2_with fail
  refine (unhide KJ).mono ?_
  rintro e w1 ⟨r1, c1, rfl, hc1, hs1, hb1, hf1⟩
  have KP1 := hide (unhide KP w1 hb1)
  have HST : Hid (D0.length ≤ c1 ∧ Sl w1 r1 D0 ∧ Fresh w.heap.size r1 D0 ∧ Below w.heap.size w w1) := hide ⟨hc1, hs1, hf1, hb1⟩
  clear hc1 hs1 hb1 hf1 KJ KP
  go_wp2_with fail
  refine (unhide KP1).mono ?_
  rintro e w2 ⟨rfl, rfl⟩
  clear KP1
  go_wp2_with fail
  go_loopw [3, 4, 9] (fun s _ i wr => ∃ (k : Nat) (r : Option Addr) (c : Nat) (S : List Vc.D), k ≤ rows.length ∧ i = .int .i64 k ∧ s = .slice r S.length c ∧ Hid (Met rows k S ∧ S.length ≤ c ∧ Sl wr r S ∧ Fresh w.heap.size r S ∧ Below w.heap.size w wr)) (fun _ _ i _ => rows.length - (intOf i).toNat)
  case atStart => exact ⟨0, r1, c1, D0, Nat.zero_le _, rfl, rfl, hide ⟨unhide HF, unhide HST⟩⟩
  case round =>
    obtain ⟨k, r, c, S, hk, rfl, rfl, HR⟩ := hrel
    by_cases hlt : k < rows.length
    · have hkz : decide ((k : Int) < (rows.length : Int)) = true := decide_eq_true (by omega)
      have hkz2 : (k : Int) < (rows.length : Int) := by omega
      obtain ⟨hmet, hSc, hSl, hSf, hSb⟩ := unhide HR
      have HMr := (unhide HM).keep hSb.size fun x hx => hSb.block x ((unhide HM).lt x hx)
      have x0 := HMr.head
      obtain ⟨r2, c2, x1, hc2, hs2, hl2⟩ := HMr.cell hlt
      have K := hide (meet_fresh r r2 c c2 S (rows[k]?.getD []) (by have := Vc.vec_len hmet.up; omega) (by omega) hSc hc2 wr hSl hs2)
      have HN := hide (hmet.step HMr.vecs.1 hlt)
      have HSB := hide hSb
      generalize Vc.meets S (rows[k]?.getD []) = T at K HN
      generalize rows[k]?.getD [] = D at K x1
      clear hmet hSc hSl hSf hSb HMr hc2 hs2 hl2
      go_wp2_with fail
      refine (unhide K).mono ?_
      rintro e w3 ⟨r3, c3, rfl, hc3, hs3, hb3, hf3⟩
      have HE : Hid (Met rows (k + 1) T ∧ T.length ≤ c3 ∧ Sl w3 r3 T ∧ Fresh w.heap.size r3 T ∧ Below w.heap.size w w3) := hide ⟨unhide HN, hc3, hs3, fun ad e h0 => Nat.le_trans (unhide HSB).size (hf3 ad e h0), below_grow (unhide HSB) (Nat.le_refl _) hb3⟩
      clear hc3 hs3 hb3 hf3 K x0 x1
      go_wp2_with fail
      go_roundw
      case rel => exact ⟨k + 1, r3, c3, T, by omega, by go_num, by rfl, HE⟩
      case measure => simp [intOf]; omega
    · obtain rfl : k = rows.length := by omega
      have hkz : decide ((rows.length : Int) < (rows.length : Int)) = false := decide_eq_false (by omega)
      go_wp2_with fail
      go_ret
      obtain ⟨hmet, hSc, hSl, hSf, hSb⟩ := unhide HR
      obtain rfl := unhide HX S hmet
      exact ⟨r, c, rfl, hSc, hSl, hSf, hSb⟩

set_option maxRecDepth 100000 in
set_option maxHeartbeats 2000000 in
theorem steadyS_any {w : World} {p : Addr} (S : List Vc.D) (hS : S.length ≤ 64) (q c : Int)
    (h : ∀ W, Below w.heap.size w W → Calls Try.prog 17 #[.pointer (some p)] W fun e w' => ∃ r c, e = .returned (.slice r S.length c) ∧ S.length ≤ c ∧ Sl w' r S ∧ Fresh W.heap.size r S ∧ Below W.heap.size W w') :
    Calls Try.prog 19 #[.pointer (some p), .agg #[.int .i64 q, .int .i64 c]] w fun e w' => e = .returned (.bool (has S (q, c))) ∧ Below w.heap.size w w' := by
  have HB1 := hide ((Below.refl w.heap.size w).alloc (Nat.le_refl _) (.cells #[.int .i64 q, .int .i64 c] 24))
  have n0 := new0 w (.int .i64 q) (.int .i64 c) 24
  have n1 := new1 w (.int .i64 q) (.int .i64 c) 24
  have hsz : w.heap.size < (w.alloc (.cells #[.int .i64 q, .int .i64 c] 24)).heap.size := lt_new _ _
  have K1 := hide h
  have K2 := hide fun r' c' W h => has_any r' c' S (by omega) q c W h
  generalize has S (q, c) = B at K2 ⊢
  clear h
  go_enter Try.func19, Try.ntmps19
  go_wp2_with fail
  generalize w.alloc (.cells #[.int .i64 q, .int .i64 c] 24) = w1 at HB1 n0 n1 hsz ⊢
  have SB : Hid (∀ W, Below w1.heap.size w1 W → W.cell? ⟨w.heap.size, 0, none⟩ = some (.int .i64 q) ∧ W.cell? ⟨w.heap.size, 1, none⟩ = some (.int .i64 c) ∧ Below w1.heap.size w1 W) := hide (fun W hW => ⟨(hW.cell (p := ⟨w.heap.size, 0, none⟩) hsz).trans n0, (hW.cell (p := ⟨w.heap.size, 1, none⟩) hsz).trans n1, hW⟩)
  clear n0 n1 hsz
  go_region_held3 (fun w' => w'.cell? ⟨w.heap.size, 0, none⟩ = some (.int .i64 q) ∧ w'.cell? ⟨w.heap.size, 1, none⟩ = some (.int .i64 c) ∧ Below w1.heap.size w1 w')
    (first
      | exact unhide SB _ (below_drew (Below.refl _ _))
      | exact unhide SB _ (below_grow (And.right (And.right (by assumption))) (Nat.le_refl _) (by assumption)))
    (first
      | (go_at_call 17; refine (unhide K1 _ (below_grow (unhide HB1) (Nat.le_refl _) (And.right (And.right (by assumption))))).mono ?_; rintro e w2 ⟨r2, c2, rfl, _, hs2, _, hb2⟩)
      | (go_at_call 30; refine (unhide K2 r2 c2 _ hs2).mono ?_; rintro e w3 ⟨rfl, hb3⟩))
  rename_i hHeld
  have HE := hide (below_grow (unhide HB1) (Nat.le_refl _) hHeld.2.2)
  clear hHeld
  go_wp2_with fail
  go_ret
  exact ⟨rfl, unhide HE⟩

theorem steady_any {w : World} {p : Addr} {rows : List (List Vc.D)} {own : Nat → Prop} (h : MatR w p rows own) (q c : Int) :
    Calls Try.prog 19 #[.pointer (some p), .agg #[.int .i64 q, .int .i64 c]] w fun e w' => e = .returned (.bool (has (stableL rows) (q, c))) ∧ Below w.heap.size w w' :=
  steadyS_any (stableL rows) (stable_is rows).is q c fun _ hW => stable_any (h.after hW)

set_option maxRecDepth 100000 in
set_option maxHeartbeats 2000000 in
theorem nSteady_any (q c : Int) (w : World) : Calls Try.prog 19 #[.pointer none, .agg #[.int .i64 q, .int .i64 c]] w fun e w' => e = .returned (.bool false) ∧ Below w.heap.size w w' := by
  have HB1 := hide ((Below.refl w.heap.size w).alloc (Nat.le_refl _) (.cells #[.int .i64 q, .int .i64 c] 24))
  have n0 := new0 w (.int .i64 q) (.int .i64 c) 24
  have n1 := new1 w (.int .i64 q) (.int .i64 c) 24
  have hsz : w.heap.size < (w.alloc (.cells #[.int .i64 q, .int .i64 c] 24)).heap.size := lt_new _ _
  have hB : has [] (q, c) = false := by unfold has; simp [Vc.get, Vc.check, Vc.chk, Vc.look]; omega
  have K2 := hide fun r' c' W h => has_any r' c' [] (by simp) q c W h
  rw [hB] at K2
  simp only [List.length_nil] at K2
  clear hB
  go_enter Try.func19, Try.ntmps19
  go_wp2_with fail
  generalize w.alloc (.cells #[.int .i64 q, .int .i64 c] 24) = w1 at HB1 n0 n1 hsz ⊢
  have SB : Hid (∀ W, Below w1.heap.size w1 W → W.cell? ⟨w.heap.size, 0, none⟩ = some (.int .i64 q) ∧ W.cell? ⟨w.heap.size, 1, none⟩ = some (.int .i64 c) ∧ Below w1.heap.size w1 W) := hide (fun W hW => ⟨(hW.cell (p := ⟨w.heap.size, 0, none⟩) hsz).trans n0, (hW.cell (p := ⟨w.heap.size, 1, none⟩) hsz).trans n1, hW⟩)
  clear n0 n1 hsz
  go_region_held3 (fun w' => w'.cell? ⟨w.heap.size, 0, none⟩ = some (.int .i64 q) ∧ w'.cell? ⟨w.heap.size, 1, none⟩ = some (.int .i64 c) ∧ Below w1.heap.size w1 w')
    (first
      | exact unhide SB _ (below_drew (Below.refl _ _))
      | exact unhide SB _ (below_grow (And.right (And.right (by assumption))) (Nat.le_refl _) (by assumption)))
    (first
      | (go_at_call 17; refine (nStable_any _).mono ?_; rintro e w2 ⟨r2, c2, rfl, _, hs2, hb2⟩; simp only [List.length_nil])
      | (go_at_call 30; refine (unhide K2 r2 c2 _ hs2).mono ?_; rintro e w3 ⟨rfl, hb3⟩))
  rename_i hHeld
  have HE := hide (below_grow (unhide HB1) (Nat.le_refl _) hHeld.2.2)
  clear hHeld
  go_wp2_with fail
  go_ret
  exact ⟨rfl, unhide HE⟩
end Go.Proofs.Ytbgpdiinkkgieaa

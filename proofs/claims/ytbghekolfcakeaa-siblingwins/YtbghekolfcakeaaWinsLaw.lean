/-
  The walk of the statement on what readers see.
-/
import Derived.Test.YtbghekolfcakeaaChecksLaw
import Derived.Deep.RegionHeld3
import Derived.StillTailTactics
namespace Go.Proofs.Ytbghekolfcakeaa
open Go.RowKit

def Great2s (a b : List Vc.V) (w : World) (e : Ending) (w' : World) : Prop := ∃ B : Bool, e = .returned (.bool B) ∧ w' = w ∧ (B = false → Slight a ∧ b.length ≤ 70)
theorem great2s (w : World) (ra rb : Option Addr) (ca cb : Nat) (a b : List Vc.V) (ha : SV w ra a) (hb : SV w rb b) :
    Calls Try.prog 9 #[.slice (some ⟨w.heap.size, 0, none⟩) 2 2] (w.alloc (.cells #[.slice ra a.length ca, .slice rb b.length cb] 22)) (Great2s a b (w.alloc (.cells #[.slice ra a.length ca, .slice rb b.length cb] 22))) := by
  have hr := VRow.new w 22 [.slice ra a.length ca, .slice rb b.length cb]
  refine (great_any w.heap.size 2 (by decide) (fun j => if j = 0 then ra else rb) (fun j => if j = 0 then ca else cb) (fun j => if j = 0 then a else b) _ (fun j hj => ?_) (fun j hj => ?_)).mono ?_
  · rcases (show j = 0 ∨ j = 1 by omega) with rfl | rfl
    · exact hr.cell 0 _ rfl
    · exact hr.cell 1 _ rfl
  · rcases (show j = 0 ∨ j = 1 by omega) with rfl | rfl
    · exact ha.after (below_alloc' _)
    · exact hb.after (below_alloc' _)
  · rintro e w' ⟨B, h1, h2, h3⟩
    exact ⟨B, h1, h2, fun h => ⟨h3 h 0 (by decide), (h3 h 1 (by decide)).1⟩⟩
theorem win_same {vs : List Vc.V} {v u : Vc.V} {i j : Bool} (h : (i = true ∧ winner vs = some v) ∨ (i = false ∧ winner vs = none ∧ v = zeroV)) (h' : (j = true ∧ winner vs = some u) ∨ (j = false ∧ winner vs = none ∧ u = zeroV)) : v = u ∧ i = j := by
  rcases h with ⟨h1, h2⟩ | ⟨h1, h2, h3⟩
  · rcases h' with ⟨g1, g2⟩ | ⟨g1, g2, g3⟩
    · rw [h2] at g2; injection g2 with g2; exact ⟨g2, by rw [h1, g1]⟩
    · rw [h2] at g2; cases g2
  · rcases h' with ⟨g1, g2⟩ | ⟨g1, g2, g3⟩
    · rw [h2] at g2; cases g2
    · exact ⟨by rw [h3, g3], by rw [h1, g1]⟩
theorem win_past {vs : List Vc.V} {v : Vc.V} {i : Bool} (hs : Few vs) (h : (i = true ∧ winner vs = some v) ∨ (i = false ∧ winner vs = none ∧ v = zeroV)) : v.past.length ≤ 9223372036854775807 := by
  rcases h with ⟨_, h2⟩ | ⟨_, _, h3⟩
  · exact hs.2 v (List.mem_filter.1 (List.mem_of_find?_eq_some h2)).1
  · rw [h3]; simp [zeroV]
theorem few_live {vs : List Vc.V} (h : Few vs) : Few (Vc.live vs) := ⟨Nat.le_trans (List.length_filter_le _ _) h.1, fun v hv => h.2 v (List.mem_filter.1 hv).1⟩

set_option maxRecDepth 100000 in
set_option maxHeartbeats 2000000 in
theorem wins_walk (P : Prg) (ra : Option Addr) (ca : Nat) (a : List Vc.V) (hca : a.length ≤ ca) (ma : Short a) (ml : Light a) (va : Vc.V) (r1 : Option Addr) (c1 : Nat) (h1 : va.past.length ≤ c1) (_m1 : va.past.length ≤ 9223372036854775807) (vb : Vc.V) (r2 : Option Addr) (c2 : Nat) (h2 : vb.past.length ≤ c2) (_m2 : vb.past.length ≤ 9223372036854775807) (w : World) (ha : SV w ra a) (s1 : Sl w r1 va.past) (s2 : Sl w r2 vb.past) :
    Calls Try.prog 5 #[.slice ra a.length ca, .agg (verL va r1 c1).toArray, .agg (verL vb r2 c2).toArray] w fun e w' => e = .returned (.bool true) ∧ Below w.heap.size w w' := by
  unfold verL
  have B1 := hide (below_alloc' (w := w) (.cells #[.int .i64 va.dot.1, .int .i64 va.dot.2, .slice r1 va.past.length c1, .bool va.dead, .string va.data] 27))
  have B2 := hide ((unhide B1).alloc (by simp) (.cells #[.int .i64 vb.dot.1, .int .i64 vb.dot.2, .slice r2 vb.past.length c2, .bool vb.dead, .string vb.data] 27))
  have B3 := hide ((unhide B2).alloc (by simp; omega) (.cells #[.int .i64 va.dot.1, .int .i64 va.dot.2, .slice r1 va.past.length c1, .bool va.dead, .string va.data, .int .i64 vb.dot.1, .int .i64 vb.dot.2, .slice r2 vb.past.length c2, .bool vb.dead, .string vb.data] 27))
  have R1 := hide (((VRow.new w 27 [.int .i64 va.dot.1, .int .i64 va.dot.2, .slice r1 va.past.length c1, .bool va.dead, .string va.data]).alloc (.cells #[.int .i64 vb.dot.1, .int .i64 vb.dot.2, .slice r2 vb.past.length c2, .bool vb.dead, .string vb.data] 27)).alloc (.cells #[.int .i64 va.dot.1, .int .i64 va.dot.2, .slice r1 va.past.length c1, .bool va.dead, .string va.data, .int .i64 vb.dot.1, .int .i64 vb.dot.2, .slice r2 vb.past.length c2, .bool vb.dead, .string vb.data] 27))
  have R2 := hide ((VRow.newAt (W := (w.alloc (.cells #[.int .i64 va.dot.1, .int .i64 va.dot.2, .slice r1 va.past.length c1, .bool va.dead, .string va.data] 27))) (T := 27) (n := w.heap.size + 1) (vs := [.int .i64 vb.dot.1, .int .i64 vb.dot.2, .slice r2 vb.past.length c2, .bool vb.dead, .string vb.data]) (by simp)).alloc (.cells #[.int .i64 va.dot.1, .int .i64 va.dot.2, .slice r1 va.past.length c1, .bool va.dead, .string va.data, .int .i64 vb.dot.1, .int .i64 vb.dot.2, .slice r2 vb.past.length c2, .bool vb.dead, .string vb.data] 27))
  have R3 := hide (VRow.newAt (W := ((w.alloc (.cells #[.int .i64 va.dot.1, .int .i64 va.dot.2, .slice r1 va.past.length c1, .bool va.dead, .string va.data] 27)).alloc (.cells #[.int .i64 vb.dot.1, .int .i64 vb.dot.2, .slice r2 vb.past.length c2, .bool vb.dead, .string vb.data] 27))) (T := 27) (n := w.heap.size + 1 + 1) (vs := [.int .i64 va.dot.1, .int .i64 va.dot.2, .slice r1 va.past.length c1, .bool va.dead, .string va.data, .int .i64 vb.dot.1, .int .i64 vb.dot.2, .slice r2 vb.past.length c2, .bool vb.dead, .string vb.data]) (by simp))
  have KG := hide (great2s (((w.alloc (.cells #[.int .i64 va.dot.1, .int .i64 va.dot.2, .slice r1 va.past.length c1, .bool va.dead, .string va.data] 27)).alloc (.cells #[.int .i64 vb.dot.1, .int .i64 vb.dot.2, .slice r2 vb.past.length c2, .bool vb.dead, .string vb.data] 27)).alloc (.cells #[.int .i64 va.dot.1, .int .i64 va.dot.2, .slice r1 va.past.length c1, .bool va.dead, .string va.data, .int .i64 vb.dot.1, .int .i64 vb.dot.2, .slice r2 vb.past.length c2, .bool vb.dead, .string vb.data] 27)) ra (some ⟨w.heap.size + 1 + 1, 0, none⟩) ca 2 a [va, vb] (ha.after (unhide B3)) (two_sv (T := 27) (unhide R3) h1 h2 (s1.after (unhide B3)) (s2.after (unhide B3))))
  rw [World.size_alloc, World.size_alloc, World.size_alloc, show [va, vb].length = 2 from rfl] at KG
  have HB := hide ((unhide B3).alloc (by simp; omega) (.cells #[.slice ra a.length ca, .slice (some ⟨w.heap.size + 1 + 1, 0, none⟩) 2 2] 22))
  replace R1 := hide ((unhide R1).alloc (.cells #[.slice ra a.length ca, .slice (some ⟨w.heap.size + 1 + 1, 0, none⟩) 2 2] 22))
  replace R2 := hide ((unhide R2).alloc (.cells #[.slice ra a.length ca, .slice (some ⟨w.heap.size + 1 + 1, 0, none⟩) 2 2] 22))
  have SA := hide (ha.after (unhide HB))
  have S1 := hide (s1.after (unhide HB))
  have S2 := hide (s2.after (unhide HB))
  have HMA := hide ma
  have HML := hide ml
  have PR := hide P
  have a0 := ((VRow.new w 27 [.int .i64 va.dot.1, .int .i64 va.dot.2, .slice r1 va.past.length c1, .bool va.dead, .string va.data]).alloc (.cells #[.int .i64 vb.dot.1, .int .i64 vb.dot.2, .slice r2 vb.past.length c2, .bool vb.dead, .string vb.data] 27)).cell 0 _ rfl
  have a1 := ((VRow.new w 27 [.int .i64 va.dot.1, .int .i64 va.dot.2, .slice r1 va.past.length c1, .bool va.dead, .string va.data]).alloc (.cells #[.int .i64 vb.dot.1, .int .i64 vb.dot.2, .slice r2 vb.past.length c2, .bool vb.dead, .string vb.data] 27)).cell 1 _ rfl
  have a2 := ((VRow.new w 27 [.int .i64 va.dot.1, .int .i64 va.dot.2, .slice r1 va.past.length c1, .bool va.dead, .string va.data]).alloc (.cells #[.int .i64 vb.dot.1, .int .i64 vb.dot.2, .slice r2 vb.past.length c2, .bool vb.dead, .string vb.data] 27)).cell 2 _ rfl
  have a3 := ((VRow.new w 27 [.int .i64 va.dot.1, .int .i64 va.dot.2, .slice r1 va.past.length c1, .bool va.dead, .string va.data]).alloc (.cells #[.int .i64 vb.dot.1, .int .i64 vb.dot.2, .slice r2 vb.past.length c2, .bool vb.dead, .string vb.data] 27)).cell 3 _ rfl
  have a4 := ((VRow.new w 27 [.int .i64 va.dot.1, .int .i64 va.dot.2, .slice r1 va.past.length c1, .bool va.dead, .string va.data]).alloc (.cells #[.int .i64 vb.dot.1, .int .i64 vb.dot.2, .slice r2 vb.past.length c2, .bool vb.dead, .string vb.data] 27)).cell 4 _ rfl
  have b0 := (VRow.newAt (W := (w.alloc (.cells #[.int .i64 va.dot.1, .int .i64 va.dot.2, .slice r1 va.past.length c1, .bool va.dead, .string va.data] 27))) (T := 27) (n := w.heap.size + 1) (vs := [.int .i64 vb.dot.1, .int .i64 vb.dot.2, .slice r2 vb.past.length c2, .bool vb.dead, .string vb.data]) (by simp)).cell 0 _ rfl
  have b1 := (VRow.newAt (W := (w.alloc (.cells #[.int .i64 va.dot.1, .int .i64 va.dot.2, .slice r1 va.past.length c1, .bool va.dead, .string va.data] 27))) (T := 27) (n := w.heap.size + 1) (vs := [.int .i64 vb.dot.1, .int .i64 vb.dot.2, .slice r2 vb.past.length c2, .bool vb.dead, .string vb.data]) (by simp)).cell 1 _ rfl
  have b2 := (VRow.newAt (W := (w.alloc (.cells #[.int .i64 va.dot.1, .int .i64 va.dot.2, .slice r1 va.past.length c1, .bool va.dead, .string va.data] 27))) (T := 27) (n := w.heap.size + 1) (vs := [.int .i64 vb.dot.1, .int .i64 vb.dot.2, .slice r2 vb.past.length c2, .bool vb.dead, .string vb.data]) (by simp)).cell 2 _ rfl
  have b3 := (VRow.newAt (W := (w.alloc (.cells #[.int .i64 va.dot.1, .int .i64 va.dot.2, .slice r1 va.past.length c1, .bool va.dead, .string va.data] 27))) (T := 27) (n := w.heap.size + 1) (vs := [.int .i64 vb.dot.1, .int .i64 vb.dot.2, .slice r2 vb.past.length c2, .bool vb.dead, .string vb.data]) (by simp)).cell 3 _ rfl
  have b4 := (VRow.newAt (W := (w.alloc (.cells #[.int .i64 va.dot.1, .int .i64 va.dot.2, .slice r1 va.past.length c1, .bool va.dead, .string va.data] 27))) (T := 27) (n := w.heap.size + 1) (vs := [.int .i64 vb.dot.1, .int .i64 vb.dot.2, .slice r2 vb.past.length c2, .bool vb.dead, .string vb.data]) (by simp)).cell 4 _ rfl
  clear ha s1 s2 ma ml P B1 B2 B3 R3
  go_enter Try.func5, Try.ntmps5
  go_wp2_with fail
  refine (unhide KG).mono ?_
  rintro e w1 ⟨B, rfl, hw, hsmall⟩
  rw [← hw] at HB SA S1 S2 R1 R2
  clear hw KG a0 a1 a2 a3 a4 b0 b1 b2 b3 b4
  cases B with
  | true =>
    go_wp2_with fail
    refine (awake_any (unhide PR) _).mono ?_
    rintro e w9 ⟨rfl, hb⟩
    replace HB := hide (below_grow (unhide HB) (Nat.le_refl _) hb)
    clear hb
    go_wp2_with fail
    go_ret
    exact ⟨rfl, unhide HB⟩
  | false =>
    have FA := hide ((unhide HMA).few (hsmall rfl).1.1)
    have FS : Hid (∀ v ∈ a, v.past.length ≤ 100000) := hide (fun v hv => Nat.le_trans ((hsmall rfl).1.2 (unhide HML) v hv) (by omega))
    clear hsmall
    go_wp2_with fail
    refine ((unhide PR).winner ra ca a (unhide FA) (unhide FS) hca _ (unhide SA)).mono ?_
    rintro e w2 ⟨v, r3, c3, is, rfl, hc3, hs3, hb, hwin⟩
    replace HB := hide (below_grow (unhide HB) (Nat.le_refl _) hb); replace R1 := hide ((unhide R1).after hb); replace R2 := hide ((unhide R2).after hb); replace SA := hide ((unhide SA).after hb); replace S1 := hide ((unhide S1).after hb); replace S2 := hide ((unhide S2).after hb)
    have S3 := hide hs3
    have HWIN := hide hwin
    clear hb hs3 hwin
    go_wp2_with (refine store_row (by rfl) 27 _ _ (by rfl) w2.heap.size (verL v r3 c3) (by rfl) (by rfl) 27 [.int .i64 0, .int .i64 0, .slice none 0 0, .bool false, .string ⟨#[]⟩] (VRow.newAt rfl) 5 size27 rfl rfl (verL_one _ _ _) ?_; intro w3 ho hr; have hb3 := (below_alloc' (w := w2) (.cells #[.int .i64 0, .int .i64 0, .slice none 0 0, .bool false, .string ⟨#[]⟩] 27)).trans (ho.below (Nat.le_refl _)); replace HB := hide (below_grow (unhide HB) (Nat.le_refl _) hb3); replace R1 := hide ((unhide R1).after hb3); replace R2 := hide ((unhide R2).after hb3); replace SA := hide ((unhide SA).after hb3); replace S1 := hide ((unhide S1).after hb3); replace S2 := hide ((unhide S2).after hb3); replace S3 := hide ((unhide S3).after hb3); have R3 := hide hr; clear ho hr hb3)
    generalize w2.heap.size = D3 at R3 ⊢
    refine (refWinner_any ra ca a (unhide FA) _ (unhide SA)).mono ?_
    rintro e w4 ⟨u, r4, c4, is2, rfl, hc4, hs4, hb, hwin⟩
    have hm := win_past (unhide FA) hwin
    obtain ⟨rfl, rfl⟩ := win_same (unhide HWIN) hwin
    replace HB := hide (below_grow (unhide HB) (Nat.le_refl _) hb); replace R1 := hide ((unhide R1).after hb); replace R2 := hide ((unhide R2).after hb); replace R3 := hide ((unhide R3).after hb); replace SA := hide ((unhide SA).after hb); replace S1 := hide ((unhide S1).after hb); replace S2 := hide ((unhide S2).after hb); replace S3 := hide ((unhide S3).after hb)
    have S4 := hide hs4
    clear hb hs4 hwin HWIN
    go_wp2_with (refine store_row (by rfl) 27 _ _ (by rfl) w4.heap.size (verL v r4 c4) (by rfl) (by rfl) 27 [.int .i64 0, .int .i64 0, .slice none 0 0, .bool false, .string ⟨#[]⟩] (VRow.newAt rfl) 5 size27 rfl rfl (verL_one _ _ _) ?_; intro w5 ho hr; have hb5 := (below_alloc' (w := w4) (.cells #[.int .i64 0, .int .i64 0, .slice none 0 0, .bool false, .string ⟨#[]⟩] 27)).trans (ho.below (Nat.le_refl _)); replace HB := hide (below_grow (unhide HB) (Nat.le_refl _) hb5); replace R1 := hide ((unhide R1).after hb5); replace R2 := hide ((unhide R2).after hb5); replace R3 := hide ((unhide R3).after hb5); replace SA := hide ((unhide SA).after hb5); replace S1 := hide ((unhide S1).after hb5); replace S2 := hide ((unhide S2).after hb5); replace S3 := hide ((unhide S3).after hb5); replace S4 := hide ((unhide S4).after hb5); have R4 := hide hr; clear ho hr hb5)
    generalize w4.heap.size = D4 at R4 ⊢
    have K27 := hide fun W h h' => refSameV_any v v r3 r4 c3 c4 hm W h h' true (by simp)
    have K28 := hide fun W h => (unhide PR).live ra ca a (unhide FA) (unhide FS) hca W h
    have K29 := hide fun W h => refLive_any All ra ca a (unhide FA) W (fun _ _ => trivial) h (prov_all _ _ _)
    have FL := hide (few_live (unhide FA))
    have K30 := hide fun W h h' => (unhide PR).wins va vb r1 r2 c1 c2 h1 h2 W h h'
    have K31 := hide fun W => refWins_any va vb r1 r2 c1 c2 W
    unfold verL at K27 K30 K31 R3 R4
    generalize Vc.live a = LV at K28 K29 FL
    generalize winsV va vb = Z at K30 K31
    have hI : (is == is) = true := by simp
    have hZ : (Z == Z) = true := by simp
    have SB : Hid (∀ w', Below w5.heap.size w5 w' → w'.cell? ⟨w.heap.size, 0, none⟩ = some (.int .i64 va.dot.1) ∧ w'.cell? ⟨w.heap.size, 1, none⟩ = some (.int .i64 va.dot.2) ∧ w'.cell? ⟨w.heap.size, 2, none⟩ = some (.slice r1 va.past.length c1) ∧ w'.cell? ⟨w.heap.size, 3, none⟩ = some (.bool va.dead) ∧ w'.cell? ⟨w.heap.size, 4, none⟩ = some (.string va.data) ∧ w'.cell? ⟨w.heap.size + 1, 0, none⟩ = some (.int .i64 vb.dot.1) ∧ w'.cell? ⟨w.heap.size + 1, 1, none⟩ = some (.int .i64 vb.dot.2) ∧ w'.cell? ⟨w.heap.size + 1, 2, none⟩ = some (.slice r2 vb.past.length c2) ∧ w'.cell? ⟨w.heap.size + 1, 3, none⟩ = some (.bool vb.dead) ∧ w'.cell? ⟨w.heap.size + 1, 4, none⟩ = some (.string vb.data) ∧ w'.cell? ⟨D3, 0, none⟩ = some (.int .i64 v.dot.1) ∧ w'.cell? ⟨D3, 1, none⟩ = some (.int .i64 v.dot.2) ∧ w'.cell? ⟨D3, 2, none⟩ = some (.slice r3 v.past.length c3) ∧ w'.cell? ⟨D3, 3, none⟩ = some (.bool v.dead) ∧ w'.cell? ⟨D3, 4, none⟩ = some (.string v.data) ∧ w'.cell? ⟨D4, 0, none⟩ = some (.int .i64 v.dot.1) ∧ w'.cell? ⟨D4, 1, none⟩ = some (.int .i64 v.dot.2) ∧ w'.cell? ⟨D4, 2, none⟩ = some (.slice r4 v.past.length c4) ∧ w'.cell? ⟨D4, 3, none⟩ = some (.bool v.dead) ∧ w'.cell? ⟨D4, 4, none⟩ = some (.string v.data) ∧ Below w5.heap.size w5 w') := hide (fun w' hb => ⟨((unhide R1).after hb).cell 0 _ rfl, ((unhide R1).after hb).cell 1 _ rfl, ((unhide R1).after hb).cell 2 _ rfl, ((unhide R1).after hb).cell 3 _ rfl, ((unhide R1).after hb).cell 4 _ rfl, ((unhide R2).after hb).cell 0 _ rfl, ((unhide R2).after hb).cell 1 _ rfl, ((unhide R2).after hb).cell 2 _ rfl, ((unhide R2).after hb).cell 3 _ rfl, ((unhide R2).after hb).cell 4 _ rfl, ((unhide R3).after hb).cell 0 _ rfl, ((unhide R3).after hb).cell 1 _ rfl, ((unhide R3).after hb).cell 2 _ rfl, ((unhide R3).after hb).cell 3 _ rfl, ((unhide R3).after hb).cell 4 _ rfl, ((unhide R4).after hb).cell 0 _ rfl, ((unhide R4).after hb).cell 1 _ rfl, ((unhide R4).after hb).cell 2 _ rfl, ((unhide R4).after hb).cell 3 _ rfl, ((unhide R4).after hb).cell 4 _ rfl, hb⟩)
    go_wp2_with fail
    go_region_held3 (fun w' => w'.cell? ⟨w.heap.size, 0, none⟩ = some (.int .i64 va.dot.1) ∧ w'.cell? ⟨w.heap.size, 1, none⟩ = some (.int .i64 va.dot.2) ∧ w'.cell? ⟨w.heap.size, 2, none⟩ = some (.slice r1 va.past.length c1) ∧ w'.cell? ⟨w.heap.size, 3, none⟩ = some (.bool va.dead) ∧ w'.cell? ⟨w.heap.size, 4, none⟩ = some (.string va.data) ∧ w'.cell? ⟨w.heap.size + 1, 0, none⟩ = some (.int .i64 vb.dot.1) ∧ w'.cell? ⟨w.heap.size + 1, 1, none⟩ = some (.int .i64 vb.dot.2) ∧ w'.cell? ⟨w.heap.size + 1, 2, none⟩ = some (.slice r2 vb.past.length c2) ∧ w'.cell? ⟨w.heap.size + 1, 3, none⟩ = some (.bool vb.dead) ∧ w'.cell? ⟨w.heap.size + 1, 4, none⟩ = some (.string vb.data) ∧ w'.cell? ⟨D3, 0, none⟩ = some (.int .i64 v.dot.1) ∧ w'.cell? ⟨D3, 1, none⟩ = some (.int .i64 v.dot.2) ∧ w'.cell? ⟨D3, 2, none⟩ = some (.slice r3 v.past.length c3) ∧ w'.cell? ⟨D3, 3, none⟩ = some (.bool v.dead) ∧ w'.cell? ⟨D3, 4, none⟩ = some (.string v.data) ∧ w'.cell? ⟨D4, 0, none⟩ = some (.int .i64 v.dot.1) ∧ w'.cell? ⟨D4, 1, none⟩ = some (.int .i64 v.dot.2) ∧ w'.cell? ⟨D4, 2, none⟩ = some (.slice r4 v.past.length c4) ∧ w'.cell? ⟨D4, 3, none⟩ = some (.bool v.dead) ∧ w'.cell? ⟨D4, 4, none⟩ = some (.string v.data) ∧ Below w5.heap.size w5 w')
      (first
        | exact unhide SB _ (below_drew (Below.refl _ _))
        | exact unhide SB _ (below_grow (And.right (And.right (And.right (And.right (And.right (And.right (And.right (And.right (And.right (And.right (And.right (And.right (And.right (And.right (And.right (And.right (And.right (And.right (And.right (And.right (by assumption))))))))))))))))))))) (Nat.le_refl _) (by assumption)))
      (first
        | (go_at_call 27; refine (unhide K27 _ ((unhide S3).after (And.right (And.right (And.right (And.right (And.right (And.right (And.right (And.right (And.right (And.right (And.right (And.right (And.right (And.right (And.right (And.right (And.right (And.right (And.right (And.right (by assumption)))))))))))))))))))))) ((unhide S4).after (And.right (And.right (And.right (And.right (And.right (And.right (And.right (And.right (And.right (And.right (And.right (And.right (And.right (And.right (And.right (And.right (And.right (And.right (And.right (And.right (by assumption))))))))))))))))))))))).mono ?_; rintro e wa ⟨rfl, hba⟩)
        | (go_at_call 28; refine (unhide K28 _ ((unhide SA).after (And.right (And.right (And.right (And.right (And.right (And.right (And.right (And.right (And.right (And.right (And.right (And.right (And.right (And.right (And.right (And.right (And.right (And.right (And.right (And.right (by assumption))))))))))))))))))))))).mono ?_; rintro e wg ⟨r7, c7, rfl, _, hs7, _, hbg⟩)
        | (go_at_call 29; refine (unhide K29 _ ((unhide SA).after (And.right (And.right (And.right (And.right (And.right (And.right (And.right (And.right (And.right (And.right (And.right (And.right (And.right (And.right (And.right (And.right (And.right (And.right (And.right (And.right (by assumption))))))))))))))))))))))).mono ?_; rintro e wh ⟨r8, c8, rfl, _, hs8, _, hbh⟩; have hs9 := hs7.after hbh)
        | (go_at_call 24; refine (refSameVs_any r7 r8 c7 c8 LV LV (unhide FL) (unhide FL) _ hs9 hs8 true (by simp)).mono ?_; rintro e wi ⟨rfl, hbi⟩)
        | (go_at_call 30; refine (unhide K30 _ ((unhide S1).after (And.right (And.right (And.right (And.right (And.right (And.right (And.right (And.right (And.right (And.right (And.right (And.right (And.right (And.right (And.right (And.right (And.right (And.right (And.right (And.right (by assumption)))))))))))))))))))))) ((unhide S2).after (And.right (And.right (And.right (And.right (And.right (And.right (And.right (And.right (And.right (And.right (And.right (And.right (And.right (And.right (And.right (And.right (And.right (And.right (And.right (And.right (by assumption))))))))))))))))))))))).mono ?_; rintro e we ⟨rfl, hbe⟩)
        | (go_at_call 31; refine (unhide K31 _).mono ?_; rintro e wf ⟨rfl, hbf⟩)
        | (go_at_call 10; refine (awake_any (unhide PR) _).mono ?_; rintro e wj ⟨rfl, hbj⟩))
    all_goals rename_i hHeld
    all_goals have hbz := hHeld.2.2.2.2.2.2.2.2.2.2.2.2.2.2.2.2.2.2.2.2
    all_goals clear hHeld
    all_goals go_wp2_with fail
    all_goals go_ret
    all_goals exact ⟨by first | rfl | simp, below_grow (unhide HB) (Nat.le_refl _) hbz⟩
end Go.Proofs.Ytbghekolfcakeaa

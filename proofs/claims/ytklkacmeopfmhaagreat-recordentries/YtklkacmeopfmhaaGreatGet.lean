/-
  What Get, Has and Size answer, the program's and the document's.
-/
import Derived.Test.YtklkacmeopfmhaaGreatCheck
namespace Go.Proofs.YtklkacmeopfmhaaGreat
open Go.RowKit

theorem look_step (ds : List Vc.D) (k : Nat) (d : Vc.D) (p : Int) (h : ds[k]? = some d) : Vc.look (ds.drop k) p = if d.1 = p then d.2 else Vc.look (ds.drop (k + 1)) p := by
  have hk := (List.getElem?_eq_some_iff.1 h).1
  rw [List.drop_eq_getElem_cons hk, (List.getElem?_eq_some_iff.1 h).2]
  rfl
theorem look_end (ds : List Vc.D) (p : Int) : Vc.look (ds.drop ds.length) p = 0 := by rw [List.drop_length]; rfl

set_option maxRecDepth 100000 in
set_option maxHeartbeats 1000000 in
theorem get_any (a : Option Addr) (cap : Nat) (ds : List Vc.D) (hl : ds.length ≤ 9223372036854775807) (q : Int) (w : World) (h : Sl w a ds) :
    Calls Tryz.prog 96 #[.slice a ds.length cap, .int .i64 q] w fun e w' => e = .returned (.int .i64 (Vc.get ds q)) ∧ Below w.heap.size w w' := by
  have HS := hide h
  have KC := hide (check_any a cap ds hl w h)
  obtain ⟨G, hG⟩ : ∃ G, Vc.get ds q = G := ⟨_, rfl⟩
  rw [hG]
  by_cases hz : Vc.check ds = 0
  · have HC : Hid (G = Vc.look (ds.drop 0) q) := by rw [← hG]; unfold Vc.get; rw [if_pos hz]; exact hide rfl
    rw [hz] at KC
    clear h hG hz
    go_enter Tryz.func96, Tryz.ntmps96
    go_wp2_with (go_at_call 59; refine (unhide KC).mono ?_; rintro e w1 ⟨rfl, hb1⟩; have HB1 := hide hb1; clear hb1)
    go_loopw [12] (fun i wr => ∃ k : Nat, k ≤ ds.length ∧ i = .int .i64 k ∧ G = Vc.look (ds.drop k) q ∧ Below w.heap.size w wr) (fun i _ => ds.length - (intOf i).toNat)
    case atStart => exact ⟨0, Nat.zero_le _, rfl, unhide HC, unhide HB1⟩
    case round =>
      obtain ⟨k, hk, rfl, hc, hb⟩ := hrel
      have HC1 := hide hc
      have HB := hide hb
      clear hc hb HC
      by_cases hlt : k < ds.length
      · obtain ⟨⟨p, c⟩, hd⟩ : ∃ d, ds[k]? = some d := ⟨_, List.getElem?_eq_getElem hlt⟩
        obtain ⟨g, o, rfl, hg, hcell⟩ := unhide HS (by omega)
        have c0 : wr.cell? ⟨g, o + k * 2, none⟩ = some (.int .i64 p) := ((unhide HB).cell (p := ⟨g, o + k * 2, none⟩) hg).trans (hcell k _ hd).1
        have c1 : wr.cell? ⟨g, o + k * 2 + 1, none⟩ = some (.int .i64 c) := ((unhide HB).cell (p := ⟨g, o + k * 2 + 1, none⟩) hg).trans (hcell k _ hd).2
        have HST := hide (look_step ds k (p, c) q hd)
        clear hd hg hcell
        by_cases he : p = q
        · have HNX : Hid (G = c) := by
            have h := unhide HST
            rw [if_pos (show (p, c).1 = q from he)] at h
            exact hide (by rw [unhide HC1, h])
          have heb : (p == q) = true := beq_iff_eq.2 he
          clear he
          go_wp2_with fail
          go_ret
          exact ⟨ret_int (unhide HNX).symm, (unhide HB).alloc (unhide HB).size _⟩
        · have HNX : Hid (G = Vc.look (ds.drop (k + 1)) q) := by
            have h := unhide HST
            rw [if_neg (show ¬ (p, c).1 = q from he)] at h
            exact hide (by rw [unhide HC1, h])
          have heb : (p == q) = false := beq_eq_false_iff_ne.2 he
          clear he
          go_wp2_with fail
          go_roundw
          case rel => exact ⟨k + 1, by omega, by go_num, unhide HNX, (unhide HB).alloc (unhide HB).size _⟩
          case measure => simp [intOf]; omega
      · obtain rfl : k = ds.length := by omega
        have HNX : Hid (G = 0) := by rw [unhide HC1]; exact look_end ds q
        go_wp2_with fail
        go_ret
        exact ⟨ret_int (unhide HNX).symm, unhide HB⟩
  · have HC : Hid (G = 0) := by rw [← hG]; unfold Vc.get; rw [if_neg hz]; exact hide rfl
    have hzb : (Vc.check ds != 0) = true := bne_iff_ne.2 hz
    generalize Vc.check ds = C at *
    clear h hG hz
    go_enter Tryz.func96, Tryz.ntmps96
    go_wp2_with (go_at_call 59; refine (unhide KC).mono ?_; rintro e w1 ⟨rfl, hb1⟩; have HB1 := hide hb1; clear hb1)
    go_ret
    exact ⟨ret_int (unhide HC).symm, unhide HB1⟩

set_option maxRecDepth 100000 in
set_option maxHeartbeats 1000000 in
theorem refGet_any (a : Option Addr) (cap : Nat) (ds : List Vc.D) (hl : ds.length ≤ 9223372036854775807) (q : Int) (w : World) (h : Sl w a ds) :
    Calls Tryz.prog 98 #[.slice a ds.length cap, .int .i64 q] w fun e w' => e = .returned (.int .i64 (Vc.get ds q)) ∧ Below w.heap.size w w' := by
  have HS := hide h
  have KC := hide (refCheck_any a cap ds hl w h)
  obtain ⟨G, hG⟩ : ∃ G, Vc.get ds q = G := ⟨_, rfl⟩
  rw [hG]
  by_cases hz : Vc.check ds = 0
  · have HC : Hid (G = Vc.look (ds.drop 0) q) := by rw [← hG]; unfold Vc.get; rw [if_pos hz]; exact hide rfl
    rw [hz] at KC
    clear h hG hz
    go_enter Tryz.func98, Tryz.ntmps98
    go_wp2_with (go_at_call 69; refine (unhide KC).mono ?_; rintro e w1 ⟨rfl, hb1⟩; have HB1 := hide hb1; clear hb1)
    go_loopw [5] (fun i wr => ∃ k : Nat, k ≤ ds.length ∧ i = .int .i64 k ∧ G = Vc.look (ds.drop k) q ∧ Below w.heap.size w wr) (fun i _ => ds.length - (intOf i).toNat)
    case atStart => exact ⟨0, Nat.zero_le _, rfl, unhide HC, unhide HB1⟩
    case round =>
      obtain ⟨k, hk, rfl, hc, hb⟩ := hrel
      have HC1 := hide hc
      have HB := hide hb
      clear hc hb HC
      by_cases hlt : k < ds.length
      · obtain ⟨⟨p, c⟩, hd⟩ : ∃ d, ds[k]? = some d := ⟨_, List.getElem?_eq_getElem hlt⟩
        obtain ⟨g, o, rfl, hg, hcell⟩ := unhide HS (by omega)
        have c0 : wr.cell? ⟨g, o + k * 2, none⟩ = some (.int .i64 p) := ((unhide HB).cell (p := ⟨g, o + k * 2, none⟩) hg).trans (hcell k _ hd).1
        have c1 : wr.cell? ⟨g, o + k * 2 + 1, none⟩ = some (.int .i64 c) := ((unhide HB).cell (p := ⟨g, o + k * 2 + 1, none⟩) hg).trans (hcell k _ hd).2
        have HST := hide (look_step ds k (p, c) q hd)
        clear hd hg hcell
        by_cases he : p = q
        · have HNX : Hid (G = c) := by
            have h := unhide HST
            rw [if_pos (show (p, c).1 = q from he)] at h
            exact hide (by rw [unhide HC1, h])
          have heb : (p == q) = true := beq_iff_eq.2 he
          clear he
          go_wp2_with fail
          go_ret
          exact ⟨ret_int (unhide HNX).symm, unhide HB⟩
        · have HNX : Hid (G = Vc.look (ds.drop (k + 1)) q) := by
            have h := unhide HST
            rw [if_neg (show ¬ (p, c).1 = q from he)] at h
            exact hide (by rw [unhide HC1, h])
          have heb : (p == q) = false := beq_eq_false_iff_ne.2 he
          clear he
          go_wp2_with fail
          go_roundw
          case rel => exact ⟨k + 1, by omega, by go_num, unhide HNX, unhide HB⟩
          case measure => simp [intOf]; omega
      · obtain rfl : k = ds.length := by omega
        have HNX : Hid (G = 0) := by rw [unhide HC1]; exact look_end ds q
        go_wp2_with fail
        go_ret
        exact ⟨ret_int (unhide HNX).symm, unhide HB⟩
  · have HC : Hid (G = 0) := by rw [← hG]; unfold Vc.get; rw [if_neg hz]; exact hide rfl
    have hzb : (Vc.check ds != 0) = true := bne_iff_ne.2 hz
    generalize Vc.check ds = C at *
    clear h hG hz
    go_enter Tryz.func98, Tryz.ntmps98
    go_wp2_with (go_at_call 69; refine (unhide KC).mono ?_; rintro e w1 ⟨rfl, hb1⟩; have HB1 := hide hb1; clear hb1)
    go_ret
    exact ⟨ret_int (unhide HC).symm, unhide HB1⟩
end Go.Proofs.YtklkacmeopfmhaaGreat

/-
  What Size and Same answer, the program's and the document's.
-/
import Derived.Test.YtpcfblpenealbaaGet
namespace Go.Proofs.Ytpcfblpenealbaa
open Go.RowKit

theorem total_snoc : ∀ (l : List Vc.D) (d : Vc.D), Vc.total (l ++ [d]) = Vc.total l + d.2
  | [], d => by simp [Vc.total]
  | e :: l, d => by
    rw [List.cons_append]
    unfold Vc.total
    rw [total_snoc l d]
    omega
theorem total_step (ds : List Vc.D) (k : Nat) (d : Vc.D) (h : ds[k]? = some d) : Vc.total (ds.take (k + 1)) = Vc.total (ds.take k) + d.2 := by
  have hk := (List.getElem?_eq_some_iff.1 h).1
  rw [List.take_succ_eq_append_getElem hk, (List.getElem?_eq_some_iff.1 h).2, total_snoc]

set_option maxRecDepth 100000 in
set_option maxHeartbeats 1000000 in
theorem size_any (a : Option Addr) (cap : Nat) (ds : List Vc.D) (hl : ds.length ≤ 100000) (w : World) (h : Sl w a ds) :
    Calls Try.prog 39 #[.slice a ds.length cap] w fun e w' => e = .returned (.int .i64 (Vc.size ds)) ∧ Below w.heap.size w w' := by
  have HS := hide h
  have KC := hide (check_any a cap ds hl w h)
  obtain ⟨G, hG⟩ : ∃ G, Vc.size ds = G := ⟨_, rfl⟩
  rw [hG]
  by_cases hz : Vc.check ds = 0
  · have HU := hide ((Vc.check_zero ds).1 hz)
    have HC : Hid (G = Vc.total ds) := by rw [← hG]; unfold Vc.size; rw [if_pos hz]; exact hide rfl
    rw [hz] at KC
    clear h hG hz
    go_enter Try.func39, Try.ntmps39
    go_wp2_with (go_at_call 27; refine (unhide KC).mono ?_; rintro e w1 ⟨rfl, hb1⟩; have HB1 := hide hb1; clear hb1)
    go_loopw [3, 11] (fun s i wr => ∃ (k : Nat) (S : Int), k ≤ ds.length ∧ i = .int .i64 k ∧ s = .int .i64 S ∧ S = Vc.total (ds.take k) ∧ 0 ≤ S ∧ S ≤ 1048576 * (k : Int) ∧ Below w.heap.size w wr) (fun _ i _ => ds.length - (intOf i).toNat)
    case atStart => exact ⟨0, 0, Nat.zero_le _, rfl, rfl, rfl, Int.le_refl _, by simp, unhide HB1⟩
    case round =>
      obtain ⟨k, S, hk, rfl, rfl, hc, hs0, hs1, hb⟩ := hrel
      have HC1 := hide hc
      have HB := hide hb
      clear hc hb
      by_cases hlt : k < ds.length
      · obtain ⟨⟨p, c⟩, hd⟩ : ∃ d, ds[k]? = some d := ⟨_, List.getElem?_eq_getElem hlt⟩
        obtain ⟨g, o, rfl, hg, hcell⟩ := unhide HS (by omega)
        have c0 : wr.cell? ⟨g, o + k * 2, none⟩ = some (.int .i64 p) := ((unhide HB).cell (p := ⟨g, o + k * 2, none⟩) hg).trans (hcell k _ hd).1
        have c1 : wr.cell? ⟨g, o + k * 2 + 1, none⟩ = some (.int .i64 c) := ((unhide HB).cell (p := ⟨g, o + k * 2 + 1, none⟩) hg).trans (hcell k _ hd).2
        have HST := hide (total_step ds k (p, c) hd)
        have hok := Vc.mem_ok (unhide HU) (List.mem_of_getElem? hd)
        obtain ⟨hok1, hok2⟩ : 1 ≤ c ∧ c ≤ 1048576 := hok.2.2
        clear hd hg hcell hok
        go_wp2_with fail
        go_roundw
        case rel => exact ⟨k + 1, S + c, by omega, by go_num, by go_num, by rw [unhide HST, unhide HC1], by omega, by omega, (unhide HB).alloc (unhide HB).size _⟩
        case measure => simp [intOf]; omega
      · obtain rfl : k = ds.length := by omega
        have HNX : Hid (G = S) := hide (by rw [unhide HC, unhide HC1, List.take_length])
        go_wp2_with fail
        go_ret
        exact ⟨ret_int (unhide HNX).symm, unhide HB⟩
  · have HC : Hid (G = 0) := by rw [← hG]; unfold Vc.size; rw [if_neg hz]; exact hide rfl
    have hzb : (Vc.check ds != 0) = true := bne_iff_ne.2 hz
    generalize Vc.check ds = C at *
    clear h hG hz
    go_enter Try.func39, Try.ntmps39
    go_wp2_with (go_at_call 27; refine (unhide KC).mono ?_; rintro e w1 ⟨rfl, hb1⟩; have HB1 := hide hb1; clear hb1)
    go_ret
    exact ⟨ret_int (unhide HC).symm, unhide HB1⟩

set_option maxRecDepth 100000 in
set_option maxHeartbeats 1000000 in
theorem refSize_any (a : Option Addr) (cap : Nat) (ds : List Vc.D) (hl : ds.length ≤ 100000) (w : World) (h : Sl w a ds) :
    Calls Try.prog 40 #[.slice a ds.length cap] w fun e w' => e = .returned (.int .i64 (Vc.size ds)) ∧ Below w.heap.size w w' := by
  have HS := hide h
  have KG := hide fun q w' (h' : Sl w' a ds) => refGet_any a cap ds hl q w' h'
  obtain ⟨f, hf⟩ : ∃ f : Nat → Int, f = fun i : Nat => Vc.get ds (i : Int) := ⟨_, rfl⟩
  have HBD : Hid (∀ k, 0 ≤ f k ∧ f k ≤ 1048576) := hide (fun k => by rw [hf]; exact Vc.get_bd ds _)
  have HG : Hid (∀ k : Nat, Vc.get ds (k : Int) = f k) := hide (fun k => by rw [hf])
  have HC : Hid (∀ n, n = 64 → Vc.sumTo f n = Vc.size ds) := hide (fun n hn => by rw [hn, hf]; exact Vc.ref_size ds)
  generalize Vc.size ds = G at HC ⊢
  clear h hf
  go_enter Try.func40, Try.ntmps40
  go_wp2_with fail
  go_loopw [3, 4] (fun s i wr => ∃ (k : Nat) (S : Int), k ≤ 64 ∧ i = .int .i64 k ∧ s = .int .i64 S ∧ S = Vc.sumTo f k ∧ 0 ≤ S ∧ S ≤ 1048576 * (k : Int) ∧ Below w.heap.size w wr) (fun _ i _ => 64 - (intOf i).toNat)
  case atStart => exact ⟨0, 0, Nat.zero_le _, rfl, rfl, rfl, Int.le_refl _, by simp, Below.refl _ _⟩
  case round =>
    obtain ⟨k, S, hk, rfl, rfl, hc, hs0, hs1, hb⟩ := hrel
    have HC1 := hide hc
    have HB := hide hb
    clear hc hb
    by_cases hlt : k < 64
    · have KG1 := hide (unhide KG (k : Int) wr ((unhide HS).after (unhide HB)))
      rw [unhide HG k] at KG1
      obtain ⟨hf0, hf1⟩ := unhide HBD k
      have HST : Hid (Vc.sumTo f (k + 1) = S + f k) := hide (by rw [unhide HC1]; rfl)
      obtain ⟨F, hF⟩ : ∃ F, f k = F := ⟨_, rfl⟩
      rw [hF] at KG1 hf0 hf1 HST
      clear hF
      go_wp2_with (go_at_call 34; refine (unhide KG1).mono ?_; rintro e w1 ⟨rfl, hb1⟩; have HB1 := hide (below_grow (unhide HB) (Nat.le_refl _) hb1); clear hb1)
      go_roundw
      case rel => exact ⟨k + 1, S + F, by omega, by go_num, by go_num, (unhide HST).symm, by omega, by omega, unhide HB1⟩
      case measure => simp [intOf]; omega
    · have HNX : Hid (G = S) := hide (by rw [unhide HC1, unhide HC k (by omega)])
      go_wp2_with fail
      go_ret
      exact ⟨ret_int (unhide HNX).symm, unhide HB⟩

set_option maxRecDepth 100000 in
set_option maxHeartbeats 1000000 in
theorem refSame_any (a1 a2 : Option Addr) (c1 c2 : Nat) (bs cs : List Vc.D) (hb : bs.length ≤ 100000) (w : World) (h1 : Sl w a1 bs) (h2 : Sl w a2 cs) (D : Bool) (hD : D = true ↔ bs = cs) :
    Calls Try.prog 41 #[.slice a1 bs.length c1, .slice a2 cs.length c2] w fun e w' => e = .returned (.bool D) ∧ Below w.heap.size w w' := by
  have H1 := hide h1
  have H2 := hide h2
  have HD := hide hD
  clear h1 h2 hD
  by_cases hlen : bs.length = cs.length
  · have hlb : ((bs.length : Int) != (cs.length : Int)) = false := by rw [hlen]; simp
    have HLEN := hide hlen
    clear hlen
    obtain ⟨hle1, hle2⟩ : cs.length ≤ bs.length ∧ bs.length ≤ cs.length := by have := unhide HLEN; omega
    go_enter Try.func41, Try.ntmps41
    go_wp2_with fail
    go_loopw [5] (fun i wr => ∃ k q : Nat, k ≤ bs.length ∧ i = .int .i64 k ∧ (∀ j : Nat, j < k → bs[j]? = cs[j]?) ∧ wr = w.drewN q) (fun i _ => bs.length - (intOf i).toNat)
    case atStart => exact ⟨0, 0, Nat.zero_le _, rfl, fun j hj => absurd hj (Nat.not_lt_zero _), rfl⟩
    case round =>
      obtain ⟨k, q, hk, rfl, hall, rfl⟩ := hrel
      have HALL := hide hall
      clear hall
      by_cases hlt : k < bs.length
      · obtain ⟨⟨p, c⟩, hx⟩ : ∃ x, bs[k]? = some x := ⟨_, List.getElem?_eq_getElem hlt⟩
        obtain ⟨⟨p', c'⟩, hy⟩ : ∃ y, cs[k]? = some y := ⟨_, List.getElem?_eq_getElem (by omega)⟩
        obtain ⟨g1, o1, rfl, _, hc1⟩ := unhide H1 (by omega)
        obtain ⟨g2, o2, rfl, _, hc2⟩ := unhide H2 (by omega)
        have e1 : w.cell? ⟨g1, o1 + k * 2, none⟩ = some (.int .i64 p) := (hc1 k _ hx).1
        have e2 : w.cell? ⟨g1, o1 + k * 2 + 1, none⟩ = some (.int .i64 c) := (hc1 k _ hx).2
        have e3 : w.cell? ⟨g2, o2 + k * 2, none⟩ = some (.int .i64 p') := (hc2 k _ hy).1
        have e4 : w.cell? ⟨g2, o2 + k * 2 + 1, none⟩ = some (.int .i64 c') := (hc2 k _ hy).2
        clear hc1 hc2
        have hlt2 : k < cs.length := by omega
        by_cases hpe : p = p'
        · subst hpe
          by_cases hce : c = c'
          · subst hce
            have HALL2 : Hid (∀ j : Nat, j < k + 1 → bs[j]? = cs[j]?) := by
              intro j hj
              by_cases e : j = k
              · subst e; rw [hx, hy]
              · exact unhide HALL j (by omega)
            clear hx hy
            go_wp2_with fail
            go_quiet (fail)
            go_wp2_with fail
            go_roundw
            case rel => exact ⟨k + 1, _, by omega, by go_num, unhide HALL2, rfl⟩
            case measure => simp [intOf]; omega
          · obtain rfl : D = false := by
              cases D with
              | false => rfl
              | true =>
                have := (unhide HD).1 rfl
                rw [this, hy] at hx
                exact absurd (congrArg Prod.snd (Option.some.inj hx)).symm hce
            clear hx hy
            go_wp2_with fail
            go_quiet (fail)
            go_wp2_with fail
            go_ret
            exact ⟨rfl, below_drewN (below_drewN (Below.refl _ _) _) _⟩
        · obtain rfl : D = false := by
            cases D with
            | false => rfl
            | true =>
              have := (unhide HD).1 rfl
              rw [this, hy] at hx
              exact absurd (congrArg Prod.fst (Option.some.inj hx)).symm hpe
          clear hx hy
          go_wp2_with fail
          go_quiet (fail)
          go_wp2_with fail
          go_ret
          exact ⟨rfl, below_drewN (below_drewN (Below.refl _ _) _) _⟩
      · obtain rfl : D = true := by
          rw [unhide HD]
          apply List.ext_getElem?
          intro j
          rcases Nat.lt_or_ge j k with h | h
          · exact unhide HALL j h
          · rw [List.getElem?_eq_none (by omega), List.getElem?_eq_none (by omega)]
        go_wp2_with fail
        go_ret
        exact ⟨rfl, below_drewN (Below.refl _ _) _⟩
  · obtain rfl : D = false := by
      cases D with
      | false => rfl
      | true => exact absurd (congrArg List.length ((unhide HD).1 rfl)) hlen
    have hlb : ((bs.length : Int) != (cs.length : Int)) = true := by rw [bne_iff_ne]; omega
    clear hlen
    go_enter Try.func41, Try.ntmps41
    go_wp2_with fail
    go_ret
    exact ⟨rfl, Below.refl _ _⟩

set_option maxRecDepth 100000 in
set_option maxHeartbeats 1000000 in
theorem equal_any (a1 a2 : Option Addr) (c1 c2 : Nat) (bs cs : List Vc.D) (hb : bs.length ≤ 100000) (w : World) (h1 : Sl w a1 bs) (h2 : Sl w a2 cs) (D : Bool) (hD : D = true ↔ bs = cs) :
    Calls Try.prog 56 #[.slice a1 bs.length c1, .slice a2 cs.length c2] w fun e w' => e = .returned (.bool D) ∧ Below w.heap.size w w' := by
  have H1 := hide h1
  have H2 := hide h2
  have HD := hide hD
  clear h1 h2 hD
  by_cases hlen : bs.length = cs.length
  · have hlb : ((bs.length : Int) != (cs.length : Int)) = false := by rw [hlen]; simp
    have HLEN := hide hlen
    clear hlen
    obtain ⟨hle1, hle2⟩ : cs.length ≤ bs.length ∧ bs.length ≤ cs.length := by have := unhide HLEN; omega
    go_enter Try.func56, Try.ntmps56
    go_wp2_with fail
    go_loopw [13] (fun i wr => ∃ k q : Nat, k ≤ bs.length ∧ i = .int .i64 k ∧ (∀ j : Nat, j < k → bs[j]? = cs[j]?) ∧ wr = w.drewN q) (fun i _ => bs.length - (intOf i).toNat)
    case atStart => exact ⟨0, 0, Nat.zero_le _, rfl, fun j hj => absurd hj (Nat.not_lt_zero _), rfl⟩
    case round =>
      obtain ⟨k, q, hk, rfl, hall, rfl⟩ := hrel
      have HALL := hide hall
      clear hall
      by_cases hlt : k < bs.length
      · obtain ⟨⟨p, c⟩, hx⟩ : ∃ x, bs[k]? = some x := ⟨_, List.getElem?_eq_getElem hlt⟩
        obtain ⟨⟨p', c'⟩, hy⟩ : ∃ y, cs[k]? = some y := ⟨_, List.getElem?_eq_getElem (by omega)⟩
        obtain ⟨g1, o1, rfl, _, hc1⟩ := unhide H1 (by omega)
        obtain ⟨g2, o2, rfl, _, hc2⟩ := unhide H2 (by omega)
        have e1 : w.cell? ⟨g1, o1 + k * 2, none⟩ = some (.int .i64 p) := (hc1 k _ hx).1
        have e2 : w.cell? ⟨g1, o1 + k * 2 + 1, none⟩ = some (.int .i64 c) := (hc1 k _ hx).2
        have e3 : w.cell? ⟨g2, o2 + k * 2, none⟩ = some (.int .i64 p') := (hc2 k _ hy).1
        have e4 : w.cell? ⟨g2, o2 + k * 2 + 1, none⟩ = some (.int .i64 c') := (hc2 k _ hy).2
        clear hc1 hc2
        have hlt2 : k < cs.length := by omega
        by_cases hpe : p = p'
        · subst hpe
          by_cases hce : c = c'
          · subst hce
            have HALL2 : Hid (∀ j : Nat, j < k + 1 → bs[j]? = cs[j]?) := by
              intro j hj
              by_cases e : j = k
              · subst e; rw [hx, hy]
              · exact unhide HALL j (by omega)
            clear hx hy
            go_wp2_with fail
            go_quiet (fail)
            go_wp2_with fail
            go_roundw
            case rel => exact ⟨k + 1, _, by omega, by go_num, unhide HALL2, rfl⟩
            case measure => simp [intOf]; omega
          · obtain rfl : D = false := by
              cases D with
              | false => rfl
              | true =>
                have := (unhide HD).1 rfl
                rw [this, hy] at hx
                exact absurd (congrArg Prod.snd (Option.some.inj hx)).symm hce
            clear hx hy
            go_wp2_with fail
            go_quiet (fail)
            go_wp2_with fail
            go_ret
            exact ⟨rfl, below_drewN (below_drewN (Below.refl _ _) _) _⟩
        · obtain rfl : D = false := by
            cases D with
            | false => rfl
            | true =>
              have := (unhide HD).1 rfl
              rw [this, hy] at hx
              exact absurd (congrArg Prod.fst (Option.some.inj hx)).symm hpe
          clear hx hy
          go_wp2_with fail
          go_quiet (fail)
          go_wp2_with fail
          go_ret
          exact ⟨rfl, below_drewN (below_drewN (Below.refl _ _) _) _⟩
      · obtain rfl : D = true := by
          rw [unhide HD]
          apply List.ext_getElem?
          intro j
          rcases Nat.lt_or_ge j k with h | h
          · exact unhide HALL j h
          · rw [List.getElem?_eq_none (by omega), List.getElem?_eq_none (by omega)]
        go_wp2_with fail
        go_ret
        exact ⟨rfl, below_drewN (Below.refl _ _) _⟩
  · obtain rfl : D = false := by
      cases D with
      | false => rfl
      | true => exact absurd (congrArg List.length ((unhide HD).1 rfl)) hlen
    have hlb : ((bs.length : Int) != (cs.length : Int)) = true := by rw [bne_iff_ne]; omega
    clear hlen
    go_enter Try.func56, Try.ntmps56
    go_wp2_with fail
    go_ret
    exact ⟨rfl, Below.refl _ _⟩

set_option maxRecDepth 100000 in
set_option maxHeartbeats 400000 in
theorem same_any (a1 a2 : Option Addr) (c1 c2 : Nat) (bs cs : List Vc.D) (hb : bs.length ≤ 100000) (w : World) (h1 : Sl w a1 bs) (h2 : Sl w a2 cs) (D : Bool) (hD : D = true ↔ bs = cs) :
    Calls Try.prog 47 #[.slice a1 bs.length c1, .slice a2 cs.length c2] w fun e w' => e = .returned (.bool D) ∧ Below w.heap.size w w' := by
  have K := hide (equal_any a1 a2 c1 c2 bs cs hb w h1 h2 D hD)
  clear h1 h2 hD
  go_enter Try.func47, Try.ntmps47
  go_wp2_with (go_at_call 56; refine (unhide K).mono ?_; rintro e w1 ⟨rfl, hb1⟩; have HB1 := hide hb1; clear hb1)
  go_ret
  exact ⟨rfl, unhide HB1⟩
end Go.Proofs.Ytpcfblpenealbaa

/-
  What counts and vector answer: a vector's counts by peers, and the vector of such counts.
-/
import Derived.Test.YtpcfblpenealbaaParts
namespace Go.Proofs.Ytpcfblpenealbaa
open Go.RowKit

def cntF (f : Int → Int) (n : Nat) : List Value := cnt (fun i : Nat => f (i : Int)) n
theorem cntF_len (f : Int → Int) (n : Nat) : (cntF f n).length = n := cnt_len _ n
theorem cntF_get (f : Int → Int) (n i : Nat) (h : i < n) : (cntF f n)[i]? = some (.int .i64 (f (i : Int))) := cnt_get _ n i h
theorem cntF_one (f : Int → Int) (n : Nat) : ∀ v ∈ cntF f n, v.oneCell' = true := cnt_one _ n
theorem cntF_set (f : Int → Int) (n m : Nat) (c : Int) : (cntF f n).set m (.int .i64 c) = cntF (Vc.upd f (m : Int) c) n := by
  apply List.ext_getElem?
  intro i
  by_cases hi : i < n
  · rw [cntF_get _ n i hi, List.getElem?_set]
    by_cases e : m = i
    · subst e
      simp [cntF_len, hi, Vc.upd]
    · rw [if_neg e, cntF_get _ n i hi]
      unfold Vc.upd
      rw [if_neg (by omega)]
  · rw [List.getElem?_eq_none (by rw [List.length_set, cntF_len]; omega), List.getElem?_eq_none (by rw [cntF_len]; omega)]
theorem cntF_congr (f g : Int → Int) (n : Nat) (h : ∀ q, f q = g q) : cntF f n = cntF g n := by rw [show f = g from funext h]
theorem cntF_zero (n : Nat) (hn : n = 64) : cntF (fun _ => 0) n = zero64 := by
  unfold cntF cnt zero64
  rw [hn]
  rfl

theorem up_before : ∀ {l : List Vc.D} {q : Int} {k : Nat} {d : Vc.D}, Vc.Up q l → l[k]? = some d → ∀ e ∈ l.take k, e.1 < d.1
  | [], _, _, _, _, h, _, _ => by simp at h
  | x :: l, q, 0, d, h, hd, e, he => by simp at he
  | x :: l, q, k + 1, d, h, hd, e, he => by
    have hd' : l[k]? = some d := by simpa using hd
    rw [List.take_succ_cons] at he
    rcases List.mem_cons.1 he with rfl | he
    · exact (Vc.look_mem h.2.2 (List.mem_of_getElem? hd')).2
    · exact up_before h.2.2 hd' e he
theorem look_take {ds : List Vc.D} (h : Vc.Up (-1) ds) {k : Nat} {d : Vc.D} (hd : ds[k]? = some d) (q : Int) : Vc.look (ds.take (k + 1)) q = Vc.upd (Vc.look (ds.take k)) d.1 d.2 q := by
  have hk := (List.getElem?_eq_some_iff.1 hd).1
  rw [List.take_succ_eq_append_getElem hk, (List.getElem?_eq_some_iff.1 hd).2]
  unfold Vc.upd
  by_cases e : q = d.1
  · rw [if_pos e, Vc.look_append _ _ _ fun x hx => by have := up_before h hd x hx; omega, e]
    show (if d.1 = d.1 then d.2 else 0) = d.2
    rw [if_pos rfl]
  · rw [if_neg e, Vc.look_front _ _ _ fun x hx => by rw [List.mem_singleton.1 hx]; exact Ne.symm e]

set_option maxRecDepth 100000 in
set_option maxHeartbeats 1000000 in
theorem counts_any (a : Option Addr) (cap : Nat) (ds : List Vc.D) (hv : Vc.Up (-1) ds) (n : Nat) (hn : n = 64) (w : World) (h : Sl w a ds) :
    Calls Try.prog 28 #[.slice a ds.length cap] w fun e w' => e = .returned (.agg (cntF (Vc.look ds) n).toArray) ∧ Below w.heap.size w w' := by
  have hl := Vc.vec_len hv
  have HV := hide hv
  have HS := hide h
  have HN := hide hn
  have HZ := hide (cntF_zero n hn)
  obtain ⟨vs, hvs⟩ : ∃ vs, cntF (Vc.look ds) n = vs := ⟨_, rfl⟩
  have HL : Hid (vs.length = 64) := hide (by rw [← hvs, cntF_len, hn])
  have H1 : Hid (∀ v ∈ vs, v.oneCell' = true) := hide (by rw [← hvs]; exact cntF_one _ _)
  have HVS := hide hvs
  rw [hvs]
  clear h hv hn hvs
  go_enter Try.func28, Try.ntmps28
  go_wp2_with fail
  go_loopw [7] (fun i wr => ∃ k : Nat, k ≤ ds.length ∧ i = .int .i64 k ∧ VRow wr w.heap.size 54 (cntF (Vc.look (ds.take k)) n) ∧ Below w.heap.size w wr) (fun i _ => ds.length - (intOf i).toNat)
  case atStart =>
    refine ⟨0, Nat.zero_le _, rfl, ?_, (Below.refl _ _).alloc (Nat.le_refl _) _⟩
    rw [show cntF (Vc.look (ds.take 0)) n = zero64 from unhide HZ]
    exact VRow.newAt rfl
  case round =>
    obtain ⟨k, hk, rfl, hrow, hb⟩ := hrel
    have HB := hide hb
    have HR := hide hrow
    clear hb hrow HZ
    by_cases hlt : k < ds.length
    · obtain ⟨⟨p, c⟩, hd⟩ : ∃ d, ds[k]? = some d := ⟨_, List.getElem?_eq_getElem hlt⟩
      have hok := Vc.mem_ok (unhide HV) (List.mem_of_getElem? hd)
      obtain ⟨m, rfl⟩ : ∃ m : Nat, p = (m : Int) := ⟨p.toNat, by unfold Vc.Ok at hok; dsimp only at hok; omega⟩
      have hm : m < 64 := by unfold Vc.Ok at hok; dsimp only at hok; omega
      obtain ⟨g, o, rfl, hg, hcell⟩ := unhide HS (by omega)
      have c0 : wr.cell? ⟨g, o + k * 2, none⟩ = some (.int .i64 m) := ((unhide HB).cell (p := ⟨g, o + k * 2, none⟩) hg).trans (hcell k _ hd).1
      have c1 : wr.cell? ⟨g, o + k * 2 + 1, none⟩ = some (.int .i64 c) := ((unhide HB).cell (p := ⟨g, o + k * 2 + 1, none⟩) hg).trans (hcell k _ hd).2
      have HNX : Hid ((cntF (Vc.look (ds.take k)) n).set m (.int .i64 c) = cntF (Vc.look (ds.take (k + 1))) n) := hide (by
        rw [cntF_set]
        exact cntF_congr _ _ _ fun q => (look_take (unhide HV) hd q).symm)
      have hr1 := (unhide HR).alloc (.cells #[.int .i64 m, .int .i64 c] 26)
      have f0 := hr1.frozen m
      have o0 := hr1.cell m _ (cntF_get _ n m (by have := unhide HN; omega))
      have HR1 := hide hr1
      clear hd hg hcell hok hr1
      generalize Vc.look (ds.take k) (m : Int) = old at o0
      have m0 := new0 wr (.int .i64 m) (.int .i64 c) 26
      have m1 := new1 wr (.int .i64 m) (.int .i64 c) 26
      go_wp2_with fail
      go_roundw
      case rel =>
        refine ⟨k + 1, by omega, by go_num, ?_, ((unhide HB).alloc (unhide HB).size _).setCell (p := ⟨w.heap.size, m, none⟩) (by simp) _⟩
        rw [← unhide HNX]
        exact (unhide HR1).set m _
      case measure => simp [intOf]; omega
    · obtain rfl : k = ds.length := by omega
      rw [List.take_length, unhide HVS] at HR
      go_wp2_with (first
        | (refine load_row (by rfl) 54 _ (by rfl) w.heap.size (by rfl) 54 vs (unhide HR) 64 64 3 Try.underlying54 size54 (unhide HL) ?_)
        | (refine store_row (by rfl) 54 _ _ (by rfl) w.heap.size vs (by rfl) (by rfl) 54 vs (unhide HR) 64 size54 (unhide HL) (unhide HL) (unhide H1) ?_; intro w2 ho2 hr2; have HO2 := hide ho2; have HR2 := hide hr2; clear ho2 hr2))
      refine bodyPost_ret (v := .agg vs.toArray) ?_ rfl ⟨rfl, ?_⟩
      · exact results_cell_row rfl _ _ w.heap.size 54 _ (0, 0) _ rfl (unhide HR2) Try.underlying54 rfl (by rw [size54, List.size_toArray, unhide HL])
      · exact (unhide HB).trans ((unhide HO2).below (Nat.le_refl _))

theorem info3 : (Try.prog.info? 3).map (fun i => (i.zero, i.size, i.bytes)) = some (some (.int .i64 0), 1, 8) := by kernel_rfl
theorem index54 (vs : List Value) (k : Nat) (hk : k < 64) (x : Int) (hx : vs[k]? = some (.int .i64 x)) (w : World) : (Instr.index 54 (.agg vs.toArray) (.int .i64 (k : Int))).run Try.prog w = .ok (.int .i64 x) w := by
  obtain ⟨i0, hi, hz0, hz1, hz2⟩ := info_parts info3
  simp [Instr.index, run_underlying Try.underlying54, asIntOf, sizeOf, typeInfo, hi, hz1, part, hx]
  intro h
  omega

set_option maxRecDepth 100000 in
set_option maxHeartbeats 1000000 in
theorem vector_any (f : Int → Int) (n : Nat) (hn : n = 64) (w : World) : Calls Try.prog 52 #[.agg (cntF f n).toArray] w (Made w (Vc.vecOf f n)) := by
  obtain ⟨i0, hi, hz0, hz1, hz2⟩ := info_parts info26
  obtain ⟨g, hg⟩ : ∃ g : Nat → Int, (fun i : Nat => f (i : Int)) = g := ⟨_, rfl⟩
  have HZ : Hid (Vc.vecOf f n = Vc.ofN g n) := hide (by rw [← hg]; rfl)
  obtain ⟨Z, hZ⟩ : ∃ Z, Vc.vecOf f n = Z := ⟨_, rfl⟩
  rw [hZ] at HZ ⊢
  obtain ⟨vs, hvs⟩ : ∃ vs, cntF f n = vs := ⟨_, rfl⟩
  have HG : Hid (∀ i, i < 64 → vs[i]? = some (.int .i64 (g i))) := hide (by rw [← hvs, ← hg, hn]; exact fun i hi => cntF_get f 64 i hi)
  have HL : Hid (vs.length = 64) := hide (by rw [← hvs, cntF_len, hn])
  have HN := hide hn
  rw [hvs]
  clear hvs hn hg hZ
  go_enter Try.func52, Try.ntmps52
  go_wp2_with (refine load_row (by rfl) 54 _ (by rfl) w.heap.size (by rfl) 54 vs (VRow.newAt rfl) 64 64 3 Try.underlying54 size54 (unhide HL) ?_)
  go_loopw [3, 7] (fun s i wr => ∃ k : Nat, k ≤ 64 ∧ i = .int .i64 k ∧ wr.ownsRow (w.heap.size + 1) 26 2 s (Vc.ofN g k).length (flat (Vc.ofN g k)) ∧ w.heap.size + 1 ≤ wr.heap.size ∧ Below w.heap.size w wr) (fun _ i _ => 64 - (intOf i).toNat)
  case atStart => exact ⟨0, Nat.zero_le _, rfl, World.ownsRow_nil _ _ _ _, by simp, (Below.refl _ _).alloc (Nat.le_refl _) _⟩
  case round =>
    obtain ⟨k, hk, rfl, hown, hs1, hb⟩ := hrel
    have HB := hide hb
    by_cases hlt : k < 64
    · obtain ⟨x, hx⟩ : ∃ x, g k = x := ⟨_, rfl⟩
      have hlen := Vc.ofN_len g k
      have hvx : vs[k]? = some (.int .i64 x) := by rw [← hx]; exact unhide HG k hlt
      have q54 := index54 vs k hlt x hvx
      by_cases hp : 0 < x
      · have HST := hide (ofN_pos g k x hx hp)
        obtain ⟨ds, hds⟩ : ∃ ds, Vc.ofN g k = ds := ⟨_, rfl⟩
        rw [hds] at HST hown hlen
        have HO := hide hown
        clear hds hx hb hown
        go_wp2_with (at_builtin; refine wpList_append_own _ rfl _ _ 22 rfl (w.heap.size + 1) 26 i0 _ 2 16 Try.underlying22 hi hz0 hz1 hz2 rfl (by decide) _ _ _ rfl ((unhide HO).alloc _) ⟨wr.heap.size, 0, none⟩ 1 1 [.int .i64 k, .int .i64 x] rfl rfl (cell_two_new _ _ _ _) (by simp [Value.oneCell']) (by unfold maxLen; omega) (by omega) (by simp; omega) ?_; intro v' w2 hown' hgrow _; have HB2 := hide (grown_below ((unhide HO).alloc _) hgrow (by simp; omega)); have HO2 := hide hown'; clear hgrow hown')
        go_roundw
        case rel =>
          refine ⟨k + 1, by omega, by go_num, ?_, by have := (unhide HB2).size; simp at this; omega, ((unhide HB).alloc (by omega) _).trans ((unhide HB2).mono (by omega))⟩
          rw [unhide HST, List.length_append, flat_append]
          exact unhide HO2
        case measure => simp [intOf]; omega
      · have HST := hide (ofN_zero g k x hx hp)
        have HO := hide hown
        clear hx hb hown
        go_wp2_with fail
        go_roundw
        case rel => exact ⟨k + 1, by omega, by go_num, by rw [unhide HST]; exact unhide HO, by omega, unhide HB⟩
        case measure => simp [intOf]; omega
    · obtain rfl : n = k := by have := unhide HN; omega
      rw [← unhide HZ] at hown
      obtain ⟨r, cap, rfl, hcap, hsl⟩ := own_sl rfl hown
      have HSL := hide hsl
      have HCAP := hide hcap
      clear hsl hcap hown hb
      go_wp2_with fail
      go_ret
      exact ⟨r, cap, rfl, unhide HCAP, unhide HSL, unhide HB⟩
end Go.Proofs.Ytpcfblpenealbaa

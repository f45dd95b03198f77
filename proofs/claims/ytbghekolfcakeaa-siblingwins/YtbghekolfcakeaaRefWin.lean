/-
  What readers see of versions: the document's.
-/
import Derived.Test.YtbghekolfcakeaaRefSame
namespace Go.Proofs.Ytbghekolfcakeaa
open Go.RowKit

def winner (l : List Vc.V) : Option Vc.V := (Vc.live l).find? fun x => !(Vc.live l).any fun y => winsV y x
def zeroV : Vc.V := ⟨(0, 0), [], false, ⟨#[]⟩⟩
def zero27 : List Value := [.int .i64 0, .int .i64 0, .slice none 0 0, .bool false, .string ⟨#[]⟩]
theorem find_at {α : Type} {p : α → Bool} : ∀ {l : List α} {i : Nat} {x : α}, (∀ m y, m < i → l[m]? = some y → p y = false) → l[i]? = some x → p x = true → l.find? p = some x
  | [], i, x, _, h, _ => by simp at h
  | y :: l, 0, x, _, h, hp => by
    simp at h
    subst h
    rw [List.find?_cons, hp]
  | y :: l, i + 1, x, hall, h, hp => by
    rw [List.find?_cons, hall 0 y (by omega) rfl]
    exact find_at (i := i) (fun m z hm hz => hall (m + 1) z (by omega) (by simpa using hz)) (by simpa using h) hp
theorem find_none {α : Type} {p : α → Bool} {l : List α} (h : ∀ m y, m < l.length → l[m]? = some y → p y = false) : l.find? p = none := by
  rw [List.find?_eq_none]
  intro x hx hp
  obtain ⟨m, hm⟩ := List.getElem?_of_mem hx
  rw [h m x (List.getElem?_eq_some_iff.1 hm).1 hm] at hp
  cases hp
/-- What Winner leaves. -/
def WinMade (vs : List Vc.V) (w : World) (e : Ending) (w' : World) : Prop :=
  ∃ (v : Vc.V) (r : Option Addr) (c : Nat) (is : Bool), e = .returned (.tuple #[.agg (verL v r c).toArray, .bool is]) ∧ v.past.length ≤ c ∧ Sl w' r v.past ∧ Below w.heap.size w w' ∧ ((is = true ∧ winner vs = some v) ∨ (is = false ∧ winner vs = none ∧ v = zeroV))
theorem size27 : (Try.prog.info? 27).map (·.size) = some 5 := by kernel_rfl
theorem results_ver {fn : Func} {p q : Tmp} (h : fn.results = #[.cell p 27, .tmp q]) (tmps : Array Value) (w : World) (g : Nat) (vs : List Value) {v : Value}
    (hp : tmps.getD p undef = .pointer (some ⟨g, 0, none⟩)) (hq : tmps.getD q undef = v) (hr : VRow w g 27 vs) (hn : vs.length = 5) : (results fn tmps).run Try.prog w = .ok (.tuple #[.agg vs.toArray, v]) w := by
  rw [results_cell_tmp h, hp, hq]
  simp only [asAddr, Sem.run_pure, Result.andThen_ok, run_loadVar_row w g 27 27 vs.toArray (0, 0) _ hr Try.underlying27 rfl (by rw [size27]; simp [hn])]
theorem Sl.onlyNe {w w' : World} {D : Nat} {r : Option Addr} {ds : List Vc.D} (h : Sl w r ds) (ho : Only D w w') (hne : ∀ ad, r = some ad → 0 < ds.length → ad.block ≠ D) : Sl w' r ds := fun h0 => by
  obtain ⟨g, o, e, hg, hc⟩ := h h0
  have hn : g ≠ D := hne _ e h0
  have e1 : ∀ k, w'.cell? ⟨g, k, Option.none⟩ = w.cell? ⟨g, k, Option.none⟩ := fun k => World.cell?_of_block (w := w) (ho.block g hn)
  refine ⟨g, o, e, by rw [ho.size]; exact hg, fun j d hj => ?_⟩
  rw [e1, e1]
  exact hc j d hj
theorem verL_one (v : Vc.V) (r : Option Addr) (c : Nat) : ∀ x ∈ verL v r c, x.oneCell' = true := by simp [verL, Value.oneCell']

set_option maxRecDepth 100000 in
set_option maxHeartbeats 800000 in
theorem refWinner_any (a : Option Addr) (cap : Nat) (vs : List Vc.V) (hf : Few vs) (w : World) (h : SV w a vs) :
    Calls Try.prog 26 #[.slice a vs.length cap] w (WinMade vs w) := by
  have HB := hide (below_alloc' (w := w) (.cells zero27.toArray 27))
  have RD := hide (VRow.new w 27 zero27)
  have S := hide (h.after (unhide HB))
  have HP : Hid (Prov (fun g => g ≠ w.heap.size) (w.alloc (.cells zero27.toArray 27)) a vs) := hide (Prov.after (h.prov fun g hg => by omega) h (unhide HB))
  have KL := hide (refLive_any (fun g => g ≠ w.heap.size) a cap vs hf (w.alloc (.cells zero27.toArray 27)) (by intro g hg; simp at hg; omega) (unhide S) (unhide HP))
  have hl := hf.1
  have hll : (Vc.live vs).length ≤ 100000 := Nat.le_trans (List.length_filter_le _ _) hl
  obtain ⟨R, hR⟩ : ∃ R, winner vs = R := ⟨_, rfl⟩
  obtain ⟨F, hF⟩ : ∃ F : Vc.V → Bool, (fun x => !(Vc.live vs).any fun y => winsV y x) = F := ⟨_, rfl⟩
  have HF : Hid (∀ x, F x = !(Vc.live vs).any fun y => winsV y x) := hide (fun x => by rw [← hF])
  have HR : Hid ((Vc.live vs).find? F = R) := hide (by rw [← hF]; exact hR)
  have HW := hide hR
  generalize Vc.live vs = LV at KL HF HR hll
  clear h hf hR hF HP S
  unfold zero27 at HB RD KL
  go_enter Try.func26, Try.ntmps26
  go_wp2_with fail
  refine (unhide KL).mono ?_
  rintro e w1 ⟨rL, cL, rfl, hcL, hsL, hpL, hb⟩
  replace HB := hide (below_grow (unhide HB) (Nat.le_refl _) hb)
  replace RD := hide ((unhide RD).after hb)
  have SL := hide hsL
  have PL := hide hpL
  have hD : w.heap.size < w1.heap.size := (unhide RD).lt
  clear hb hsL hpL KL
  go_wp2_with fail
  go_loopw [5] (fun i wr => ∃ k : Nat, k ≤ LV.length ∧ i = .int .i64 k ∧ (∀ m y, m < k → LV[m]? = some y → F y = false) ∧ Below w1.heap.size w1 wr) (fun i _ => LV.length - (intOf i).toNat)
  case atStart => exact ⟨0, Nat.zero_le _, rfl, fun m y hm => absurd hm (Nat.not_lt_zero _), Below.refl _ _⟩
  case round =>
    obtain ⟨k, hk, rfl, hall, hb⟩ := hrel
    have HALL := hide hall
    have HBr := hide hb
    clear hall hb
    by_cases hlt : k < LV.length
    · obtain ⟨v, hx⟩ : ∃ d, LV[k]? = some d := ⟨_, List.getElem?_eq_getElem hlt⟩
      have HX := hide hx
      clear hx
      generalize wr = wa at HBr ⊢
      go_wp2_with fail
      go_loopw [6, 7] (fun x i wr => ∃ m : Nat, m ≤ LV.length ∧ i = .int .i64 m ∧ x = .bool ((LV.take m).any fun y => winsV y v) ∧ Below wa.heap.size wa wr) (fun _ i _ => LV.length - (intOf i).toNat)
      case atStart => exact ⟨0, Nat.zero_le _, rfl, rfl, Below.refl _ _⟩
      case round =>
        obtain ⟨m, hm, rfl, rfl, hb⟩ := hrel
        have HBi := hide hb
        have S := (unhide SL).after (below_grow (unhide HBr) (Nat.le_refl _) hb)
        clear hb
        by_cases hml : m < LV.length
        · obtain ⟨u, hu⟩ : ∃ d, LV[m]? = some d := ⟨_, List.getElem?_eq_getElem hml⟩
          obtain ⟨g, o, rfl, hg, hcell⟩ := S (by omega)
          obtain ⟨q, d, h0, h1, h2, h3, h4, h5, h6⟩ := hcell k v (unhide HX)
          obtain ⟨q', d', h0', h1', h2', h3', h4', h5', h6'⟩ := hcell m u hu
          have x0 := cell_regrown h0
          have x1 := cell_regrown h1
          have x2 := cell_regrown h2
          have x3 := cell_regrown h3
          have x4 := cell_regrown h4
          have y0 := cell_regrown h0'
          have y1 := cell_regrown h1'
          have y2 := cell_regrown h2'
          have y3 := cell_regrown h3'
          have y4 := cell_regrown h4'
          have HNX : Hid (((LV.take (m + 1)).any fun y => winsV y v) = (((LV.take m).any fun y => winsV y v) || winsV u v)) := hide (by rw [take_snocA hu, List.any_append]; simp)
          have K := hide fun W => refWins_any u v q' q d' d W
          unfold verL at K
          clear hcell hu h0 h1 h2 h3 h4 h5 h6 h0' h1' h2' h3' h4' h5' h6' hg
          generalize ((LV.take m).any fun y => winsV y v) = X at HNX ⊢
          generalize winsV u v = Y at HNX K
          cases X with
          | true =>
            rw [Bool.true_or] at HNX
            clear x0 x1 x2 x3 x4 y0 y1 y2 y3 y4 K
            go_wp2_with fail
            go_quiet (fail)
            go_wp2_with fail
            go_roundw
            case rel => exact ⟨m + 1, by omega, by go_num, by rw [unhide HNX], below_drewN (unhide HBi) _⟩
            case measure => simp [intOf]; omega
          | false =>
            rw [Bool.false_or] at HNX
            go_wp2_with fail
            refine wp_region_quiet_below (by kernel_rfl) (by kernel_rfl) ?_
            repeat (quiet_step (first | (go_at_call 31; exact Calls.regrown_of (unhide K _))))
            refine wpQuiet_nil ?_
            intro _ hw'
            obtain ⟨⟨dq, osq⟩, hw''⟩ := hw'
            subst hw''
            go_wp2_with fail
            go_roundw
            case rel => exact ⟨m + 1, by omega, by go_num, by rw [unhide HNX], below_grow (unhide HBi) (Nat.le_refl _) (below_regrown _ _ _)⟩
            case measure => simp [intOf]; omega
        · obtain rfl : m = LV.length := by omega
          have HFv := unhide HF v
          rw [List.take_length]
          have HBj := hide (below_grow (unhide HBr) (Nat.le_refl _) (unhide HBi))
          generalize (LV.any fun y => winsV y v) = X at HFv ⊢
          cases X with
          | true =>
            have HALL2 : Hid (∀ m y, m < k + 1 → LV[m]? = some y → F y = false) := hide (fun j y hj hy => by
              by_cases e : j = k
              · subst e
                rw [unhide HX] at hy
                cases hy
                exact HFv
              · exact unhide HALL j y (by omega) hy)
            clear HFv
            go_wp2_with fail
            go_roundw
            case rel => exact ⟨k + 1, by omega, by go_num, unhide HALL2, unhide HBj⟩
            case measure => simp [intOf]; omega
          | false =>
            have HT : R = some v := by
              rw [← unhide HR]
              exact find_at (unhide HALL) (unhide HX) HFv
            obtain ⟨g, o, rfl, hg, hcell⟩ := S (by omega)
            obtain ⟨q, d, x0, x1, x2, x3, x4, h5, h6⟩ := hcell k v (unhide HX)
            have HNE : Hid (∀ ad, q = some ad → 0 < v.past.length → ad.block ≠ w.heap.size) := hide (fun ad e h0 => by
              obtain ⟨g', o', e', hg', hc'⟩ := unhide SL (by omega)
              injection e' with e'
              injection e' with e1 e2
              subst e1
              subst e2
              exact ((unhide PL (by omega) _ _ rfl).2 k v q d (unhide HX) (by rw [← (unhide HBj).cell (p := ⟨g, o + k * 5 + 2, none⟩) hg']; exact x2)) ad e h0)
            have RDj := hide ((unhide RD).after (unhide HBj))
            have H6 := hide h6
            have H5 := hide h5
            have HWIN : Hid (winner vs = some v) := hide ((unhide HW).trans HT)
            clear hcell h5 h6 HFv HT hg
            go_wp2_with (refine store_row (by rfl) 27 _ _ (by rfl) w.heap.size (verL v q d) (by rfl) (by rfl) 27 _ (unhide RDj) 5 size27 rfl rfl (verL_one _ _ _) ?_; intro wz ho hr; have HO := hide ho; have HR2 := hide hr; clear ho hr)
            refine bodyPost_ret (v := .tuple #[.agg (verL v q d).toArray, .bool true]) (results_ver rfl _ _ _ _ rfl rfl (unhide HR2) rfl) rfl ?_
            exact ⟨v, q, d, true, rfl, unhide H5, (unhide H6).onlyNe (unhide HO) (unhide HNE), (below_grow (unhide HB) (Nat.le_refl _) (unhide HBj)).trans ((unhide HO).below (Nat.le_refl _)), .inl ⟨rfl, unhide HWIN⟩⟩
    · obtain rfl : k = LV.length := by omega
      have HT : Hid (winner vs = none) := hide ((unhide HW).trans (by rw [← unhide HR]; exact find_none (unhide HALL)))
      have RDj := hide ((unhide RD).after (unhide HBr))
      go_wp2_with (refine store_row (by rfl) 27 _ _ (by rfl) w.heap.size (verL zeroV none 0) (by rfl) (by rfl) 27 _ (unhide RDj) 5 size27 rfl rfl (verL_one _ _ _) ?_; intro wz ho hr; have HO := hide ho; have HR2 := hide hr; clear ho hr)
      refine bodyPost_ret (v := .tuple #[.agg (verL zeroV none 0).toArray, .bool false]) (results_ver rfl _ _ _ _ rfl rfl (unhide HR2) rfl) rfl ?_
      exact ⟨zeroV, none, 0, false, rfl, Nat.le_refl _, Sl.none _ _, (below_grow (unhide HB) (Nat.le_refl _) (unhide HBr)).trans ((unhide HO).below (Nat.le_refl _)), .inr ⟨rfl, unhide HT, rfl⟩⟩
end Go.Proofs.Ytbghekolfcakeaa

/-
  What Same answers, the program's and the document's, and slices.Equal.
-/
import Derived.Test.YthecijjmgfempaaGreatRow
import Derived.Lib.QuietBelow
import Derived.Test.YthecijjmgfempaaGreatCShelf
import Derived.Lib.BufferWrite
namespace Go.Proofs.YthecijjmgfempaaGreat
open Go.RowKit

set_option maxRecDepth 100000 in
set_option maxHeartbeats 1000000 in
theorem refSame_any (a1 a2 : Option Addr) (c1 c2 : Nat) (bs cs : List Vc.D) (hb : bs.length ≤ 9223372036854775807) (w : World) (h1 : Sl w a1 bs) (h2 : Sl w a2 cs) (D : Bool) (hD : D = true ↔ bs = cs) :
    Calls Tryz.prog 23 #[.slice a1 bs.length c1, .slice a2 cs.length c2] w fun e w' => e = .returned (.bool D) ∧ Below w.heap.size w w' := by
  have H1 := hide h1
  have H2 := hide h2
  have HD := hide hD
  clear h1 h2 hD
  by_cases hlen : bs.length = cs.length
  · have hlb : ((bs.length : Int) != (cs.length : Int)) = false := by rw [hlen]; simp
    have HLEN := hide hlen
    clear hlen
    obtain ⟨hle1, hle2⟩ : cs.length ≤ bs.length ∧ bs.length ≤ cs.length := by have := unhide HLEN; omega
    go_enter Tryz.func23, Tryz.ntmps23
    go_wp2_with fail
    go_loopw [5] (fun i wr => ∃ k q : Nat, k ≤ bs.length ∧ i = .int .i64 k ∧ (∀ j : Nat, j < k → bs[j]? = cs[j]?) ∧ wr = w.drewN q) (fun i _ => bs.length - (intOf i).toNat)
    case atStart => exact ⟨0, 0, Nat.zero_le _, rfl, fun j hj => absurd hj (Nat.not_lt_zero _), rfl⟩
    case round =>
      obtain ⟨k, q, hk, rfl, hall, rfl⟩ := hrel
      have HALL := hide hall
      clear hall
      by_cases hlt : k < bs.length
      · obtain ⟨⟨p, c⟩, hx⟩ : ∃ x, bs[k]? = some x := ⟨_, List.getElem?_eq_getElem hlt⟩
        obtain ⟨⟨p', c'⟩, hy⟩ : ∃ y, cs[k]? = some y := ⟨_, List.getElem?_eq_getElem (by omega)⟩
        obtain ⟨g1, o1, rfl, _, hc1⟩ := unhide H1 (by omega)
        obtain ⟨g2, o2, rfl, _, hc2⟩ := unhide H2 (by omega)
        have e1 : w.cell? ⟨g1, o1 + k * 2, none⟩ = some (.int .i64 p) := (hc1 k _ hx).1
        have e2 : w.cell? ⟨g1, o1 + k * 2 + 1, none⟩ = some (.int .i64 c) := (hc1 k _ hx).2
        have e3 : w.cell? ⟨g2, o2 + k * 2, none⟩ = some (.int .i64 p') := (hc2 k _ hy).1
        have e4 : w.cell? ⟨g2, o2 + k * 2 + 1, none⟩ = some (.int .i64 c') := (hc2 k _ hy).2
        clear hc1 hc2
        have hlt2 : k < cs.length := by omega
        by_cases hpe : p = p'
        · subst hpe
          by_cases hce : c = c'
          · subst hce
            have HALL2 : Hid (∀ j : Nat, j < k + 1 → bs[j]? = cs[j]?) := by
              intro j hj
              by_cases e : j = k
              · subst e; rw [hx, hy]
              · exact unhide HALL j (by omega)
            clear hx hy
            go_wp2_with fail
            go_quiet (fail)
            go_wp2_with fail
            go_roundw
            case rel => exact ⟨k + 1, _, by omega, by go_num, unhide HALL2, rfl⟩
            case measure => simp [intOf]; omega
          · obtain rfl : D = false := by
              cases D with
              | false => rfl
              | true =>
                have := (unhide HD).1 rfl
                rw [this, hy] at hx
                exact absurd (congrArg Prod.snd (Option.some.inj hx)).symm hce
            clear hx hy
            go_wp2_with fail
            go_quiet (fail)
            go_wp2_with fail
            go_ret
            exact ⟨rfl, below_drewN (below_drewN (Below.refl _ _) _) _⟩
        · obtain rfl : D = false := by
            cases D with
            | false => rfl
            | true =>
              have := (unhide HD).1 rfl
              rw [this, hy] at hx
              exact absurd (congrArg Prod.fst (Option.some.inj hx)).symm hpe
          clear hx hy
          go_wp2_with fail
          go_quiet (fail)
          go_wp2_with fail
          go_ret
          exact ⟨rfl, below_drewN (below_drewN (Below.refl _ _) _) _⟩
      · obtain rfl : D = true := by
          rw [unhide HD]
          apply List.ext_getElem?
          intro j
          rcases Nat.lt_or_ge j k with h | h
          · exact unhide HALL j h
          · rw [List.getElem?_eq_none (by omega), List.getElem?_eq_none (by omega)]
        go_wp2_with fail
        go_ret
        exact ⟨rfl, below_drewN (Below.refl _ _) _⟩
  · obtain rfl : D = false := by
      cases D with
      | false => rfl
      | true => exact absurd (congrArg List.length ((unhide HD).1 rfl)) hlen
    have hlb : ((bs.length : Int) != (cs.length : Int)) = true := by rw [bne_iff_ne]; omega
    clear hlen
    go_enter Tryz.func23, Tryz.ntmps23
    go_wp2_with fail
    go_ret
    exact ⟨rfl, Below.refl _ _⟩

end Go.Proofs.YthecijjmgfempaaGreat

namespace Go.Proofs.YthecijjmgfempaaGreat
open Go.RowKit

/-- A slice of lists of dots, wherever it and they lie. -/
def RL (W : World) (a : Option Addr) (rows : List (List Vc.D)) : Prop :=
  0 < rows.length → ∃ g o, a = some ⟨g, o, none⟩ ∧ g < W.heap.size ∧ ∀ (j : Nat) (ds : List Vc.D), rows[j]? = some ds → ∃ r c, W.cell? ⟨g, o + j, none⟩ = some (.slice r ds.length c) ∧ ds.length ≤ c ∧ Sl W r ds
theorem RL.after {W W' : World} {a : Option Addr} {rows : List (List Vc.D)} (h : RL W a rows) (hb : Below W.heap.size W W') : RL W' a rows := fun h0 => by
  obtain ⟨g, o, e, hg, hc⟩ := h h0
  refine ⟨g, o, e, Nat.lt_of_lt_of_le hg hb.size, fun j ds hj => ?_⟩
  obtain ⟨r, c, h1, h2, h3⟩ := hc j ds hj
  exact ⟨r, c, (hb.cell (p := ⟨g, o + j, Option.none⟩) hg).trans h1, h2, h3.after hb⟩
theorem RL.none (W : World) (a : Option Addr) : RL W a [] := fun h => absurd h (Nat.lt_irrefl _)
/-- Few rows, none too long to be gone through. -/
def FewR (rows : List (List Vc.D)) : Prop := rows.length ≤ 100000 ∧ ∀ ds ∈ rows, ds.length ≤ 9223372036854775807
theorem FewR.at {rows : List (List Vc.D)} (h : FewR rows) {j : Nat} {ds : List Vc.D} (hj : rows[j]? = some ds) : ds.length ≤ 9223372036854775807 := h.2 ds (List.mem_of_getElem? hj)
set_option maxRecDepth 100000 in
set_option maxHeartbeats 1000000 in
theorem refSameR_any (a b : Option Addr) (ca cb : Nat) (us vs : List (List Vc.D)) (hf : FewR us) (hg : FewR vs) (w : World) (ha : RL w a us) (hb : RL w b vs) (D : Bool) (hD : D = true ↔ us = vs) :
    Calls Tryz.prog 24 #[.slice a us.length ca, .slice b vs.length cb] w fun e w' => e = .returned (.bool D) ∧ Below w.heap.size w w' := by
  have HA := hide ha
  have HB := hide hb
  have HF := hide hf
  have HD := hide hD
  have hl := hf.1
  have hl2 := hg.1
  clear ha hb hf hg hD
  by_cases hlen : us.length = vs.length
  · have hbe : ((us.length : Int) != (vs.length : Int)) = false := by simp [hlen]
    have HLEN := hide hlen
    clear hlen
    go_enter Tryz.func24, Tryz.ntmps24
    go_wp2_with fail
    go_loopw [5] (fun i wr => ∃ k : Nat, k ≤ us.length ∧ i = .int .i64 k ∧ us.take k = vs.take k ∧ Below w.heap.size w wr) (fun i _ => us.length - (intOf i).toNat)
    case atStart => exact ⟨0, Nat.zero_le _, rfl, rfl, Below.refl _ _⟩
    case round =>
      obtain ⟨k, hk, rfl, heq, hb⟩ := hrel
      have HEQ := hide heq
      have HBr := hide hb
      have S := (unhide HA).after hb
      have T := (unhide HB).after hb
      clear heq hb
      by_cases hlt : k < us.length
      · have hlt2 : k < vs.length := by have := unhide HLEN; omega
        obtain ⟨x, hx⟩ : ∃ d, us[k]? = some d := ⟨_, List.getElem?_eq_getElem hlt⟩
        obtain ⟨y, hy⟩ : ∃ d, vs[k]? = some d := ⟨_, List.getElem?_eq_getElem hlt2⟩
        obtain ⟨g, o, rfl, hg, hcell⟩ := S (by omega)
        obtain ⟨g', o', rfl, hg', hcell'⟩ := T (by omega)
        obtain ⟨q, d, h0, h5, h6⟩ := hcell k x hx
        obtain ⟨q', d', h0', h5', h6'⟩ := hcell' k y hy
        have x0 := cell_regrown h0
        have y0 := cell_regrown h0'
        have H6 := hide h6
        have H6' := hide h6'
        by_cases hxy : x = y
        · have K := hide fun W h h' => refSame_any q q' d d' x y ((unhide HF).at hx) W h h' true (by simp [hxy])
          have HEQ2 : Hid (us.take (k + 1) = vs.take (k + 1)) := hide (by rw [take_snocA hx, take_snocA hy, unhide HEQ, hxy])
          clear hcell hcell' hx hy h0 h5 h6 h0' h5' h6' hxy
          go_wp2_with fail
          refine wp_region_quiet_below (by kernel_rfl) (by kernel_rfl) ?_
          repeat (quiet_step (first | (go_at_call 23; exact Calls.regrown_of (unhide K _ ((unhide H6).after (below_regrown _ _ _)) ((unhide H6').after (below_regrown _ _ _))))))
          refine wpQuiet_nil ?_
          intro _ hw'
          obtain ⟨⟨dq, osq⟩, hw''⟩ := hw'
          subst hw''
          go_wp2_with fail
          go_roundw
          case rel => exact ⟨k + 1, by omega, by go_num, unhide HEQ2, below_grow (unhide HBr) (Nat.le_refl _) (below_regrown _ _ _)⟩
          case measure => simp [intOf]; omega
        · have K := hide fun W h h' => refSame_any q q' d d' x y ((unhide HF).at hx) W h h' false (by simp [hxy])
          obtain rfl : D = false := by
            cases D with
            | false => rfl
            | true =>
              have e := (unhide HD).1 rfl
              rw [e, hy] at hx
              injection hx with hx
              exact absurd hx.symm hxy
          clear hcell hcell' hx hy h0 h5 h6 h0' h5' h6' hxy
          go_wp2_with fail
          refine wp_region_quiet_below (by kernel_rfl) (by kernel_rfl) ?_
          repeat (quiet_step (first | (go_at_call 23; exact Calls.regrown_of (unhide K _ ((unhide H6).after (below_regrown _ _ _)) ((unhide H6').after (below_regrown _ _ _))))))
          refine wpQuiet_nil ?_
          intro _ hw'
          obtain ⟨⟨dq, osq⟩, hw''⟩ := hw'
          subst hw''
          go_wp2_with fail
          go_ret
          exact ⟨rfl, below_grow (unhide HBr) (Nat.le_refl _) (below_regrown _ _ _)⟩
      · obtain rfl : k = us.length := by omega
        obtain rfl : D = true := (unhide HD).2 (by have h := unhide HEQ; rw [List.take_length, unhide HLEN, List.take_length] at h; exact h)
        go_wp2_with fail
        go_ret
        exact ⟨rfl, unhide HBr⟩
  · have hbe : ((us.length : Int) != (vs.length : Int)) = true := by simp; omega
    obtain rfl : D = false := by
      cases D with
      | false => rfl
      | true => exact absurd (by rw [(unhide HD).1 rfl]) hlen
    go_enter Tryz.func24, Tryz.ntmps24
    go_wp2_with fail
    go_ret
    exact ⟨rfl, Below.refl _ _⟩

end Go.Proofs.YthecijjmgfempaaGreat

namespace Go.Proofs.YthecijjmgfempaaGreat
open Go.RowKit

/-- Where rows lie. -/
def RProv (O : Nat → Prop) (W : World) (a : Option Addr) (rows : List (List Vc.D)) : Prop :=
  0 < rows.length → ∀ g o, a = some ⟨g, o, none⟩ → O g ∧ ∀ (j : Nat) (ds : List Vc.D) (r : Option Addr) (c : Nat), rows[j]? = some ds → W.cell? ⟨g, o + j, none⟩ = some (.slice r ds.length c) → ∀ ad, r = some ad → 0 < ds.length → O ad.block
theorem RProv.any (W : World) (a : Option Addr) (rows : List (List Vc.D)) : RProv (fun _ => True) W a rows := fun _ _ _ _ => ⟨trivial, fun _ _ _ _ _ _ _ _ _ => trivial⟩
theorem RProv.none (O : Nat → Prop) (W : World) (a : Option Addr) : RProv O W a [] := fun h => absurd h (Nat.lt_irrefl _)
theorem RProv.after {O : Nat → Prop} {W W' : World} {a : Option Addr} {rows : List (List Vc.D)} (h : RProv O W a rows) (hs : RL W a rows) (hb : Below W.heap.size W W') : RProv O W' a rows := fun h0 g o e => by
  obtain ⟨h1, h2⟩ := h h0 g o e
  obtain ⟨g', o', e', hg, _⟩ := hs h0
  rw [e] at e'
  injection e' with e'
  injection e' with e1 e2
  subst e1
  exact ⟨h1, fun j ds r c hj hc => h2 j ds r c hj (by rw [← hb.cell (p := ⟨g, o + j, Option.none⟩) hg]; exact hc)⟩
/-- Lists, and where they lie. -/
abbrev RP := List Vc.D × Option Addr × Nat
def flatR (l : List RP) : List Value := l.map fun x => .slice x.2.1 x.1.length x.2.2
theorem rl_list {O : Nat → Prop} {W : World} {g : Nat} : ∀ (rows : List (List Vc.D)) (o : Nat), (∀ (j : Nat) (ds : List Vc.D), rows[j]? = some ds → ∃ r c, W.cell? ⟨g, o + j, none⟩ = some (.slice r ds.length c) ∧ ds.length ≤ c ∧ Sl W r ds) → (∀ (j : Nat) (ds : List Vc.D) (r : Option Addr) (c : Nat), rows[j]? = some ds → W.cell? ⟨g, o + j, none⟩ = some (.slice r ds.length c) → ∀ ad, r = some ad → 0 < ds.length → O ad.block) → ∃ ps : List RP, ps.map (·.1) = rows ∧ (∀ j u, (flatR ps)[j]? = some u → W.cell? ⟨g, o + j, none⟩ = some u) ∧ ∀ x ∈ ps, x.1.length ≤ x.2.2 ∧ Sl W x.2.1 x.1 ∧ ∀ ad, x.2.1 = some ad → 0 < x.1.length → O ad.block
  | [], _, _, _ => ⟨[], rfl, fun j u h => by simp [flatR] at h, fun _ h => by cases h⟩
  | d :: rows, o, h, hp => by
    obtain ⟨r, c, h1, h2, h3⟩ := h 0 d rfl
    have h4 := hp 0 d r c rfl h1
    obtain ⟨ps, e1, e2, e3⟩ := rl_list rows (o + 1) (fun j ds hj => by
      have := h (j + 1) ds (by simpa using hj)
      rw [show o + (j + 1) = o + 1 + j by omega] at this
      exact this) (fun j ds r c hj hc => hp (j + 1) ds r c (by simpa using hj) (by rw [show o + (j + 1) = o + 1 + j by omega]; exact hc))
    refine ⟨(d, r, c) :: ps, by rw [List.map_cons, e1], fun j u hu => ?_, fun x hx => ?_⟩
    · cases j with
      | zero =>
        simp [flatR] at hu
        subst hu
        exact h1
      | succ j =>
        have := e2 j u (by simpa [flatR] using hu)
        rw [show o + 1 + j = o + (j + 1) by omega] at this
        exact this
    · rcases List.mem_cons.1 hx with rfl | hx
      · exact ⟨h2, h3, h4⟩
      · exact e3 x hx
theorem flatR_one (l : List RP) : ∀ v ∈ flatR l, v.oneCell' = true := fun v hv => by
  obtain ⟨x, _, rfl⟩ := List.mem_map.1 hv
  rfl
theorem set_at {α : Type} (l : List α) (p : Nat) (x y : α) (j : Nat) (h : (l.set p x)[j]? = some y) : (j = p ∧ y = x) ∨ (j ≠ p ∧ l[j]? = some y) := by
  by_cases e : j = p
  · subst e
    have hj := (List.getElem?_eq_some_iff.1 h).1
    rw [List.length_set] at hj
    rw [List.getElem?_set_self hj] at h
    injection h with h
    exact .inl ⟨rfl, h.symm⟩
  · rw [List.getElem?_set_ne (fun e' => e e'.symm)] at h
    exact .inr ⟨e, h⟩

end Go.Proofs.YthecijjmgfempaaGreat

namespace Go.Proofs.YthecijjmgfempaaGreat
open Go.RowKit

/-- 'copy(d[:], rest)', d an array of 32 bytes, rest no shorter. -/
theorem copy32 (W : World) (B : Nat) (olds : List Value) (ho : olds.length = 32) (h : VRow W B 24 olds) (b : List UInt8) (hb : 32 ≤ b.length) (ty : TypeId) :
    ∃ W2, (Builtin.copy_ #[39, 9] ty #[.slice (some ⟨B, 0, none⟩) 32 32, .string (str b)]).run Tryz.prog W = .ok (.int .i64 32) W2 ∧ Only B W W2 ∧ VRow W2 B 24 ((b.take 32).map byteVal) := by
  have hnl : ((b.take 32).map byteVal).length = 32 := by rw [List.length_map, List.length_take]; omega
  have hst := run_storeCells_at Tryz.prog B 0 24 ((b.take 32).map byteVal) 0 olds.toArray W h (by rw [hnl]; simp [ho]) (one_bytes _)
  have hcell : olds.toArray.toList.take (0 + 0) ++ (b.take 32).map byteVal ++ olds.toArray.toList.drop (0 + 0 + ((b.take 32).map byteVal).length) = (b.take 32).map byteVal := by
    rw [hnl, List.toList_toArray, List.drop_of_length_le (by omega)]
    simp
  rw [hcell] at hst
  refine ⟨W.setRow B ((b.take 32).map byteVal).toArray, ?_, ⟨rfl, rfl, rfl, by simp, fun j hj => setRow_other W B j _ hj⟩, setRow_heap W B _ _ 24 (0, 0) h⟩
  have hmin : Nat.min (str b).size 32 = 32 := Nat.min_eq_right (by rw [str_size]; exact hb)
  rw [List.map_take] at hst
  have hfn : (byteVal : UInt8 → Value) = fun b => Value.int .u8 (b.toNat : Int) := rfl
  have hdt : (str b).data.toList = b := str_data b
  rw [hfn] at hst
  simp [Builtin.copy_, run_underlying Tryz.underlying39, Builtin.lenOf, Builtin.firstCells, Tryz.sizeOf5, hmin, hst, goInt, hdt, hfn]
theorem step_copy32 {ops : Array Oper} {rest : List Oper} {o : Oper} {a : Act} {w : World} {Q : Exit → Act → World → Prop} (hgd : o.guard = none) (d x : Operand)
    (hop : o.op = .call { callee := .builtin .copy, args := #[d, x], argTypes := #[39, 9] })
    (B : Nat) (hd : a.eval d = .slice (some ⟨B, 0, none⟩) 32 32) (b : List UInt8) (hx : a.eval x = .string (str b)) (olds : List Value) (ho : olds.length = 32) (hr : VRow w B 24 olds) (hb : 32 ≤ b.length)
    (h : ∀ w', Only B w w' → VRow w' B 24 ((b.take 32).map byteVal) → wpList Tryz.prog ops Q rest (a.put o.dst (.int .i64 32)) w') :
    wpList Tryz.prog ops Q (o :: rest) a w := by
  refine wpList_plain hgd fun K hK => ?_
  obtain ⟨w', hrun, h2, h3⟩ := copy32 w B olds ho hr b hb o.type
  unfold Oper.wp execOp
  simp only [hop, resolve, invoke, builtin, Sem.run_bind, Sem.run_pure, Result.andThen_ok, List.map_toArray, List.map_cons, List.map_nil, hd, hx, hrun]
  exact hK _ _ (h w' h2 h3)

theorem results_row50 (tmps : Array Value) (w : World) (g : Nat) (vs : List Value) (a b : Value) (hp : tmps.getD 2 undef = .pointer (some ⟨g, 0, none⟩)) (h3 : tmps.getD 3 undef = a) (h4 : tmps.getD 4 undef = b) (hr : VRow w g 24 vs) (hn : vs.length = 32) :
    (results Tryz.f133 tmps).run Tryz.prog w = .ok (.tuple #[.agg vs.toArray, a, b]) w := by
  have hp' : tmps[2]?.getD undef = .pointer (some ⟨g, 0, none⟩) := by simpa using hp
  have h3' : tmps[3]?.getD undef = a := by simpa using h3
  have h4' : tmps[4]?.getD undef = b := by simpa using h4
  have hl := run_loadVar_row (P := Tryz.prog) w g 24 24 vs.toArray (0, 0) _ hr Tryz.underlying24 rfl (by rw [sizeDg]; simp [hn])
  simp [results, hp', h3', h4', asAddr, hl]
theorem results_row49 (tmps : Array Value) (w : World) (g : Nat) (vs : List Value) (hp : tmps.getD 4 undef = .pointer (some ⟨g, 0, none⟩)) (hr : VRow w g 24 vs) (hn : vs.length = 32) :
    (results Tryz.f132 tmps).run Tryz.prog w = .ok (.agg vs.toArray) w := by
  have hp' : tmps[4]?.getD undef = .pointer (some ⟨g, 0, none⟩) := by simpa using hp
  have hl := run_loadVar_row (P := Tryz.prog) w g 24 24 vs.toArray (0, 0) _ hr Tryz.underlying24 rfl (by rw [sizeDg]; simp [hn])
  simp [results, hp', asAddr, hl]
theorem results_row24 (tmps : Array Value) (w : World) (g : Nat) (vs : List Value) (hp : tmps.getD 2 undef = .pointer (some ⟨g, 0, none⟩)) (hr : VRow w g 24 vs) (hn : vs.length = 32) :
    (results Tryz.f127 tmps).run Tryz.prog w = .ok (.agg vs.toArray) w := by
  have hp' : tmps[2]?.getD undef = .pointer (some ⟨g, 0, none⟩) := by simpa using hp
  have hl := run_loadVar_row (P := Tryz.prog) w g 24 24 vs.toArray (0, 0) _ hr Tryz.underlying24 rfl (by rw [sizeDg]; simp [hn])
  simp [results, hp', asAddr, hl]

theorem below_only {n B : Nat} {a w w' : World} (h : Below n a w) (ho : Only B w w') (hn : n ≤ B) : Below n a w' := h.trans (ho.below hn)
theorem two_below (w : World) (A C : Obj) : Below w.heap.size w ((w.alloc A).alloc C) := ((Below.refl w.heap.size w).alloc (Nat.le_refl _) _).alloc (by simp) _

set_option maxRecDepth 100000 in
set_option maxHeartbeats 1000000 in
theorem digestAhead_short (b : List UInt8) (hb : b.length < 32) (w : World) :
    Calls Tryz.prog 133 #[.string (str b)] w fun e w' => e = .returned (.tuple #[.agg (zero32.map byteVal).toArray, .int .i64 0, .int .i64 5]) ∧ Below w.heap.size w w' := by
  have hz : ((str b).size : Int) < 32 := by rw [str_size]; omega
  generalize str b = S at *
  have HB := hide (two_below w (.cells (zero32.map byteVal).toArray 24) (.cells (zero32.map byteVal).toArray 24))
  go_enter Tryz.func133, Tryz.ntmps133
  go_wp2_with (first
    | (refine load_row (by rfl) 24 (.tmp 5) (by rfl) (w.heap.size + 1) (by rfl) 24 (zero32.map byteVal) (VRow.newAt (by simp)) 32 32 5 Tryz.underlying24 sizeDg (by rfl) ?_)
    | (refine store_row (by rfl) 24 (.tmp 2) (.tmp 9) (by rfl) w.heap.size (zero32.map byteVal) (by rfl) (by rfl) 24 (zero32.map byteVal) ((VRow.new w 24 (zero32.map byteVal)).alloc _) 32 sizeDg rfl rfl (one_bytes _) ?_; intro w2 ho2 hr2; have HR2 := hide hr2; have HO2 := hide ho2; clear ho2 hr2))
  refine bodyPost_ret (v := .tuple #[.agg (zero32.map byteVal).toArray, .int .i64 0, .int .i64 5]) ?_ rfl ⟨rfl, ?_⟩
  · exact results_row50 _ _ w.heap.size _ _ _ rfl rfl rfl (unhide HR2) rfl
  · exact below_only (unhide HB) (unhide HO2) (Nat.le_refl _)

set_option maxRecDepth 100000 in
set_option maxHeartbeats 1000000 in
theorem digestAhead_good' (b d : List UInt8) (hb : 32 ≤ b.length) (hd : b.take 32 = d) (w : World) :
    Calls Tryz.prog 133 #[.string (str b)] w fun e w' => e = .returned (.tuple #[.agg (d.map byteVal).toArray, .int .i64 32, .int .i64 0]) ∧ Below w.heap.size w w' := by
  have hz : ¬ ((str b).size : Int) < 32 := by rw [str_size]; omega
  have hl : (d.map byteVal).length = 32 := by rw [← hd, List.length_map, List.length_take]; omega
  have HL := hide hl
  have HB' := hide hb
  have HD := hide hd
  have HB := hide (two_below w (.cells (zero32.map byteVal).toArray 24) (.cells (zero32.map byteVal).toArray 24))
  have hsl := slice_dig (w.heap.size + 1) ((w.alloc (.cells (zero32.map byteVal).toArray 24)).alloc (.cells (zero32.map byteVal).toArray 24))
  clear hl hb hd
  go_enter Tryz.func133, Tryz.ntmps133
  go_wp2_with (first
    | (refine step_copy32 (by rfl) _ _ (by rfl) (w.heap.size + 1) (by rfl) b (by rfl) (zero32.map byteVal) (by rfl) (VRow.newAt (by simp)) (unhide HB') ?_; rw [unhide HD]; intro w1 ho1 hr1; have HR1 := hide hr1; have HO1 := hide ho1; have HZ1 := hide (((VRow.new w 24 (zero32.map byteVal)).alloc _).only ho1 (by omega)); clear ho1 hr1 hsl)
    | (refine load_row (by rfl) 24 (.tmp 5) (by rfl) (w.heap.size + 1) (by rfl) 24 (d.map byteVal) (unhide HR1) 32 32 5 Tryz.underlying24 sizeDg (unhide HL) ?_)
    | (refine store_row (by rfl) 24 (.tmp 2) (.tmp 13) (by rfl) w.heap.size (d.map byteVal) (by rfl) (by rfl) 24 (zero32.map byteVal) (unhide HZ1) 32 sizeDg (unhide HL) rfl (one_bytes _) ?_; intro w2 ho2 hr2; have HR2 := hide hr2; have HO2 := hide ho2; clear ho2 hr2))
  refine bodyPost_ret (v := .tuple #[.agg (d.map byteVal).toArray, .int .i64 32, .int .i64 0]) ?_ rfl ⟨rfl, ?_⟩
  · exact results_row50 _ _ w.heap.size _ _ _ rfl rfl rfl (unhide HR2) (unhide HL)
  · exact below_only (below_only (unhide HB) (unhide HO1) (by omega)) (unhide HO2) (Nat.le_refl _)

/-- What digestAhead answers. -/
def aheadD (b : List UInt8) : List UInt8 × Nat × Int := if b.length < 32 then (zero32, 0, 5) else (b.take 32, 32, 0)
theorem aheadD_len (b : List UInt8) : (aheadD b).1.length = 32 := by
  unfold aheadD
  split
  · rfl
  · show (b.take 32).length = 32
    rw [List.length_take]; omega
theorem aheadD_ok (b : List UInt8) : (aheadD b).2.2 = 0 → (aheadD b).2.1 ≤ b.length := by
  unfold aheadD
  split
  · intro h; cases h
  · intro _; show 32 ≤ b.length; omega
theorem rDigest_ahead (st : St) : rDigest st = (got st (aheadD st.1).2.2 zero32 (aheadD st.1).1, cut st (aheadD st.1).2.1 (aheadD st.1).2.2) := by
  obtain ⟨b, e⟩ := st
  unfold rDigest got cut aheadD
  by_cases h0 : e ≠ 0
  · simp [h0]
  · have h0' : e = 0 := by simpa using h0
    subst h0'
    by_cases h1 : b.length < 32
    · simp [h1]
    · simp [h1]
theorem digestAhead_any (b : List UInt8) (w : World) :
    Calls Tryz.prog 133 #[.string (str b)] w fun e w' => e = .returned (.tuple #[.agg ((aheadD b).1.map byteVal).toArray, .int .i64 (aheadD b).2.1, .int .i64 (aheadD b).2.2]) ∧ Below w.heap.size w w' := by
  by_cases h : b.length < 32
  · rw [show aheadD b = (zero32, 0, 5) from if_pos h]
    exact digestAhead_short b h w
  · rw [show aheadD b = (b.take 32, 32, 0) from if_neg h]
    exact digestAhead_good' b _ (by omega) rfl w

/-- Two new arrays of 32 zeros. -/
structure Start (w w1 : World) : Prop where
  z0 : VRow w1 w.heap.size 24 (zero32.map byteVal)
  z1 : VRow w1 (w.heap.size + 1) 24 (zero32.map byteVal)
  below : Below w.heap.size w w1
theorem start_of {w w1 : World} (h : w1 = (w.alloc (.cells (zero32.map byteVal).toArray 24)).alloc (.cells (zero32.map byteVal).toArray 24)) : Start w w1 := by
  subst h
  exact ⟨(VRow.new w 24 _).alloc _, VRow.newAt (by simp), two_below w _ _⟩
def DigMade (q : Nat) (w : World) (st : St) (d : List UInt8) (e : Ending) (w' : World) : Prop := e = .returned (.agg (d.map byteVal).toArray) ∧ RdAt w' q st ∧ Beside (· = q) w w'

set_option maxRecDepth 100000 in
set_option maxHeartbeats 400000 in
theorem rfail_zero {w : World} {q : Nat} {b : List UInt8} (h : RdAt w q (b, 0)) (x : Int) :
    Calls Tryz.prog 67 #[.pointer (some ⟨q, 0, none⟩), .int .i64 x] w fun e w' => e = .returned (.tuple #[]) ∧ w' = w.setCell ⟨q, 1, none⟩ (.int .i64 x) := by
  have K := hide (rerr_at h)
  have f1 := h.frozen 1
  have c1 := h.cell 1 _ rfl
  dsimp only at K c1
  clear h
  go_enter Tryz.func67, Tryz.ntmps67
  go_wp2_with (go_at_call 51; refine (unhide K).mono ?_; rintro y w1 ⟨rfl, rfl⟩)
  go_end0
  exact ⟨rfl, rfl⟩

set_option maxRecDepth 100000 in
set_option maxHeartbeats 1000000 in
theorem takeD_bad {w : World} {q : Nat} {b : List UInt8} {e : Int} (he : e ≠ 0) (h : RdAt w q (b, e)) :
    Calls Tryz.prog 132 #[.pointer (some ⟨q, 0, none⟩), .func (.func 133) #[] #[]] w (DigMade q w (b, e) zero32) := by
  have hq := h.lt
  have HA := hide h
  have KE := hide fun W (h : RdAt W q (b, e)) => rerr_at h
  have hne : (e != 0) = true := by simp [he]
  clear h
  go_enter Tryz.func132, Tryz.ntmps132
  go_wp2_with (first
    | (go_at_call 51; refine (unhide KE _ (((unhide HA).alloc _).alloc _)).mono ?_; rintro y w1 ⟨rfl, hw⟩; have HS := hide (start_of hw); clear hw)
    | (refine load_row (by rfl) 24 (.tmp 5) (by rfl) (w.heap.size + 1) (by rfl) 24 (zero32.map byteVal) (unhide HS).z1 32 32 5 Tryz.underlying24 sizeDg (by rfl) ?_)
    | (refine store_row (by rfl) 24 (.tmp 4) (.tmp 12) (by rfl) w.heap.size (zero32.map byteVal) (by rfl) (by rfl) 24 (zero32.map byteVal) (unhide HS).z0 32 sizeDg rfl rfl (one_bytes _) ?_; intro w2 ho2 hr2; have HR2 := hide hr2; have HO2 := hide ho2; clear ho2 hr2))
  have H := below_only (unhide HS).below (unhide HO2) (Nat.le_refl _)
  refine bodyPost_ret (v := .agg (zero32.map byteVal).toArray) ?_ rfl ⟨rfl, (unhide HA).after H, beside_of H⟩
  exact results_row49 _ _ w.heap.size _ rfl (unhide HR2) rfl

set_option maxRecDepth 100000 in
set_option maxHeartbeats 1000000 in
theorem takeD_wrong {w : World} {q : Nat} {b d : List UInt8} {k : Nat} {x : Int} (hx : x ≠ 0) (hd : d.length = 32) (h : RdAt w q (b, 0))
    (K : ∀ W, Calls Tryz.prog 133 #[.string (str b)] W fun e w' => e = .returned (.tuple #[.agg (d.map byteVal).toArray, .int .i64 k, .int .i64 x]) ∧ Below W.heap.size W w') :
    Calls Tryz.prog 132 #[.pointer (some ⟨q, 0, none⟩), .func (.func 133) #[] #[]] w (DigMade q w (b, x) zero32) := by
  have hq := h.lt
  have HA := hide h
  have HD := hide (show (d.map byteVal).length = 32 from by rw [List.length_map]; exact hd)
  have KE := hide fun W (h : RdAt W q (b, 0)) => rerr_at h
  have KA := hide K
  have KF := hide fun W (h : RdAt W q (b, 0)) => rfail_zero h x
  have hne : (x != 0) = true := by simp [hx]
  clear h K hd
  go_enter Tryz.func132, Tryz.ntmps132
  go_wp2_with (first
    | (go_at_call 51; refine (unhide KE _ (((unhide HA).alloc _).alloc _)).mono ?_; rintro y w1 ⟨rfl, hw⟩; have HS := hide (start_of hw); have HA1 := hide ((unhide HA).after (unhide HS).below); have c0 := (unhide HA1).cell 0 _ rfl; dsimp only at c0; clear hw)
    | (go_at_call 133; refine (unhide KA _).mono ?_; rintro y w2 ⟨rfl, hb⟩; have HB := hide hb; clear hb c0)
    | (refine store_row (by rfl) 24 (.tmp 6) (.tmp 20) (by rfl) w2.heap.size (d.map byteVal) (by rfl) (by rfl) 24 (zero32.map byteVal) (VRow.newAt rfl) 32 sizeDg (unhide HD) rfl (one_bytes _) ?_; intro w3 ho3 hr3; have HO3 := hide ho3; have HB3 := hide (below_only ((unhide HB).alloc (unhide HB).size (.cells (zero32.map byteVal).toArray 24)) ho3 (unhide HB).size); have HA3 := hide ((unhide HA1).after (unhide HB3)); have HZ0 := hide ((unhide HS).z0.after (unhide HB3)); have HZ1 := hide ((unhide HS).z1.after (unhide HB3)); clear ho3 hr3)
    | (go_at_call 67; refine (unhide KF _ (unhide HA3)).mono ?_; rintro y w4 ⟨rfl, hw⟩; subst hw; have HY0 := hide ((unhide HZ0).setNe (B := q) (by omega) 1 (.int .i64 x)); have HY1 := hide ((unhide HZ1).setNe (B := q) (by omega) 1 (.int .i64 x)))
    | (refine load_row (by rfl) 24 (.tmp 5) (by rfl) (w.heap.size + 1) (by rfl) 24 (zero32.map byteVal) (unhide HY1) 32 32 5 Tryz.underlying24 sizeDg (by rfl) ?_)
    | (refine store_row (by rfl) 24 (.tmp 4) (.tmp 28) (by rfl) w.heap.size (zero32.map byteVal) (by rfl) (by rfl) 24 (zero32.map byteVal) (unhide HY0) 32 sizeDg rfl rfl (one_bytes _) ?_; intro w5 ho5 hr5; have HR5 := hide hr5; have HO5 := hide ho5; clear ho5 hr5))
  refine bodyPost_ret (v := .agg (zero32.map byteVal).toArray) ?_ rfl ⟨rfl, ?_, ?_⟩
  · exact results_row49 _ _ w.heap.size _ rfl (unhide HR5) rfl
  · exact ((unhide HA3).set 1 (.int .i64 x)).only (unhide HO5) (by omega)
  · exact ((beside_of ((unhide HS).below.trans ((unhide HB3).mono (unhide HS).below.size))).trans (beside_set q 1 _ _)).only (unhide HO5) (Nat.le_refl _)

set_option maxRecDepth 100000 in
set_option maxHeartbeats 1000000 in
theorem takeD_good {w : World} {q : Nat} {b d : List UInt8} {k : Nat} (hk : k ≤ b.length) (hs : b.length ≤ 50000000) (hd : d.length = 32) (h : RdAt w q (b, 0))
    (K : ∀ W, Calls Tryz.prog 133 #[.string (str b)] W fun e w' => e = .returned (.tuple #[.agg (d.map byteVal).toArray, .int .i64 k, .int .i64 0]) ∧ Below W.heap.size W w') :
    Calls Tryz.prog 132 #[.pointer (some ⟨q, 0, none⟩), .func (.func 133) #[] #[]] w (DigMade q w (b.drop k, 0) d) := by
  have hq := h.lt
  have HA := hide h
  have HD := hide (show (d.map byteVal).length = 32 from by rw [List.length_map]; exact hd)
  have KE := hide fun W (h : RdAt W q (b, 0)) => rerr_at h
  have KA := hide K
  have hsz : (str b).size ≤ 50000000 := by rw [str_size]; exact hs
  have hks : k ≤ (str b).size := by rw [str_size]; exact hk
  have HX : Hid ((str b).extract k (str b).size = str (b.drop k)) := hide (ext_tail b k)
  have HT := hide fun W (h : RdAt W q (b, 0)) => show RdAt (W.setCell ⟨q, 0, none⟩ (.string ((str b).extract k (str b).size))) q (b.drop k, 0) from by
    have h2 := VRow.set h 0 (.string (str (b.drop k)))
    rw [unhide HX]
    exact h2
  clear h K hd hk hs HX
  generalize b.drop k = R at *
  go_enter Tryz.func132, Tryz.ntmps132
  go_wp2_with (first
    | (go_at_call 51; refine (unhide KE _ (((unhide HA).alloc _).alloc _)).mono ?_; rintro y w1 ⟨rfl, hw⟩; have HS := hide (start_of hw); have HA1 := hide ((unhide HA).after (unhide HS).below); have c0 := (unhide HA1).cell 0 _ rfl; dsimp only at c0; clear hw)
    | (go_at_call 133; refine (unhide KA _).mono ?_; rintro y w2 ⟨rfl, hb⟩; have HB := hide hb; clear hb c0)
    | (refine store_row (by rfl) 24 (.tmp 6) (.tmp 20) (by rfl) w2.heap.size (d.map byteVal) (by rfl) (by rfl) 24 (zero32.map byteVal) (VRow.newAt rfl) 32 sizeDg (unhide HD) rfl (one_bytes _) ?_; intro w3 ho3 hr3; have HO3 := hide ho3; have HB3 := hide (below_only ((unhide HB).alloc (unhide HB).size (.cells (zero32.map byteVal).toArray 24)) ho3 (unhide HB).size); have HA3 := hide ((unhide HA1).after (unhide HB3)); have HZ0 := hide ((unhide HS).z0.after (unhide HB3)); have hqb := Nat.lt_of_lt_of_le (unhide HA1).lt (unhide HB).size; have HY6 := hide (hr3.setNe (B := q) (by omega) 0 (.string ((str b).extract k (str b).size))); have HY0 := hide ((unhide HZ0).setNe (B := q) (by omega) 0 (.string ((str b).extract k (str b).size))); have c3 := (unhide HA3).cell 0 _ rfl; have f3 := (unhide HA3).frozen 0; try dsimp only at c3; clear ho3 hr3 hqb)
    | (refine load_row (by rfl) 24 (.tmp 6) (by rfl) w2.heap.size (by rfl) 24 (d.map byteVal) (unhide HY6) 32 32 5 Tryz.underlying24 sizeDg (unhide HD) ?_)
    | (refine store_row (by rfl) 24 (.tmp 4) (.tmp 38) (by rfl) w.heap.size (d.map byteVal) (by rfl) (by rfl) 24 (zero32.map byteVal) (unhide HY0) 32 sizeDg (unhide HD) rfl (one_bytes _) ?_; intro w5 ho5 hr5; have HR5 := hide hr5; have HO5 := hide ho5; clear ho5 hr5))
  refine bodyPost_ret (v := .agg (d.map byteVal).toArray) ?_ rfl ⟨rfl, ?_, ?_⟩
  · exact results_row49 _ _ w.heap.size _ rfl (unhide HR5) (unhide HD)
  · exact (unhide HT _ (unhide HA3)).only (unhide HO5) (by omega)
  · exact ((beside_of ((unhide HS).below.trans ((unhide HB3).mono (unhide HS).below.size))).trans (beside_set q 0 _ _)).only (unhide HO5) (Nat.le_refl _)
end Go.Proofs.YthecijjmgfempaaGreat

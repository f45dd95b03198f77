/-
  Whether entries are too great to be asked about: the law's own look. Conditions: those that each theorem names.
-/
import Derived.Test.YtebjlmnhpfoglaaGreatDoorB09
import Derived.Test.YtebjlmnhpfoglaaGreatDoorB23
import Derived.Stop.BytesEq
import Derived.Test.YtebjlmnhpfoglaaGreatDoorB24
import Derived.Test.YtebjlmnhpfoglaaGreatDoorB10
namespace Go.Proofs.YtebjlmnhpfoglaaGreatDoor
open Go.RowKit

/-- Entries that are asked about. -/
def SlightE (l : List En) (most : Nat) : Prop := l.length ≤ most ∧ ∀ x ∈ l, x.1.size ≤ 200 ∧ Slight x.2
def GreatMadeE (l : List En) (most : Nat) (w : World) (e : Ending) (w' : World) : Prop := ∃ D, e = .returned (.bool D) ∧ (D = false → SlightE l most) ∧ Below w.heap.size w w'
set_option maxRecDepth 100000 in
set_option maxHeartbeats 1000000 in
theorem greatE_any (a : Option Addr) (cap : Nat) (l : List En) (most : Nat) (hm : most ≤ 1000) (hl : l.length ≤ 9223372036854775807) (hp : ∀ x ∈ l, x.1.size ≤ 9223372036854775807) (w : World) (h : EL w a l) :
    Calls Tryz.prog 9 #[.slice a l.length cap, .int .i64 most] w (GreatMadeE l most w) := by
  have HS := hide h
  have HP := hide hp
  clear h hp
  by_cases hbig : most < l.length
  · have hd : decide (((most : Nat) : Int) < ((l.length : Nat) : Int)) = true := decide_eq_true (by omega)
    go_enter Tryz.func9, Tryz.ntmps9
    go_wp2_with fail
    go_ret
    exact ⟨true, rfl, fun h => (by cases h), Below.refl _ _⟩
  · have hd : decide (((most : Nat) : Int) < ((l.length : Nat) : Int)) = false := decide_eq_false (by omega)
    go_enter Tryz.func9, Tryz.ntmps9
    go_wp2_with fail
    go_loopw [5] (fun i wr => ∃ k : Nat, k ≤ l.length ∧ i = .int .i64 k ∧ (∀ j x, j < k → l[j]? = some x → x.1.size ≤ 200 ∧ Slight x.2) ∧ Below w.heap.size w wr) (fun i _ => l.length - (intOf i).toNat)
    case atStart => exact ⟨0, Nat.zero_le _, rfl, fun j x hj => absurd hj (Nat.not_lt_zero _), Below.refl _ _⟩
    case round =>
      obtain ⟨k, hk, rfl, hall, hb⟩ := hrel
      have HALL := hide hall
      have HB := hide hb
      clear hall
      by_cases hlt : k < l.length
      · obtain ⟨x, hx⟩ : ∃ x, l[k]? = some x := ⟨_, List.getElem?_eq_getElem hlt⟩
        obtain ⟨g, o, rfl, hg, hcell⟩ := (unhide HS).after hb (by omega)
        obtain ⟨q, c, x0, x1, h5, h6⟩ := hcell k x hx
        have H6 := hide h6
        have HX := hide hx
        have hxs := unhide HP x (List.mem_of_getElem? hx)
        clear hcell hx hg h6 hb
        by_cases h2 : 200 < x.1.size
        · have hd2 : decide ((200 : Int) < ((x.1.size : Nat) : Int)) = true := decide_eq_true (by omega)
          go_wp2_with fail
          go_ret
          exact ⟨true, rfl, fun h => (by cases h), unhide HB⟩
        · have hd2 : decide ((200 : Int) < ((x.1.size : Nat) : Int)) = false := decide_eq_false (by omega)
          have KG := hide (great_any wr.heap.size 1 (by omega) (fun _ => q) (fun _ => c) (fun _ => x.2) (wr.alloc (.cells #[.slice q x.2.length c] 31)) (fun j hj => by obtain rfl : j = 0 := (by omega); exact (VRow.new wr 31 [.slice q x.2.length c]).cell 0 _ rfl) (fun _ _ => (unhide H6).after (below_alloc' _)))
          have HA2 := hide (below_alloc' (w := wr) (.cells #[.slice q x.2.length c] 31))
          go_wp2_with fail
          refine (unhide KG).mono ?_
          rintro e w4 ⟨B, rfl, rfl, hB⟩
          have HBB := hide hB
          clear hB
          cases B with
          | true =>
            go_wp2_with fail
            go_ret
            exact ⟨true, rfl, fun h => (by cases h), below_grow (unhide HB) (Nat.le_refl _) (unhide HA2)⟩
          | false =>
            have HN : Hid (∀ j y, j < k + 1 → l[j]? = some y → y.1.size ≤ 200 ∧ Slight y.2) := hide (fun j y hj hy => by
              by_cases e : j = k
              · subst e
                rw [unhide HX] at hy
                injection hy with hy
                subst hy
                exact ⟨by omega, unhide HBB rfl 0 (by omega)⟩
              · exact unhide HALL j y (by omega) hy)
            go_wp2_with fail
            go_roundw
            case rel => exact ⟨k + 1, by omega, by go_num, unhide HN, below_grow (unhide HB) (Nat.le_refl _) (unhide HA2)⟩
            case measure => simp [intOf]; omega
      · obtain rfl : k = l.length := by omega
        go_wp2_with fail
        go_ret
        refine ⟨false, rfl, fun _ => ⟨by omega, fun x hx => ?_⟩, unhide HB⟩
        obtain ⟨j, hj, rfl⟩ := List.getElem_of_mem hx
        exact unhide HALL j _ hj (List.getElem?_eq_getElem hj)
end Go.Proofs.YtebjlmnhpfoglaaGreatDoor

/-
  A row of digests of the call's own. Conditions: digests have 32 bytes.
-/

namespace Go.Proofs.YtebjlmnhpfoglaaGreatDoor
open Go.RowKit

def flatD : List (List UInt8) → List Value
  | [] => []
  | d :: l => d.map byteVal ++ flatD l
def All32 (l : List (List UInt8)) : Prop := ∀ d ∈ l, d.length = 32
theorem flatD_len : ∀ {l : List (List UInt8)}, All32 l → (flatD l).length = l.length * 32
  | [], _ => rfl
  | d :: l, h => by
    rw [flatD, List.length_append, List.length_map, h d (List.mem_cons_self ..), flatD_len fun x hx => h x (List.mem_cons_of_mem _ hx), List.length_cons]
    omega
theorem flatD_append : ∀ l m : List (List UInt8), flatD (l ++ m) = flatD l ++ flatD m
  | [], _ => rfl
  | d :: l, m => by simp [flatD, flatD_append l m]
theorem flatD_get : ∀ {l : List (List UInt8)}, All32 l → ∀ (j : Nat) (d : List UInt8), l[j]? = some d → ∀ i u, (d.map byteVal)[i]? = some u → (flatD l)[j * 32 + i]? = some u
  | [], _, j, d, h, _, _, _ => by simp at h
  | y :: l, _, 0, d, h, i, u, hu => by
    simp at h
    subst h
    have hi : i < (y.map byteVal).length := (List.getElem?_eq_some_iff.1 hu).1
    rw [flatD, Nat.zero_mul, Nat.zero_add, List.getElem?_append_left hi]
    exact hu
  | y :: l, hd, j + 1, d, h, i, u, hu => by
    have hl : (y.map byteVal).length = 32 := by rw [List.length_map]; exact hd y (List.mem_cons_self ..)
    rw [flatD, List.getElem?_append_right (by omega)]
    rw [show (j + 1) * 32 + i - (y.map byteVal).length = j * 32 + i by omega]
    exact flatD_get (fun x hx => hd x (List.mem_cons_of_mem _ hx)) j d (by simpa using h) i u hu
def ODig (W : World) (base : Nat) (v : Value) (l : List (List UInt8)) : Prop := W.ownsRow base 46 32 v l.length (flatD l)
theorem ODig.nil (W : World) (base : Nat) : ODig W base (.slice none 0 0) [] := World.ownsRow_nil _ _ _ _
theorem ODig.after {W W' : World} {base : Nat} {v : Value} {l : List (List UInt8)} (h : ODig W base v l) (hb : Below W.heap.size W W') : ODig W' base v l := by
  refine ⟨h.1, ?_⟩
  rcases h.2 with h2 | ⟨g, cap, cur, e1, e2, e3, e4⟩
  · exact .inl h2
  · exact .inr ⟨g, cap, cur, e1, e2, (hb.block g (Array.getElem?_eq_some_iff.1 e3).1).trans e3, e4⟩
theorem ODig.at {W : World} {base : Nat} {v : Value} {l : List (List UInt8)} (hd : All32 l) (h : ODig W base v l) (h0 : 0 < l.length) : ∃ g cap, v = .slice (some ⟨g, 0, none⟩) l.length cap ∧ l.length ≤ cap ∧ g < W.heap.size ∧ ∀ (j : Nat) (d : List UInt8), l[j]? = some d → W.rangeAt g (j * 32) (d.map byteVal) := by
  rcases h.2 with ⟨rfl, h1⟩ | ⟨g, cap, cur, rfl, hg, hh, c1, c2, c3, c4⟩
  · omega
  · refine ⟨g, cap, rfl, c1, (Array.getElem?_eq_some_iff.1 hh).1, fun j d hj i u hu => ?_⟩
    have hjl : j < l.length := (List.getElem?_eq_some_iff.1 hj).1
    have hi : i < (d.map byteVal).length := (List.getElem?_eq_some_iff.1 hu).1
    rw [List.length_map, hd d (List.mem_of_getElem? hj)] at hi
    rw [cell_of_row W g _ cur 46 (0, 0) hh]
    have h5 : (cur.toList.take (l.length * 32))[j * 32 + i]? = (flatD l)[j * 32 + i]? := by rw [c4]
    rw [List.getElem?_take_of_lt (by omega), flatD_get hd j d hj i u hu] at h5
    simpa using h5
def zeroDA : Array Value := #[.int .u8 0, .int .u8 0, .int .u8 0, .int .u8 0, .int .u8 0, .int .u8 0, .int .u8 0, .int .u8 0, .int .u8 0, .int .u8 0, .int .u8 0, .int .u8 0, .int .u8 0, .int .u8 0, .int .u8 0, .int .u8 0, .int .u8 0, .int .u8 0, .int .u8 0, .int .u8 0, .int .u8 0, .int .u8 0, .int .u8 0, .int .u8 0, .int .u8 0, .int .u8 0, .int .u8 0, .int .u8 0, .int .u8 0, .int .u8 0, .int .u8 0, .int .u8 0]
theorem infoD : (Tryz.prog.info? 46).map (fun i => (i.zero, i.size, i.bytes)) = some (some (.agg zeroDA), 32, 32) := by kernel_rfl
theorem fillD0 (a0 a1 a2 a3 a4 a5 a6 a7 a8 a9 b0 b1 b2 b3 b4 b5 b6 b7 b8 b9 c0 c1 c2 c3 c4 c5 c6 c7 c8 c9 d0 d1 : UInt8) : Instr.fill (fun i => some (i * 32, 32)) ((Array.range (1 * 32)).map ((Value.agg zeroDA).cells[· % (Value.agg zeroDA).cells.size]!)) #[(0, Value.agg ([a0, a1, a2, a3, a4, a5, a6, a7, a8, a9, b0, b1, b2, b3, b4, b5, b6, b7, b8, b9, c0, c1, c2, c3, c4, c5, c6, c7, c8, c9, d0, d1].map byteVal).toArray)].toList = some ([a0, a1, a2, a3, a4, a5, a6, a7, a8, a9, b0, b1, b2, b3, b4, b5, b6, b7, b8, b9, c0, c1, c2, c3, c4, c5, c6, c7, c8, c9, d0, d1].map byteVal).toArray := by kernel_rfl
theorem fillD (d : List UInt8) (hd : d.length = 32) : Instr.fill (fun i => some (i * 32, 32)) ((Array.range (1 * 32)).map ((Value.agg zeroDA).cells[· % (Value.agg zeroDA).cells.size]!)) #[(0, Value.agg (d.map byteVal).toArray)].toList = some (d.map byteVal).toArray := by
  match d, hd with
  | [a0, a1, a2, a3, a4, a5, a6, a7, a8, a9, b0, b1, b2, b3, b4, b5, b6, b7, b8, b9, c0, c1, c2, c3, c4, c5, c6, c7, c8, c9, d0, d1], _ => exact fillD0 a0 a1 a2 a3 a4 a5 a6 a7 a8 a9 b0 b1 b2 b3 b4 b5 b6 b7 b8 b9 c0 c1 c2 c3 c4 c5 c6 c7 c8 c9 d0 d1
theorem run_sliceD (d : List UInt8) (hd : d.length = 32) (w : World) : (Instr.buildSlice 90 1 #[(0, .agg (d.map byteVal).toArray)]).run Tryz.prog w = .ok (.slice (some ⟨w.heap.size, 0, none⟩) 1 1) (w.alloc (.cells (d.map byteVal).toArray 46)) := by
  obtain ⟨i0, hi, hz0, hz1, hz2⟩ := info_parts infoD
  refine run_buildSlice w 90 46 1 _ _ i0 _ Tryz.underlying90 hi hz0 (by rw [hz1]; decide) (by rw [hz1]; decide) ?_
  rw [hz1]
  exact fillD d hd
theorem at_sliceD {ops : Array Oper} {rest : List Oper} {o : Option Tmp} {x : Nat × Operand} {ty : TypeId} {pos : String} {after : Array Edge} {gd : Option (Nat × Bool)} {a : Act} {w : World} {Q : Exit → Act → World → Prop}
    (h : wpList Tryz.prog ops Q ({ dst := o, op := .buildSlice 90 1 #[x], type := ty, pos := pos, after := after, guard := gd } :: rest) a w) : wpList Tryz.prog ops Q ({ dst := o, op := .buildSlice 90 1 #[x], type := ty, pos := pos, after := after, guard := gd } :: rest) a w := h
theorem step_sliceD {ops : Array Oper} {rest : List Oper} {o : Oper} {a : Act} {w : World} {Q : Exit → Act → World → Prop} (hgd : o.guard = none) (x : Operand) (ho : o.op = .buildSlice 90 1 #[(0, x)])
    (d : List UInt8) (hx : a.eval x = .agg (d.map byteVal).toArray) (hd : d.length = 32)
    (h : wpList Tryz.prog ops Q rest (a.put o.dst (.slice (some ⟨w.heap.size, 0, none⟩) 1 1)) (w.alloc (.cells (d.map byteVal).toArray 46))) : wpList Tryz.prog ops Q (o :: rest) a w :=
  wpList_plain hgd fun K hK => by
    have hr := run_sliceD d hd w
    rw [← hx] at hr
    unfold Oper.wp execOp
    simp only [ho]
    have e : (#[(0, x)] : Array (Nat × Operand)).map (fun (i, x) => (i, a.eval x)) = #[(0, a.eval x)] := by simp
    rw [e]
    simp only [Sem.run_bind, hr, Result.andThen_ok]
    exact hK _ _ h
theorem append_dig {w : World} {ops : Array Oper} {rest : List Oper} {o : Oper} {a : Act} {Q : Exit → Act → World → Prop} (hgd : o.guard = none) (s x : Operand)
    (ho : o.op = .call { callee := .builtin .append, args := #[s, x], argTypes := #[90, 90] }) (base : Nat) (v : Value) (l : List (List UInt8)) (hs : a.eval s = v) (hown : ODig w base v l)
    (g : Nat) (d : List UInt8) (hd : d.length = 32) (hx : a.eval x = .slice (some ⟨g, 0, none⟩) 1 1) (hsl : w.rangeAt g 0 (d.map byteVal)) (hn : l.length ≤ 1000000) (hbase : base ≤ w.heap.size)
    (h : ∀ v' w', ODig w' base v' (l ++ [d]) → Below base w w' → wpList Tryz.prog ops Q rest (a.put o.dst v') w') : wpList Tryz.prog ops Q (o :: rest) a w := by
  obtain ⟨i0, hi, hz0, hz1, hz2⟩ := info_parts infoD
  refine wpList_append_own_at w hgd s x 90 ho base 46 i0 _ 32 32 Tryz.underlying90 hi hz0 hz1 hz2 rfl (by decide) v l.length (flatD l) hs hown ⟨g, 0, none⟩ 1 1 (d.map byteVal) hx (by rw [List.length_map, hd]) (fun j u hu => ?_) (one_bytes d) (by unfold maxLen; omega) (by omega) hbase ?_
  · rw [addr_add]
    exact hsl j u hu
  · intro v' w' g1 g2 _ _
    refine h v' w' ?_ (grown_below hown g2 hbase)
    unfold ODig
    rw [List.length_append, flatD_append]
    have e : flatD [d] = d.map byteVal := by simp [flatD]
    rw [e]
    exact g1
set_option maxRecDepth 100000 in
theorem eq_digD (U V : List UInt8) (hU : U.length = 32) (hV : V.length = 32) (w : World) : (Op.equalIn 10000 46 (.agg (U.map byteVal).toArray) (.agg (V.map byteVal).toArray)).run Tryz.prog w = .ok (U == V) w :=
  run_equalIn_bytes (P := Tryz.prog) w 9998 46 5 32 Tryz.underlying46 Tryz.underlying5 (fun w => Tryz.sizeOf5 w) U V hU hV
end Go.Proofs.YtebjlmnhpfoglaaGreatDoor

/-
  Whether two unlike texts of a list have one digest: the document's. Conditions: those that each theorem names.
-/

namespace Go.Proofs.YtebjlmnhpfoglaaGreatDoor
open Go.RowKit

/-- No two unlike ones of one digest, of those ahead of a place. -/
def Free (l : List ByteArray) (i : Nat) : Prop := ∀ p q x y, q < p → p < i → l[p]? = some x → l[q]? = some y → ¬ (shaE y = shaE x ∧ y ≠ x)
theorem clash_of {l : List ByteArray} {p q : Nat} {x y : ByteArray} (hq : q < p) (hx : l[p]? = some x) (hy : l[q]? = some y) (h1 : shaE y = shaE x) (h2 : y ≠ x) : clashT l = true := by
  have hp := (List.getElem?_eq_some_iff.1 hx).1
  refine List.any_eq_true.2 ⟨p, List.mem_range.2 hp, List.any_eq_true.2 ⟨q, List.mem_range.2 hq, decide_eq_true ?_⟩⟩
  rw [show l.getD p ⟨#[]⟩ = x by simp [List.getD, hx], show l.getD q ⟨#[]⟩ = y by simp [List.getD, hy]]
  exact ⟨h1, h2⟩
theorem clash_free {l : List ByteArray} (h : Free l l.length) : clashT l = false := by
  cases hc : clashT l with
  | false => rfl
  | true =>
    obtain ⟨p, hp, hc2⟩ := List.any_eq_true.1 hc
    obtain ⟨q, hq, hc3⟩ := List.any_eq_true.1 hc2
    have hp' := List.mem_range.1 hp
    have hq' := List.mem_range.1 hq
    have h1 := of_decide_eq_true hc3
    have ex : l[p]? = some (l.getD p ⟨#[]⟩) := by rw [List.getElem?_eq_getElem hp']; simp [List.getD, hp']
    have ey : l[q]? = some (l.getD q ⟨#[]⟩) := by rw [List.getElem?_eq_getElem (by omega)]; simp [List.getD, show q < l.length by omega]
    exact absurd h1 (h p q _ _ hq' hp' ex ey)
def sumsT (l : List ByteArray) : List (List UInt8) := l.map shaE
theorem sums32 (l : List ByteArray) : All32 (sumsT l) := by
  intro d hd
  obtain ⟨s, _, rfl⟩ := List.mem_map.1 hd
  exact Hsh.Sha.sha_len _
theorem sums_snoc (l : List ByteArray) (j : Nat) (x : ByteArray) (h : l[j]? = some x) : sumsT (l.take (j + 1)) = sumsT (l.take j) ++ [shaE x] := by
  unfold sumsT
  rw [List.take_add_one, h]
  simp
theorem sums_at (l : List ByteArray) (n j : Nat) (x : ByteArray) (hj : j < n) (h : l[j]? = some x) : (sumsT (l.take n))[j]? = some (shaE x) := by
  unfold sumsT
  rw [List.getElem?_map, List.getElem?_take_of_lt hj, h]
  rfl
set_option maxRecDepth 100000 in
set_option maxHeartbeats 4000000 in
theorem refClash_any (a : Option Addr) (cap : Nat) (l : List ByteArray) (hl : l.length ≤ 900000) (hs : ∀ x ∈ l, x.size ≤ 90000) (w : World) (h : Pth.Sl w a l) (hG : Hsh.RefKeys w) (h3 : 3 < w.heap.size) :
    Calls Tryz.prog 30 #[.slice a l.length cap] w fun e w' => e = .returned (.bool (clashT l)) ∧ Below w.heap.size w w' := by
  have HS := hide h
  have HG := hide hG
  have HSZ := hide hs
  have HCF := hide (fun h => clash_free (l := l) h)
  have HCO := hide (fun p q x y (h1 : q < p) h2 h3 h4 h5 => clash_of (l := l) (p := p) (q := q) (x := x) (y := y) h1 h2 h3 h4 h5)
  have HAT := hide (fun n j x h1 h2 => sums_at l n j x h1 h2)
  have H32 := hide (fun n => sums32 (l.take n))
  generalize clashT l = X at HCF HCO ⊢
  clear h hG hs
  go_enter Tryz.func30, Tryz.ntmps30
  go_wp2_with fail
  go_loopw [3, 4] (fun v i wr => ∃ (j : Nat), j ≤ l.length ∧ i = .int .i64 j ∧ ODig wr w.heap.size v (sumsT (l.take j)) ∧ Free l j ∧ Below w.heap.size w wr) (fun _ i _ => l.length - (intOf i).toNat)
  case atStart => exact ⟨0, Nat.zero_le _, rfl, ODig.nil _ _, fun _ _ _ _ _ h => absurd h (Nat.not_lt_zero _), Below.refl _ _⟩
  case round =>
    obtain ⟨j, hj, rfl, hod, hfree, hb⟩ := hrel
    have HO := hide hod
    have HF := hide hfree
    have HB := hide hb
    by_cases hlt : j < l.length
    · obtain ⟨x, hx⟩ : ∃ x, l[j]? = some x := ⟨_, List.getElem?_eq_getElem hlt⟩
      obtain ⟨g, o, e0, hg, hcell⟩ := unhide HS (by omega)
      subst e0
      have HC := hide (fun (k : Nat) (b : ByteArray) (hk : l[k]? = some b) => hcell k b hk)
      have HLT := hide hg
      have z0 := (hb.cell (p := ⟨g, o + j, none⟩) hg).trans (hcell j x hx)
      have hxs := unhide HSZ x (List.mem_of_getElem? hx)
      have HX := hide hx
      have HSN := hide (sums_snoc l j x hx)
      have KO := hide (refOf_digest x hxs wr ((unhide HG).below hb (by omega)))
      rw [show Hsh.Sha.sha x.data.toList = shaE x from rfl] at KO
      have hD : (shaE x).length = 32 := Hsh.Sha.sha_len _
      have hsl : (sumsT (l.take j)).length ≤ 900000 := by unfold sumsT; rw [List.length_map, List.length_take]; omega
      have hsz := hb.size
      generalize hDx : shaE x = D at KO hD HSN
      have HDX := hide hDx
      generalize sumsT (l.take j) = DS at HO HSN hsl
      clear hod hfree hb hcell hg hx hDx
      go_wp2_with fail
      refine (unhide KO).mono ?_
      rintro e w1 ⟨rfl, hb⟩
      have HO1 := hide ((unhide HO).after hb)
      have HB1 := hide (below_grow (unhide HB) (Nat.le_refl _) hb)
      have hz1 := (unhide HB1).size
      clear hb KO HO HB z0
      have HA := hide (below_alloc' (w := w1) (.cells (D.map byteVal).toArray 46))
      have HV := hide (VRow.new w1 46 (D.map byteVal))
      go_wp2_with (first
        | ((with_reducible refine at_sliceD ?_); refine step_sliceD (by rfl) (.tmp 17) (by rfl) D (by rfl) hD ?_)
        | (at_builtin; refine append_dig (by rfl) _ _ (by rfl) w.heap.size _ DS (by rfl) ((unhide HO1).after (unhide HA)) w1.heap.size D hD (by rfl) (unhide HV).range (by omega) (Nat.le_trans hz1 (unhide HA).size) ?_; intro v5 w5 hod5 hb5; have HO5 := hide hod5; have HB5 := hide (((unhide HB1).trans ((unhide HA).mono hz1)).trans hb5); clear hod5 hb5))
      rw [← unhide HSN] at HO5
      have hlen : (sumsT (l.take (j + 1))).length = j + 1 := by unfold sumsT; rw [List.length_map, List.length_take]; omega
      obtain ⟨gs, cs, rfl, hcs, hgs, hrs⟩ := (unhide HO5).at (unhide H32 _) (by omega)
      have HRS := hide hrs
      have HGS := hide hgs
      have HH32 := unhide H32 (j + 1)
      have HAT1 := hide (fun k y (h1 : k < j + 1) h2 => unhide HAT (j + 1) k y h1 h2)
      rw [hlen] at HO5 hcs ⊢
      obtain ⟨DS2, hDS⟩ : ∃ DS2, sumsT (l.take (j + 1)) = DS2 := ⟨_, rfl⟩
      have HDS := hide hDS
      rw [hDS] at HO5 HRS HAT1 HSN HH32
      clear hDS
      clear hrs hgs HO1 HB1 HA HV
      go_loopw [5] (fun i wr => ∃ (k : Nat), k ≤ j ∧ i = .int .i64 k ∧ (∀ q y, q < k → l[q]? = some y → ¬ (shaE y = shaE x ∧ y ≠ x)) ∧ Below w5.heap.size w5 wr) (fun i _ => j - (intOf i).toNat)
      case atStart => exact ⟨0, Nat.zero_le _, rfl, fun _ _ h => absurd h (Nat.not_lt_zero _), Below.refl _ _⟩
      case round =>
        obtain ⟨k, hk, rfl, hno, hb⟩ := hrel
        have HNO := hide hno
        have HB7 := hide (below_grow (unhide HB5) (Nat.le_refl _) hb)
        have HB6 := hide hb
        by_cases hkj : k < j
        · obtain ⟨y, hy⟩ : ∃ y, l[k]? = some y := ⟨_, List.getElem?_eq_getElem (by omega)⟩
          have hk2 : (unhide HAT1 k y (by omega) hy) = (unhide HAT1 k y (by omega) hy) := rfl
          have h1 := range_after (unhide HRS k _ (unhide HAT1 k y (by omega) hy)) (unhide HGS) hb
          have h2 := range_after (unhide HRS j _ (unhide HAT1 j x (by omega) (unhide HX))) (unhide HGS) hb
          have y0 := ((unhide HB7).cell (p := ⟨g, o + k, none⟩) (unhide HLT)).trans (unhide HC k y hy)
          have x0 := ((unhide HB7).cell (p := ⟨g, o + j, none⟩) (unhide HLT)).trans (unhide HC j x (unhide HX))
          have hUy : (shaE y).length = 32 := Hsh.Sha.sha_len _
          have hUx : (shaE x).length = 32 := Hsh.Sha.sha_len _
          have hst := same_text y x
          have HY := hide hy
          have heq := fun w => eq_digD (shaE y) (shaE x) hUy hUx w
          have HWI : Hid ((shaE y == shaE x) = decide (shaE y = shaE x)) := hide (by
            by_cases h : shaE y = shaE x
            · rw [h]; simp
            · rw [decide_eq_false h]; simpa using h)
          rw [unhide HWI] at heq
          have HE : Hid (shaE y = shaE x ↔ shaE y = shaE x) := hide Iff.rfl
          have HNX : Hid (∀ q y', q < k + 1 → l[q]? = some y' → ¬ (shaE y' = shaE x ∧ y' ≠ x)) ∨ (shaE y = shaE x ∧ y ≠ x) := by
            by_cases hc : shaE y = shaE x ∧ y ≠ x
            · exact .inr hc
            · refine .inl (hide fun q y' hq hy' => ?_)
              by_cases e : q = k
              · subst e
                rw [hy] at hy'
                injection hy' with hy'
                subst hy'
                exact hc
              · exact unhide HNO q y' (by omega) hy'
          clear hno hb hk2 hy
          go_wp2_with fail
          refine wp_region_held_drew (S := fun W => W = wr.drew) (by kernel_rfl) rfl (fun _ => ?_)
          have HB8 := hide (below_drew (unhide HB6))
          have HB9 := hide (below_drew (unhide HB7))
          have r1 : wr.drew.rangeAt gs (k * 32) ((shaE y).map byteVal) := h1
          have r2 : wr.drew.rangeAt gs (j * 32) ((shaE x).map byteVal) := h2
          have c1 : wr.drew.cell? ⟨g, o + k, none⟩ = some (.string y) := y0
          have c2 : wr.drew.cell? ⟨g, o + j, none⟩ = some (.string x) := x0
          clear h1 h2 y0 x0
          generalize wr.drew = W1 at HB8 HB9 r1 r2 c1 c2 ⊢
          refine wpAnyH_take (i := 0) (oi := { dst := some 25, op := Go.Op.move (Go.Operand.tmp 3), type := 90, pos := "ref.go:147", after := #[], guard := none }) (v := .slice (some ⟨gs, 0, none⟩) (j + 1) cs) rfl (by kernel_rfl) (by kernel_rfl) (by kernel_rfl) (fun _ _ _ h => h) (Or.inl ⟨by rfl, ?_⟩) rfl ?_
          · intro W hW; subst hW; first | (go_simp; done) | (go_simp; with_reducible rfl) | (go_simp; intro h; omega)
          simp only [Act.put, List.setIfInBounds_toArray, List.set_cons_zero, List.set_cons_succ]
          refine wpAnyH_take (i := 1) (oi := { dst := some 26, op := Go.Op.move (Go.Operand.tmp 5), type := 3, pos := "ref.go:147", after := #[], guard := none }) (v := .int .i64 k) rfl (by kernel_rfl) (by kernel_rfl) (by kernel_rfl) (fun _ _ _ h => h) (Or.inl ⟨by rfl, ?_⟩) rfl ?_
          · intro W hW; subst hW; first | (go_simp; done) | (go_simp; with_reducible rfl) | (go_simp; intro h; omega)
          simp only [Act.put, List.setIfInBounds_toArray, List.set_cons_zero, List.set_cons_succ]
          refine wpAnyH_take (i := 2) (oi := { dst := some 27, op := Go.Op.indexAddr 90 (Go.Operand.tmp 25) (Go.Operand.tmp 26), type := 0, pos := "ref.go:147", after := #[{ on := 0, ground := Go.Ground.data }, { on := 1, ground := Go.Ground.data }], guard := none }) (v := .pointer (some ⟨gs, k * 32, none⟩)) rfl (by kernel_rfl) (by kernel_rfl) (by kernel_rfl) (fun _ _ _ h => h) (Or.inl ⟨by rfl, ?_⟩) rfl ?_
          · intro W hW; subst hW; first | (go_simp; done) | (go_simp; with_reducible rfl) | (go_simp; intro h; omega)
          simp only [Act.put, List.setIfInBounds_toArray, List.set_cons_zero, List.set_cons_succ]
          refine wpAnyH_take (i := 3) (oi := { dst := some 28, op := Go.Op.load 46 (Go.Operand.tmp 27), type := 46, pos := "ref.go:147", after := #[{ on := 2, ground := Go.Ground.data }], guard := none }) (v := .agg ((shaE y).map byteVal).toArray) rfl (by kernel_rfl) (by kernel_rfl) (by kernel_rfl) (fun _ _ _ h => h) (yieldsIf_load_mid (by rfl) _ _ rfl gs (k * 32) rfl ((shaE y).map byteVal) _ (fun W hW => by subst hW; exact r1) Tryz.underlying46 rfl (by rw [sizeDg, List.length_map]; first | rw [hUy] | rw [hUx])) rfl ?_
          simp only [Act.put, List.setIfInBounds_toArray, List.set_cons_zero, List.set_cons_succ]
          refine wpAnyH_take (i := 4) (oi := { dst := some 29, op := Go.Op.move (Go.Operand.tmp 3), type := 90, pos := "ref.go:147", after := #[], guard := none }) (v := .slice (some ⟨gs, 0, none⟩) (j + 1) cs) rfl (by kernel_rfl) (by kernel_rfl) (by kernel_rfl) (fun _ _ _ h => h) (Or.inl ⟨by rfl, ?_⟩) rfl ?_
          · intro W hW; subst hW; first | (go_simp; done) | (go_simp; with_reducible rfl) | (go_simp; intro h; omega)
          simp only [Act.put, List.setIfInBounds_toArray, List.set_cons_zero, List.set_cons_succ]
          refine wpAnyH_take (i := 5) (oi := { dst := some 30, op := Go.Op.move (Go.Operand.tmp 4), type := 3, pos := "ref.go:147", after := #[], guard := none }) (v := .int .i64 j) rfl (by kernel_rfl) (by kernel_rfl) (by kernel_rfl) (fun _ _ _ h => h) (Or.inl ⟨by rfl, ?_⟩) rfl ?_
          · intro W hW; subst hW; first | (go_simp; done) | (go_simp; with_reducible rfl) | (go_simp; intro h; omega)
          simp only [Act.put, List.setIfInBounds_toArray, List.set_cons_zero, List.set_cons_succ]
          refine wpAnyH_take (i := 6) (oi := { dst := some 31, op := Go.Op.indexAddr 90 (Go.Operand.tmp 29) (Go.Operand.tmp 30), type := 0, pos := "ref.go:147", after := #[{ on := 4, ground := Go.Ground.data }, { on := 5, ground := Go.Ground.data }], guard := none }) (v := .pointer (some ⟨gs, j * 32, none⟩)) rfl (by kernel_rfl) (by kernel_rfl) (by kernel_rfl) (fun _ _ _ h => h) (Or.inl ⟨by rfl, ?_⟩) rfl ?_
          · intro W hW; subst hW; first | (go_simp; done) | (go_simp; with_reducible rfl) | (go_simp; intro h; omega)
          simp only [Act.put, List.setIfInBounds_toArray, List.set_cons_zero, List.set_cons_succ]
          refine wpAnyH_take (i := 7) (oi := { dst := some 32, op := Go.Op.load 46 (Go.Operand.tmp 31), type := 46, pos := "ref.go:147", after := #[{ on := 6, ground := Go.Ground.data }], guard := none }) (v := .agg ((shaE x).map byteVal).toArray) rfl (by kernel_rfl) (by kernel_rfl) (by kernel_rfl) (fun _ _ _ h => h) (yieldsIf_load_mid (by rfl) _ _ rfl gs (j * 32) rfl ((shaE x).map byteVal) _ (fun W hW => by subst hW; exact r2) Tryz.underlying46 rfl (by rw [sizeDg, List.length_map]; first | rw [hUy] | rw [hUx])) rfl ?_
          simp only [Act.put, List.setIfInBounds_toArray, List.set_cons_zero, List.set_cons_succ]
          refine wpAnyH_take (i := 8) (oi := { dst := some 33, op := Go.Op.binOp Go.BinOp.eql 46 (Go.Operand.tmp 28) (Go.Operand.tmp 32) 46, type := 4, pos := "ref.go:147", after := #[{ on := 3, ground := Go.Ground.data }, { on := 7, ground := Go.Ground.data }], guard := none }) (v := .bool (decide (shaE y = shaE x))) rfl (by kernel_rfl) (by kernel_rfl) (by kernel_rfl) (fun _ _ _ h => h) (Or.inl ⟨by rfl, ?_⟩) rfl ?_
          · intro W hW; subst hW; first | (go_simp; done) | (go_simp; with_reducible rfl) | (go_simp; intro h; omega)
          simp only [Act.put, List.setIfInBounds_toArray, List.set_cons_zero, List.set_cons_succ]
          refine wpAnyH_take (i := 9) (oi := { dst := some 34, op := Go.Op.move (Go.Operand.tmp 33), type := 4, pos := "ref.go:147", after := #[{ on := 8, ground := Go.Ground.data }], guard := none }) (v := .bool (decide (shaE y = shaE x))) rfl (by kernel_rfl) (by kernel_rfl) (by kernel_rfl) (fun _ _ _ h => h) (Or.inl ⟨by rfl, ?_⟩) rfl ?_
          · intro W hW; subst hW; first | (go_simp; done) | (go_simp; with_reducible rfl) | (go_simp; intro h; omega)
          simp only [Act.put, List.setIfInBounds_toArray, List.set_cons_zero, List.set_cons_succ]
          by_cases hsh : shaE y = shaE x
          · rw [decide_eq_true hsh]
            refine wpAnyH_take (i := 10) (oi := { dst := some 35, op := Go.Op.move (Go.Operand.tmp 0), type := 67, pos := "ref.go:147", after := #[{ on := 9, ground := Go.Ground.guard }], guard := some (9, true) }) (v := .slice (some ⟨g, o, none⟩) l.length cap) rfl (by kernel_rfl) (by kernel_rfl) (by kernel_rfl) (fun _ _ _ h => h) (Or.inl ⟨by rfl, ?_⟩) rfl ?_
            · intro W hW; subst hW; first | (go_simp; done) | (go_simp; with_reducible rfl) | (go_simp; intro h; omega)
            simp only [Act.put, List.setIfInBounds_toArray, List.set_cons_zero, List.set_cons_succ]
            refine wpAnyH_take (i := 11) (oi := { dst := some 36, op := Go.Op.move (Go.Operand.tmp 5), type := 3, pos := "ref.go:147", after := #[{ on := 9, ground := Go.Ground.guard }], guard := some (9, true) }) (v := .int .i64 k) rfl (by kernel_rfl) (by kernel_rfl) (by kernel_rfl) (fun _ _ _ h => h) (Or.inl ⟨by rfl, ?_⟩) rfl ?_
            · intro W hW; subst hW; first | (go_simp; done) | (go_simp; with_reducible rfl) | (go_simp; intro h; omega)
            simp only [Act.put, List.setIfInBounds_toArray, List.set_cons_zero, List.set_cons_succ]
            refine wpAnyH_take (i := 12) (oi := { dst := some 37, op := Go.Op.indexAddr 67 (Go.Operand.tmp 35) (Go.Operand.tmp 36), type := 0, pos := "ref.go:147", after := #[{ on := 10, ground := Go.Ground.data }, { on := 11, ground := Go.Ground.data }, { on := 9, ground := Go.Ground.guard }], guard := some (9, true) }) (v := .pointer (some ⟨g, o + k, none⟩)) rfl (by kernel_rfl) (by kernel_rfl) (by kernel_rfl) (fun _ _ _ h => h) (Or.inl ⟨by rfl, ?_⟩) rfl ?_
            · intro W hW; subst hW; first | (go_simp; done) | (go_simp; with_reducible rfl) | (go_simp; intro h; omega)
            simp only [Act.put, List.setIfInBounds_toArray, List.set_cons_zero, List.set_cons_succ]
            refine wpAnyH_take (i := 13) (oi := { dst := some 38, op := Go.Op.load 9 (Go.Operand.tmp 37), type := 9, pos := "ref.go:147", after := #[{ on := 12, ground := Go.Ground.data }, { on := 9, ground := Go.Ground.guard }], guard := some (9, true) }) (v := .string y) rfl (by kernel_rfl) (by kernel_rfl) (by kernel_rfl) (fun _ _ _ h => h) (Or.inl ⟨by rfl, ?_⟩) rfl ?_
            · intro W hW; subst hW; first | (go_simp; done) | (go_simp; with_reducible rfl) | (go_simp; intro h; omega)
            simp only [Act.put, List.setIfInBounds_toArray, List.set_cons_zero, List.set_cons_succ]
            refine wpAnyH_take (i := 14) (oi := { dst := some 39, op := Go.Op.move (Go.Operand.tmp 0), type := 67, pos := "ref.go:147", after := #[{ on := 9, ground := Go.Ground.guard }], guard := some (9, true) }) (v := .slice (some ⟨g, o, none⟩) l.length cap) rfl (by kernel_rfl) (by kernel_rfl) (by kernel_rfl) (fun _ _ _ h => h) (Or.inl ⟨by rfl, ?_⟩) rfl ?_
            · intro W hW; subst hW; first | (go_simp; done) | (go_simp; with_reducible rfl) | (go_simp; intro h; omega)
            simp only [Act.put, List.setIfInBounds_toArray, List.set_cons_zero, List.set_cons_succ]
            refine wpAnyH_take (i := 15) (oi := { dst := some 40, op := Go.Op.move (Go.Operand.tmp 4), type := 3, pos := "ref.go:147", after := #[{ on := 9, ground := Go.Ground.guard }], guard := some (9, true) }) (v := .int .i64 j) rfl (by kernel_rfl) (by kernel_rfl) (by kernel_rfl) (fun _ _ _ h => h) (Or.inl ⟨by rfl, ?_⟩) rfl ?_
            · intro W hW; subst hW; first | (go_simp; done) | (go_simp; with_reducible rfl) | (go_simp; intro h; omega)
            simp only [Act.put, List.setIfInBounds_toArray, List.set_cons_zero, List.set_cons_succ]
            refine wpAnyH_take (i := 16) (oi := { dst := some 41, op := Go.Op.indexAddr 67 (Go.Operand.tmp 39) (Go.Operand.tmp 40), type := 0, pos := "ref.go:147", after := #[{ on := 14, ground := Go.Ground.data }, { on := 15, ground := Go.Ground.data }, { on := 9, ground := Go.Ground.guard }], guard := some (9, true) }) (v := .pointer (some ⟨g, o + j, none⟩)) rfl (by kernel_rfl) (by kernel_rfl) (by kernel_rfl) (fun _ _ _ h => h) (Or.inl ⟨by rfl, ?_⟩) rfl ?_
            · intro W hW; subst hW; first | (go_simp; done) | (go_simp; with_reducible rfl) | (go_simp; intro h; omega)
            simp only [Act.put, List.setIfInBounds_toArray, List.set_cons_zero, List.set_cons_succ]
            refine wpAnyH_take (i := 17) (oi := { dst := some 42, op := Go.Op.load 9 (Go.Operand.tmp 41), type := 9, pos := "ref.go:147", after := #[{ on := 16, ground := Go.Ground.data }, { on := 9, ground := Go.Ground.guard }], guard := some (9, true) }) (v := .string x) rfl (by kernel_rfl) (by kernel_rfl) (by kernel_rfl) (fun _ _ _ h => h) (Or.inl ⟨by rfl, ?_⟩) rfl ?_
            · intro W hW; subst hW; first | (go_simp; done) | (go_simp; with_reducible rfl) | (go_simp; intro h; omega)
            simp only [Act.put, List.setIfInBounds_toArray, List.set_cons_zero, List.set_cons_succ]
            by_cases hyx : y = x
            · rw [decide_eq_true hyx] at hst
              refine wpAnyH_take (i := 18) (oi := { dst := some 43, op := Go.Op.binOp Go.BinOp.neq 9 (Go.Operand.tmp 38) (Go.Operand.tmp 42) 9, type := 4, pos := "ref.go:147", after := #[{ on := 13, ground := Go.Ground.data }, { on := 17, ground := Go.Ground.data }, { on := 9, ground := Go.Ground.guard }], guard := some (9, true) }) (v := .bool false) rfl (by kernel_rfl) (by kernel_rfl) (by kernel_rfl) (fun _ _ _ h => h) (Or.inl ⟨by rfl, ?_⟩) rfl ?_
              · intro W hW; subst hW; first | (go_simp; done) | (go_simp; with_reducible rfl) | (go_simp; intro h; omega)
              simp only [Act.put, List.setIfInBounds_toArray, List.set_cons_zero, List.set_cons_succ]
              refine wpAnyH_take (i := 19) (oi := { dst := some 44, op := Go.Op.pick (Go.Operand.tmp 34) (Go.Operand.tmp 43) (Go.Operand.const (Go.Value.bool false)), type := 4, pos := "ref.go:147", after := #[{ on := 9, ground := Go.Ground.data }, { on := 18, ground := Go.Ground.data }], guard := none }) (v := .bool false) rfl (by kernel_rfl) (by kernel_rfl) (by kernel_rfl) (fun _ _ _ h => h) (Or.inl ⟨by rfl, ?_⟩) rfl ?_
              · intro W hW; subst hW; first | (go_simp; done) | (go_simp; with_reducible rfl) | (go_simp; intro h; omega)
              simp only [Act.put, List.setIfInBounds_toArray, List.set_cons_zero, List.set_cons_succ]
              refine wpAnyH_done (by kernel_rfl) ?_ _
              have HN := HNX.resolve_right (fun h => h.2 hyx)
              clear r1 r2 c1 c2 heq HNX
              go_wp2_with fail
              go_roundw
              case rel => exact ⟨k + 1, by omega, by go_num, unhide HN, unhide HB8⟩
              case measure => simp [intOf]; omega
            · rw [decide_eq_false hyx] at hst
              refine wpAnyH_take (i := 18) (oi := { dst := some 43, op := Go.Op.binOp Go.BinOp.neq 9 (Go.Operand.tmp 38) (Go.Operand.tmp 42) 9, type := 4, pos := "ref.go:147", after := #[{ on := 13, ground := Go.Ground.data }, { on := 17, ground := Go.Ground.data }, { on := 9, ground := Go.Ground.guard }], guard := some (9, true) }) (v := .bool true) rfl (by kernel_rfl) (by kernel_rfl) (by kernel_rfl) (fun _ _ _ h => h) (Or.inl ⟨by rfl, ?_⟩) rfl ?_
              · intro W hW; subst hW; first | (go_simp; done) | (go_simp; with_reducible rfl) | (go_simp; intro h; omega)
              simp only [Act.put, List.setIfInBounds_toArray, List.set_cons_zero, List.set_cons_succ]
              refine wpAnyH_take (i := 19) (oi := { dst := some 44, op := Go.Op.pick (Go.Operand.tmp 34) (Go.Operand.tmp 43) (Go.Operand.const (Go.Value.bool false)), type := 4, pos := "ref.go:147", after := #[{ on := 9, ground := Go.Ground.data }, { on := 18, ground := Go.Ground.data }], guard := none }) (v := .bool true) rfl (by kernel_rfl) (by kernel_rfl) (by kernel_rfl) (fun _ _ _ h => h) (Or.inl ⟨by rfl, ?_⟩) rfl ?_
              · intro W hW; subst hW; first | (go_simp; done) | (go_simp; with_reducible rfl) | (go_simp; intro h; omega)
              simp only [Act.put, List.setIfInBounds_toArray, List.set_cons_zero, List.set_cons_succ]
              refine wpAnyH_done (by kernel_rfl) ?_ _
              obtain rfl : X = true := unhide HCO j k x y hkj (unhide HX) (unhide HY) hsh hyx
              clear r1 r2 c1 c2 heq HNX
              go_wp2_with fail
              go_ret
              exact ⟨rfl, unhide HB9⟩
          · rw [decide_eq_false hsh]
            refine wpAnyH_take (i := 10) (oi := { dst := some 35, op := Go.Op.move (Go.Operand.tmp 0), type := 67, pos := "ref.go:147", after := #[{ on := 9, ground := Go.Ground.guard }], guard := some (9, true) }) (v := undef) rfl (by kernel_rfl) (by kernel_rfl) (by kernel_rfl) (fun _ _ _ h => h) (Or.inr ⟨by rfl, rfl⟩) rfl ?_
            simp only [Act.put, List.setIfInBounds_toArray, List.set_cons_zero, List.set_cons_succ]
            refine wpAnyH_take (i := 11) (oi := { dst := some 36, op := Go.Op.move (Go.Operand.tmp 5), type := 3, pos := "ref.go:147", after := #[{ on := 9, ground := Go.Ground.guard }], guard := some (9, true) }) (v := undef) rfl (by kernel_rfl) (by kernel_rfl) (by kernel_rfl) (fun _ _ _ h => h) (Or.inr ⟨by rfl, rfl⟩) rfl ?_
            simp only [Act.put, List.setIfInBounds_toArray, List.set_cons_zero, List.set_cons_succ]
            refine wpAnyH_take (i := 12) (oi := { dst := some 37, op := Go.Op.indexAddr 67 (Go.Operand.tmp 35) (Go.Operand.tmp 36), type := 0, pos := "ref.go:147", after := #[{ on := 10, ground := Go.Ground.data }, { on := 11, ground := Go.Ground.data }, { on := 9, ground := Go.Ground.guard }], guard := some (9, true) }) (v := undef) rfl (by kernel_rfl) (by kernel_rfl) (by kernel_rfl) (fun _ _ _ h => h) (Or.inr ⟨by rfl, rfl⟩) rfl ?_
            simp only [Act.put, List.setIfInBounds_toArray, List.set_cons_zero, List.set_cons_succ]
            refine wpAnyH_take (i := 13) (oi := { dst := some 38, op := Go.Op.load 9 (Go.Operand.tmp 37), type := 9, pos := "ref.go:147", after := #[{ on := 12, ground := Go.Ground.data }, { on := 9, ground := Go.Ground.guard }], guard := some (9, true) }) (v := undef) rfl (by kernel_rfl) (by kernel_rfl) (by kernel_rfl) (fun _ _ _ h => h) (Or.inr ⟨by rfl, rfl⟩) rfl ?_
            simp only [Act.put, List.setIfInBounds_toArray, List.set_cons_zero, List.set_cons_succ]
            refine wpAnyH_take (i := 14) (oi := { dst := some 39, op := Go.Op.move (Go.Operand.tmp 0), type := 67, pos := "ref.go:147", after := #[{ on := 9, ground := Go.Ground.guard }], guard := some (9, true) }) (v := undef) rfl (by kernel_rfl) (by kernel_rfl) (by kernel_rfl) (fun _ _ _ h => h) (Or.inr ⟨by rfl, rfl⟩) rfl ?_
            simp only [Act.put, List.setIfInBounds_toArray, List.set_cons_zero, List.set_cons_succ]
            refine wpAnyH_take (i := 15) (oi := { dst := some 40, op := Go.Op.move (Go.Operand.tmp 4), type := 3, pos := "ref.go:147", after := #[{ on := 9, ground := Go.Ground.guard }], guard := some (9, true) }) (v := undef) rfl (by kernel_rfl) (by kernel_rfl) (by kernel_rfl) (fun _ _ _ h => h) (Or.inr ⟨by rfl, rfl⟩) rfl ?_
            simp only [Act.put, List.setIfInBounds_toArray, List.set_cons_zero, List.set_cons_succ]
            refine wpAnyH_take (i := 16) (oi := { dst := some 41, op := Go.Op.indexAddr 67 (Go.Operand.tmp 39) (Go.Operand.tmp 40), type := 0, pos := "ref.go:147", after := #[{ on := 14, ground := Go.Ground.data }, { on := 15, ground := Go.Ground.data }, { on := 9, ground := Go.Ground.guard }], guard := some (9, true) }) (v := undef) rfl (by kernel_rfl) (by kernel_rfl) (by kernel_rfl) (fun _ _ _ h => h) (Or.inr ⟨by rfl, rfl⟩) rfl ?_
            simp only [Act.put, List.setIfInBounds_toArray, List.set_cons_zero, List.set_cons_succ]
            refine wpAnyH_take (i := 17) (oi := { dst := some 42, op := Go.Op.load 9 (Go.Operand.tmp 41), type := 9, pos := "ref.go:147", after := #[{ on := 16, ground := Go.Ground.data }, { on := 9, ground := Go.Ground.guard }], guard := some (9, true) }) (v := undef) rfl (by kernel_rfl) (by kernel_rfl) (by kernel_rfl) (fun _ _ _ h => h) (Or.inr ⟨by rfl, rfl⟩) rfl ?_
            simp only [Act.put, List.setIfInBounds_toArray, List.set_cons_zero, List.set_cons_succ]
            refine wpAnyH_take (i := 18) (oi := { dst := some 43, op := Go.Op.binOp Go.BinOp.neq 9 (Go.Operand.tmp 38) (Go.Operand.tmp 42) 9, type := 4, pos := "ref.go:147", after := #[{ on := 13, ground := Go.Ground.data }, { on := 17, ground := Go.Ground.data }, { on := 9, ground := Go.Ground.guard }], guard := some (9, true) }) (v := undef) rfl (by kernel_rfl) (by kernel_rfl) (by kernel_rfl) (fun _ _ _ h => h) (Or.inr ⟨by rfl, rfl⟩) rfl ?_
            simp only [Act.put, List.setIfInBounds_toArray, List.set_cons_zero, List.set_cons_succ]
            refine wpAnyH_take (i := 19) (oi := { dst := some 44, op := Go.Op.pick (Go.Operand.tmp 34) (Go.Operand.tmp 43) (Go.Operand.const (Go.Value.bool false)), type := 4, pos := "ref.go:147", after := #[{ on := 9, ground := Go.Ground.data }, { on := 18, ground := Go.Ground.data }], guard := none }) (v := .bool false) rfl (by kernel_rfl) (by kernel_rfl) (by kernel_rfl) (fun _ _ _ h => h) (Or.inl ⟨by rfl, ?_⟩) rfl ?_
            · intro W hW; subst hW; first | (go_simp; done) | (go_simp; with_reducible rfl) | (go_simp; intro h; omega)
            simp only [Act.put, List.setIfInBounds_toArray, List.set_cons_zero, List.set_cons_succ]
            refine wpAnyH_done (by kernel_rfl) ?_ _
            have HN := HNX.resolve_right (fun h => hsh h.1)
            clear r1 r2 c1 c2 heq HNX
            go_wp2_with fail
            go_roundw
            case rel => exact ⟨k + 1, by omega, by go_num, unhide HN, unhide HB8⟩
            case measure => simp [intOf]; omega
        · obtain rfl : k = j := by omega
          have HF2 : Hid (Free l (k + 1)) := hide (fun p q x' y' hq hp hx' hy' => by
            by_cases e : p = k
            · subst e
              rw [unhide HX] at hx'
              injection hx' with hx'
              subst hx'
              exact unhide HNO q y' hq hy'
            · exact unhide HF p q x' y' hq (by omega) hx' hy')
          have HO9 := hide ((unhide HO5).after hb)
          clear hno hb
          go_wp2_with fail
          go_roundw
          case rel => exact ⟨k + 1, by omega, by go_num, by rw [unhide HDS]; exact unhide HO9, unhide HF2, unhide HB7⟩
          case measure => simp [intOf]; omega
    · obtain rfl : j = l.length := by omega
      obtain rfl : X = false := unhide HCF (unhide HF)
      clear hod hfree hb
      go_wp2_with fail
      go_ret
      exact ⟨rfl, unhide HB⟩
end Go.Proofs.YtebjlmnhpfoglaaGreatDoor

/-
  What the laws on trees stand on: what lies in the package's variables; entries that are slight; chapter 15's example. Conditions: those that each theorem names.
-/

namespace Go.Proofs.YtebjlmnhpfoglaaGreatDoor
open Go.RowKit

/-- What lies in the variables of both sides. -/
structure Env (w : World) : Prop where
  g : Hsh.Glob w
  k : Hsh.RefKeys w
  s : 3 < w.heap.size
theorem Env.below {w W : World} (h : Env w) (hb : Below w.heap.size w W) : Env W :=
  ⟨h.g.below hb h.s, h.k.below hb (by have := h.s; omega), Nat.lt_of_lt_of_le h.s hb.size⟩
theorem eok_of {l : List En} {most : Nat} (hs : SlightE l most) (hm : most ≤ 1000) (he : ∀ x ∈ l, EnOk x) : Eok l where
  len := by have := hs.1; omega
  path := fun x hx => by have := (hs.2 x hx).1; omega
  few := fun x hx => (he x hx).2.1.few (by have := ((hs.2 x hx).2).1; omega)
  data := fun x hx => (he x hx).2.2

def awV : Vc.V := { dot := (1, 1), past := [], dead := false, data := ⟨#[120]⟩ }
def awP : ByteArray := ⟨#[97, 47, 98]⟩
def awT : List En := [(awP, [awV])]
theorem aw_set : setT [] awP [awV] = (awT, 0) := by
  have h1 : setE awP [awV] = 0 := setE_fine (by decide +kernel) (by decide +kernel)
  have h2 : putT awP [awV] [] = awT := rfl
  have h3 := setT_fine (t := []) h1 (by rw [h2]; decide)
  rw [h2] at h3
  exact h3
theorem aw_tr : Tr awT := by
  have h := Tr.nil.set (p := awP) (l := [awV]) (by rw [aw_set])
  rw [aw_set] at h
  exact h
theorem aw_there : thereT awT ⟨#[97]⟩ = true := by decide +kernel
theorem aw_get : getT awT awP = [awV] := if_pos rfl
theorem aw_root : rootT [] = Hsh.Sha.sha [0, 0] := by
  have e : nodeF [] ⟨#[]⟩ = ⟨[], []⟩ := by rw [nodeF_eq]; rfl
  unfold rootT
  rw [e]
  unfold sumN
  rw [if_neg (by decide +kernel)]
  congr 1
/-- Digests compared. -/
theorem alikeE (d : List UInt8) (hd : d.length = 32) : ∀ w, (Op.equalIn 10000 46 (.agg (d.map byteVal).toArray) (.agg (d.map byteVal).toArray)).run Tryz.prog w = .ok true w := fun w => by
  have h := eq_digD d d hd hd w
  rw [beq_self_eq_true] at h
  exact h

set_option maxRecDepth 100000 in
set_option maxHeartbeats 2000000 in
theorem awakeT_any (w : World) (hE : Env w) : Calls Tryz.prog 10 #[] w fun e w' => e = .returned (.bool true) ∧ Below w.heap.size w w' := by
  have HE := hide hE
  have HA := hide (below_alloc' (w := w) (.cells (verL awV none 0).toArray 64))
  have HV := hide (VRow.new w 64 (verL awV none 0))
  have KS := hide (treeSet_any none [] Tr.nil awP (by decide) (some ⟨w.heap.size, 0, none⟩) 1 [awV] ⟨by decide, fun v hv => by rw [List.mem_singleton.1 hv]; decide⟩ _ (TrAt.nil _) (one_sv (unhide HV) (Nat.le_refl _) (Sl.none _ _)))
  rw [aw_set] at KS
  clear hE
  unfold awP verL awV at KS
  unfold verL awV at HA HV
  go_enter Tryz.func10, Tryz.ntmps10
  go_wp2_with fail
  refine (unhide KS).mono ?_
  rintro e w1 ⟨q, rfl, ht1, _, hb⟩
  have HB1 := hide (below_grow (unhide HA) (Nat.le_refl _) hb)
  have HT1 := hide ht1
  have HE1 := hide ((unhide HE).below (unhide HB1))
  have KN := hide (treeNode_any q awT aw_tr ⟨#[97]⟩ (by decide) w1 ht1 (unhide HE1).g (unhide HE1).s)
  rw [aw_there, if_pos rfl] at KN
  clear hb ht1 KS
  go_wp2_with fail
  refine (unhide KN).mono ?_
  rintro e w2 ⟨a, c, b, d, rfl, _, hb⟩
  have HB2 := hide (below_grow (unhide HB1) (Nat.le_refl _) hb)
  have HT2 := hide ((unhide HT1).after hb)
  clear hb KN
  generalize nodeF awT ⟨#[97]⟩ = NF
  go_wp2_with (refine store_row (by rfl) 52 (.tmp 4) (.tmp 17) (by rfl) w2.heap.size (ndL NF a c b d) (by rfl) (by rfl) 52 zeroN (VRow.newAt rfl) 2 sizeNd rfl rfl (ndL_one _ _ _ _ _) ?_; intro w3 ho hr; have HB3 := hide (below_grow (unhide HB2) (Nat.le_refl _) ((below_alloc' (w := w2) (.cells zeroN.toArray 52)).trans (ho.below (Nat.le_refl _)))); have HT3 := hide ((unhide HT2).after ((below_alloc' (w := w2) (.cells zeroN.toArray 52)).trans (ho.below (Nat.le_refl _)))); clear ho hr)
  have HE3 := hide ((unhide HE).below (unhide HB3))
  have KL := hide (len_any q awT w3 (unhide HT3))
  have KR := hide (treeRoot_any none [] Tr.nil w3 (TrAt.nil _) (unhide HE3).g (unhide HE3).s)
  have KO := hide fun W (h : Env W) => refOf_digest ⟨#[0, 0]⟩ (by decide) W h.k
  rw [aw_root] at KR
  rw [show ((⟨#[0, 0]⟩ : ByteArray).data.toList) = [0, 0] from rfl] at KO
  have hal := alikeE (Hsh.Sha.sha [0, 0]) (Hsh.Sha.sha_len _)
  generalize (Hsh.Sha.sha [0, 0]).map byteVal = DG at KR KO hal
  have KG := hide fun W (h : TrAt W q awT) => treeGet_any q awT aw_tr awP (by decide) W h
  rw [aw_get] at KG
  unfold awP at KG
  refine (unhide KL).mono ?_
  rintro e w4 ⟨rfl, rfl⟩
  rw [show awT.length = 1 from rfl]
  go_wp2_with fail
  refine (unhide KR).mono ?_
  rintro e w4 ⟨rfl, hb⟩
  have HB4 := hide (below_grow (unhide HB3) (Nat.le_refl _) hb)
  have HT4 := hide ((unhide HT3).after hb)
  have HE4 := hide ((unhide HE3).below hb)
  clear hb KR KL
  go_wp2_with fail
  refine (unhide KO _ (unhide HE4)).mono ?_
  rintro e w5 ⟨rfl, hb⟩
  have HB5 := hide (below_grow (unhide HB4) (Nat.le_refl _) hb)
  have HT5 := hide ((unhide HT4).after hb)
  have KL2 := hide (len_any none [] w5 (TrAt.nil _))
  clear hb KO
  go_wp2_with fail
  refine (unhide KL2).mono ?_
  rintro e w6 ⟨rfl, rfl⟩
  go_wp2_with fail
  refine (unhide KG _ (unhide HT5)).mono ?_
  rintro e w6 ⟨r, c6, rfl, _, _, _, hb⟩
  have HB6 := hide (below_grow (unhide HB5) (Nat.le_refl _) hb)
  clear hb KG KL2
  go_wp2_with fail
  go_ret
  exact ⟨by first | rfl | simp, unhide HB6⟩
end Go.Proofs.YtebjlmnhpfoglaaGreatDoor

/-
  The walk of the statement on the tree of entries and its digests. Conditions: those that each theorem names.
-/

namespace Go.Proofs.YtebjlmnhpfoglaaGreatDoor
open Go.RowKit

structure StOf (w : World) (q r : Option Addr) (T : List En) (W : World) : Prop where
  b : Below w.heap.size w W
  e : Env W
  t : TrAt W q T
  m : EL W r T
theorem StOf.after {w W W' : World} {q r : Option Addr} {T : List En} (h : StOf w q r T W) (hb : Below W.heap.size W W') : StOf w q r T W' := ⟨below_grow h.b (Nat.le_refl _) hb, h.e.below hb, h.t.after hb, h.m.after hb⟩

set_option maxRecDepth 100000 in
set_option maxHeartbeats 4000000 in
theorem of_walk (a : Option Addr) (cap : Nat) (l : List En) (hl : l.length ≤ 9223372036854775807) (he : ∀ x ∈ l, EnOk x) (w : World) (h : EL w a l) (hE : Env w) :
    Calls Tryz.prog 4 #[.slice a l.length cap] w fun e w' => e = .returned (.bool true) ∧ Below w.heap.size w w' := by
  have KG := hide (greatE_any a cap l 20 (by omega) hl (fun x hx => (he x hx).1) w h)
  have HS := hide h
  have HE := hide hE
  have HOK := hide he
  clear h hE he
  go_enter Tryz.func4, Tryz.ntmps4
  go_wp2_with fail
  refine (unhide KG).mono ?_
  rintro e w1 ⟨D, rfl, hD, hb⟩
  have HB1 := hide hb
  have HE1 := hide ((unhide HE).below hb)
  have HS1 := hide ((unhide HS).after hb)
  clear hb KG
  cases D with
  | true =>
    clear hD
    go_wp2_with fail
    refine (awakeT_any w1 (unhide HE1)).mono ?_
    rintro e w2 ⟨rfl, hb⟩
    have HB2 := hide (below_grow (unhide HB1) (Nat.le_refl _) hb)
    clear hb
    go_wp2_with fail
    go_ret
    exact ⟨rfl, unhide HB2⟩
  | false =>
    have HEOK := hide (eok_of (hD rfl) (by omega) (unhide HOK))
    have KP := hide (treeOf_any a cap l (unhide HEOK) w1 (unhide HS1))
    have KR := hide fun W h => refOf_any a cap l (unhide HEOK) W h
    have HTR := hide (ofT_tr l)
    have HBAD := hide (ofT_bad (l := l))
    generalize ofT l = R at KP KR HTR HBAD
    obtain ⟨T, E⟩ := R
    have KSN := hide (fun r c r2 c2 W h1 h2 => refSameT_any r r2 c c2 T T (unhide HTR).eok (unhide HTR).eok W h1 h2 true (by simp))
    have HF := hide (fun x (hx : x ∈ T) => And.intro (Nat.le_trans (leaf_fewT ((unhide HTR).leaf x hx).2).2 (show 64 ≤ 100000 by omega)) (fun v hv => Nat.le_trans (leaf_pasts ((unhide HTR).leaf x hx).2 v hv) (show 64 ≤ 100000 by omega)))
    have HFEW := hide (unhide HTR).few
    dsimp only at KP KR HTR HBAD KSN HF HFEW
    have hEE : (E == E) = true := by simp
    have hEN : (E != E) = false := by simp
    clear hD
    go_wp2_with fail
    refine (unhide KP).mono ?_
    rintro e w2 ⟨q, rfl, ht2, _, hb⟩
    have HB2 := hide (below_grow (unhide HB1) (Nat.le_refl _) hb)
    have HE2 := hide ((unhide HE1).below hb)
    have HS2 := hide ((unhide HS1).after hb)
    have HT2 := hide ht2
    clear hb ht2 KP
    go_wp2_with fail
    refine (unhide KR w2 (unhide HS2)).mono ?_
    rintro e w3 ⟨r, c, rfl, hc, hel, hb⟩
    have HB3 := hide (below_grow (unhide HB2) (Nat.le_refl _) hb)
    have HE3 := hide ((unhide HE2).below hb)
    have HT3 := hide ((unhide HT2).after hb)
    have HM3 := hide hel
    have HC3 := hide hc
    clear hb hel hc KR
    go_wp2_with fail
    have HP3 := hide (show StOf w q r T w3 from ⟨unhide HB3, unhide HE3, unhide HT3, unhide HM3⟩)
    clear HB3 HE3 HT3 HM3 HE2 HS2 HT2 HB2
    refine (entries_any q T (by have := unhide HFEW; omega) (unhide HF) w3 (unhide HP3).t).mono ?_
    rintro e w4 ⟨r4, c4, rfl, hc4, hel4, hb⟩
    have HP4 := hide (StOf.after (unhide HP3) hb)
    have HR4 := hide hel4
    clear hel4 hc4
    clear hb
    go_wp2_with fail
    refine (unhide KSN r4 c4 r c w4 (unhide HR4) (unhide HP4).m).mono ?_
    rintro e w5 ⟨rfl, hb⟩
    have HP5 := hide (StOf.after (unhide HP4) hb)
    clear hb
    have KR1 := hide fun W (h : StOf w q r T W) => treeRoot_any q T (unhide HTR) W h.t h.e.g h.e.s
    have KR2 := hide fun W (h : StOf w q r T W) => refRoot_any r c T (unhide HTR).eok W h.m h.e.k h.e.s
    have KS1 := hide fun W (h : StOf w q r T W) => treeSeen_any q T (unhide HTR) W h.t h.e.g h.e.s
    have KS2 := hide fun W (h : StOf w q r T W) => refShown_any r c T (unhide HTR).eok W h.m
    have KS3 := hide fun r5 c5 W (h : StOf w q r T W) (hel : EL W r5 (shownT T)) => refRoot_any r5 c5 (shownT T) (unhide HTR).shown.eok W hel h.e.k h.e.s
    have a1 := alikeE (rootT T) (sumN_len _)
    have a2 := alikeE (rootT (shownT T)) (sumN_len _)
    generalize (rootT T).map byteVal = D1 at KR1 KR2 a1
    generalize (rootT (shownT T)).map byteVal = D2 at KS1 KS3 a2
    go_wp2_with fail
    refine (unhide KR1 w5 (unhide HP5)).mono ?_
    rintro e w6 ⟨rfl, hb⟩
    have HP6 := hide (StOf.after (unhide HP5) hb)
    clear hb
    go_wp2_with fail
    refine (unhide KR2 w6 (unhide HP6)).mono ?_
    rintro e w7 ⟨rfl, hb⟩
    have HP7 := hide (StOf.after (unhide HP6) hb)
    clear hb
    go_wp2_with fail
    refine (unhide KS1 w7 (unhide HP7)).mono ?_
    rintro e w8 ⟨rfl, hb⟩
    have HP8 := hide (StOf.after (unhide HP7) hb)
    clear hb
    go_wp2_with fail
    refine (unhide KS2 w8 (unhide HP8)).mono ?_
    rintro e w9 ⟨r9, c9, rfl, hc9, hel9, hb⟩
    have HP9 := hide (StOf.after (unhide HP8) hb)
    have HR9 := hide hel9
    clear hel9 hc9
    clear hb
    go_wp2_with fail
    refine (unhide KS3 r9 c9 w9 (unhide HP9) (unhide HR9)).mono ?_
    rintro e w10 ⟨rfl, hb⟩
    have HP10 := hide (StOf.after (unhide HP9) hb)
    clear hb
    go_wp2_with fail
    refine (awakeT_any w10 (unhide HP10).e).mono ?_
    rintro e w11 ⟨rfl, hb⟩
    have HP11 := hide (StOf.after (unhide HP10) hb)
    clear hb
    go_wp2_with fail
    go_ret
    exact ⟨by first | rfl | simp, (unhide HP11).b⟩
end Go.Proofs.YtebjlmnhpfoglaaGreatDoor

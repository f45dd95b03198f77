/-
  The program's Reader: digests. Conditions: those that each theorem names.
-/
import Derived.Test.YtcgjcpnpkjahdaaP5
import Derived.Lib.BufferWrite
namespace Go.Proofs.Ytcgjcpnpkjahdaa
open Go.RowKit

/-- 'copy(d[:], rest)', d an array of 32 bytes, rest no shorter. -/
theorem copy32 (W : World) (B : Nat) (olds : List Value) (ho : olds.length = 32) (h : VRow W B 34 olds) (b : List UInt8) (hb : 32 ≤ b.length) (ty : TypeId) :
    ∃ W2, (Builtin.copy_ #[26, 9] ty #[.slice (some ⟨B, 0, none⟩) 32 32, .string (str b)]).run Try.prog W = .ok (.int .i64 32) W2 ∧ Only B W W2 ∧ VRow W2 B 34 ((b.take 32).map byteVal) := by
  have hnl : ((b.take 32).map byteVal).length = 32 := by rw [List.length_map, List.length_take]; omega
  have hst := run_storeCells_at Try.prog B 0 34 ((b.take 32).map byteVal) 0 olds.toArray W h (by rw [hnl]; simp [ho]) (one_bytes _)
  have hcell : olds.toArray.toList.take (0 + 0) ++ (b.take 32).map byteVal ++ olds.toArray.toList.drop (0 + 0 + ((b.take 32).map byteVal).length) = (b.take 32).map byteVal := by
    rw [hnl, List.toList_toArray, List.drop_of_length_le (by omega)]
    simp
  rw [hcell] at hst
  refine ⟨W.setRow B ((b.take 32).map byteVal).toArray, ?_, ⟨rfl, rfl, rfl, by simp, fun j hj => setRow_other W B j _ hj⟩, setRow_heap W B _ _ 34 (0, 0) h⟩
  have hmin : Nat.min (str b).size 32 = 32 := Nat.min_eq_right (by rw [str_size]; exact hb)
  rw [List.map_take] at hst
  have hfn : (byteVal : UInt8 → Value) = fun b => Value.int .u8 (b.toNat : Int) := rfl
  have hdt : (str b).data.toList = b := str_data b
  rw [hfn] at hst
  simp [Builtin.copy_, run_underlying Try.underlying26, Builtin.lenOf, Builtin.firstCells, Try.sizeOf5, hmin, hst, goInt, hdt, hfn]
theorem step_copy32 {ops : Array Oper} {rest : List Oper} {o : Oper} {a : Act} {w : World} {Q : Exit → Act → World → Prop} (hgd : o.guard = none) (d x : Operand)
    (hop : o.op = .call { callee := .builtin .copy, args := #[d, x], argTypes := #[26, 9] })
    (B : Nat) (hd : a.eval d = .slice (some ⟨B, 0, none⟩) 32 32) (b : List UInt8) (hx : a.eval x = .string (str b)) (olds : List Value) (ho : olds.length = 32) (hr : VRow w B 34 olds) (hb : 32 ≤ b.length)
    (h : ∀ w', Only B w w' → VRow w' B 34 ((b.take 32).map byteVal) → wpList Try.prog ops Q rest (a.put o.dst (.int .i64 32)) w') :
    wpList Try.prog ops Q (o :: rest) a w := by
  refine wpList_plain hgd fun K hK => ?_
  obtain ⟨w', hrun, h2, h3⟩ := copy32 w B olds ho hr b hb o.type
  unfold Oper.wp execOp
  simp only [hop, resolve, invoke, builtin, Sem.run_bind, Sem.run_pure, Result.andThen_ok, List.map_toArray, List.map_cons, List.map_nil, hd, hx, hrun]
  exact hK _ _ (h w' h2 h3)

theorem results_row50 (tmps : Array Value) (w : World) (g : Nat) (vs : List Value) (a b : Value) (hp : tmps.getD 2 undef = .pointer (some ⟨g, 0, none⟩)) (h3 : tmps.getD 3 undef = a) (h4 : tmps.getD 4 undef = b) (hr : VRow w g 34 vs) (hn : vs.length = 32) :
    (results Try.f50 tmps).run Try.prog w = .ok (.tuple #[.agg vs.toArray, a, b]) w := by
  have hp' : tmps[2]?.getD undef = .pointer (some ⟨g, 0, none⟩) := by simpa using hp
  have h3' : tmps[3]?.getD undef = a := by simpa using h3
  have h4' : tmps[4]?.getD undef = b := by simpa using h4
  have hl := run_loadVar_row (P := Try.prog) w g 34 34 vs.toArray (0, 0) _ hr Try.underlying34 rfl (by rw [size33]; simp [hn])
  simp [results, hp', h3', h4', asAddr, hl]
theorem results_row49 (tmps : Array Value) (w : World) (g : Nat) (vs : List Value) (hp : tmps.getD 4 undef = .pointer (some ⟨g, 0, none⟩)) (hr : VRow w g 34 vs) (hn : vs.length = 32) :
    (results Try.f49 tmps).run Try.prog w = .ok (.agg vs.toArray) w := by
  have hp' : tmps[4]?.getD undef = .pointer (some ⟨g, 0, none⟩) := by simpa using hp
  have hl := run_loadVar_row (P := Try.prog) w g 34 34 vs.toArray (0, 0) _ hr Try.underlying34 rfl (by rw [size33]; simp [hn])
  simp [results, hp', asAddr, hl]
theorem results_row24 (tmps : Array Value) (w : World) (g : Nat) (vs : List Value) (hp : tmps.getD 2 undef = .pointer (some ⟨g, 0, none⟩)) (hr : VRow w g 34 vs) (hn : vs.length = 32) :
    (results Try.f24 tmps).run Try.prog w = .ok (.agg vs.toArray) w := by
  have hp' : tmps[2]?.getD undef = .pointer (some ⟨g, 0, none⟩) := by simpa using hp
  have hl := run_loadVar_row (P := Try.prog) w g 34 34 vs.toArray (0, 0) _ hr Try.underlying34 rfl (by rw [size33]; simp [hn])
  simp [results, hp', asAddr, hl]

theorem below_only {n B : Nat} {a w w' : World} (h : Below n a w) (ho : Only B w w') (hn : n ≤ B) : Below n a w' := h.trans (ho.below hn)
theorem two_below (w : World) (A C : Obj) : Below w.heap.size w ((w.alloc A).alloc C) := ((Below.refl w.heap.size w).alloc (Nat.le_refl _) _).alloc (by simp) _

set_option maxRecDepth 100000 in
set_option maxHeartbeats 1000000 in
theorem digestAhead_short (b : List UInt8) (hb : b.length < 32) (w : World) :
    Calls Try.prog 50 #[.string (str b)] w fun e w' => e = .returned (.tuple #[.agg (zero32.map byteVal).toArray, .int .i64 0, .int .i64 5]) ∧ Below w.heap.size w w' := by
  have hz : ((str b).size : Int) < 32 := by rw [str_size]; omega
  generalize str b = S at *
  have HB := hide (two_below w (.cells (zero32.map byteVal).toArray 34) (.cells (zero32.map byteVal).toArray 34))
  go_enter Try.func50, Try.ntmps50
  go_wp2_with (first
    | (refine load_row (by rfl) 34 (.tmp 5) (by rfl) (w.heap.size + 1) (by rfl) 34 (zero32.map byteVal) (VRow.newAt (by simp)) 32 32 5 Try.underlying34 size33 (by rfl) ?_)
    | (refine store_row (by rfl) 34 (.tmp 2) (.tmp 9) (by rfl) w.heap.size (zero32.map byteVal) (by rfl) (by rfl) 34 (zero32.map byteVal) ((VRow.new w 34 (zero32.map byteVal)).alloc _) 32 size33 rfl rfl (one_bytes _) ?_; intro w2 ho2 hr2; have HR2 := hide hr2; have HO2 := hide ho2; clear ho2 hr2))
  refine bodyPost_ret (v := .tuple #[.agg (zero32.map byteVal).toArray, .int .i64 0, .int .i64 5]) ?_ rfl ⟨rfl, ?_⟩
  · exact results_row50 _ _ w.heap.size _ _ _ rfl rfl rfl (unhide HR2) rfl
  · exact below_only (unhide HB) (unhide HO2) (Nat.le_refl _)

set_option maxRecDepth 100000 in
set_option maxHeartbeats 1000000 in
theorem digestAhead_good' (b d : List UInt8) (hb : 32 ≤ b.length) (hd : b.take 32 = d) (w : World) :
    Calls Try.prog 50 #[.string (str b)] w fun e w' => e = .returned (.tuple #[.agg (d.map byteVal).toArray, .int .i64 32, .int .i64 0]) ∧ Below w.heap.size w w' := by
  have hz : ¬ ((str b).size : Int) < 32 := by rw [str_size]; omega
  have hl : (d.map byteVal).length = 32 := by rw [← hd, List.length_map, List.length_take]; omega
  have HL := hide hl
  have HB' := hide hb
  have HD := hide hd
  have HB := hide (two_below w (.cells (zero32.map byteVal).toArray 34) (.cells (zero32.map byteVal).toArray 34))
  have hsl := slice_dig (w.heap.size + 1) ((w.alloc (.cells (zero32.map byteVal).toArray 34)).alloc (.cells (zero32.map byteVal).toArray 34))
  clear hl hb hd
  go_enter Try.func50, Try.ntmps50
  go_wp2_with (first
    | (refine step_copy32 (by rfl) _ _ (by rfl) (w.heap.size + 1) (by rfl) b (by rfl) (zero32.map byteVal) (by rfl) (VRow.newAt (by simp)) (unhide HB') ?_; rw [unhide HD]; intro w1 ho1 hr1; have HR1 := hide hr1; have HO1 := hide ho1; have HZ1 := hide (((VRow.new w 34 (zero32.map byteVal)).alloc _).only ho1 (by omega)); clear ho1 hr1 hsl)
    | (refine load_row (by rfl) 34 (.tmp 5) (by rfl) (w.heap.size + 1) (by rfl) 34 (d.map byteVal) (unhide HR1) 32 32 5 Try.underlying34 size33 (unhide HL) ?_)
    | (refine store_row (by rfl) 34 (.tmp 2) (.tmp 13) (by rfl) w.heap.size (d.map byteVal) (by rfl) (by rfl) 34 (zero32.map byteVal) (unhide HZ1) 32 size33 (unhide HL) rfl (one_bytes _) ?_; intro w2 ho2 hr2; have HR2 := hide hr2; have HO2 := hide ho2; clear ho2 hr2))
  refine bodyPost_ret (v := .tuple #[.agg (d.map byteVal).toArray, .int .i64 32, .int .i64 0]) ?_ rfl ⟨rfl, ?_⟩
  · exact results_row50 _ _ w.heap.size _ _ _ rfl rfl rfl (unhide HR2) (unhide HL)
  · exact below_only (below_only (unhide HB) (unhide HO1) (by omega)) (unhide HO2) (Nat.le_refl _)

/-- What digestAhead answers. -/
def aheadD (b : List UInt8) : List UInt8 × Nat × Int := if b.length < 32 then (zero32, 0, 5) else (b.take 32, 32, 0)
theorem aheadD_len (b : List UInt8) : (aheadD b).1.length = 32 := by
  unfold aheadD
  split
  · rfl
  · show (b.take 32).length = 32
    rw [List.length_take]; omega
theorem aheadD_ok (b : List UInt8) : (aheadD b).2.2 = 0 → (aheadD b).2.1 ≤ b.length := by
  unfold aheadD
  split
  · intro h; cases h
  · intro _; show 32 ≤ b.length; omega
theorem rDigest_ahead (st : St) : rDigest st = (got st (aheadD st.1).2.2 zero32 (aheadD st.1).1, cut st (aheadD st.1).2.1 (aheadD st.1).2.2) := by
  obtain ⟨b, e⟩ := st
  unfold rDigest got cut aheadD
  by_cases h0 : e ≠ 0
  · simp [h0]
  · have h0' : e = 0 := by simpa using h0
    subst h0'
    by_cases h1 : b.length < 32
    · simp [h1]
    · simp [h1]
theorem digestAhead_any (b : List UInt8) (w : World) :
    Calls Try.prog 50 #[.string (str b)] w fun e w' => e = .returned (.tuple #[.agg ((aheadD b).1.map byteVal).toArray, .int .i64 (aheadD b).2.1, .int .i64 (aheadD b).2.2]) ∧ Below w.heap.size w w' := by
  by_cases h : b.length < 32
  · rw [show aheadD b = (zero32, 0, 5) from if_pos h]
    exact digestAhead_short b h w
  · rw [show aheadD b = (b.take 32, 32, 0) from if_neg h]
    exact digestAhead_good' b _ (by omega) rfl w

/-- Two new arrays of 32 zeros. -/
structure Start (w w1 : World) : Prop where
  z0 : VRow w1 w.heap.size 34 (zero32.map byteVal)
  z1 : VRow w1 (w.heap.size + 1) 34 (zero32.map byteVal)
  below : Below w.heap.size w w1
theorem start_of {w w1 : World} (h : w1 = (w.alloc (.cells (zero32.map byteVal).toArray 34)).alloc (.cells (zero32.map byteVal).toArray 34)) : Start w w1 := by
  subst h
  exact ⟨(VRow.new w 34 _).alloc _, VRow.newAt (by simp), two_below w _ _⟩
def DigMade (q : Nat) (w : World) (st : St) (d : List UInt8) (e : Ending) (w' : World) : Prop := e = .returned (.agg (d.map byteVal).toArray) ∧ RdAt w' q st ∧ Beside (· = q) w w'

set_option maxRecDepth 100000 in
set_option maxHeartbeats 400000 in
theorem rfail_zero {w : World} {q : Nat} {b : List UInt8} (h : RdAt w q (b, 0)) (x : Int) :
    Calls Try.prog 26 #[.pointer (some ⟨q, 0, none⟩), .int .i64 x] w fun e w' => e = .returned (.tuple #[]) ∧ w' = w.setCell ⟨q, 1, none⟩ (.int .i64 x) := by
  have K := hide (rerr_at h)
  have f1 := h.frozen 1
  have c1 := h.cell 1 _ rfl
  dsimp only at K c1
  clear h
  go_enter Try.func26, Try.ntmps26
  go_wp2_with (go_at_call 28; refine (unhide K).mono ?_; rintro y w1 ⟨rfl, rfl⟩)
  go_end0
  exact ⟨rfl, rfl⟩

set_option maxRecDepth 100000 in
set_option maxHeartbeats 1000000 in
theorem takeD_bad {w : World} {q : Nat} {b : List UInt8} {e : Int} (he : e ≠ 0) (h : RdAt w q (b, e)) :
    Calls Try.prog 49 #[.pointer (some ⟨q, 0, none⟩), .func (.func 50) #[] #[]] w (DigMade q w (b, e) zero32) := by
  have hq := h.lt
  have HA := hide h
  have KE := hide fun W (h : RdAt W q (b, e)) => rerr_at h
  have hne : (e != 0) = true := by simp [he]
  clear h
  go_enter Try.func49, Try.ntmps49
  go_wp2_with (first
    | (go_at_call 28; refine (unhide KE _ (((unhide HA).alloc _).alloc _)).mono ?_; rintro y w1 ⟨rfl, hw⟩; have HS := hide (start_of hw); clear hw)
    | (refine load_row (by rfl) 34 (.tmp 5) (by rfl) (w.heap.size + 1) (by rfl) 34 (zero32.map byteVal) (unhide HS).z1 32 32 5 Try.underlying34 size33 (by rfl) ?_)
    | (refine store_row (by rfl) 34 (.tmp 4) (.tmp 12) (by rfl) w.heap.size (zero32.map byteVal) (by rfl) (by rfl) 34 (zero32.map byteVal) (unhide HS).z0 32 size33 rfl rfl (one_bytes _) ?_; intro w2 ho2 hr2; have HR2 := hide hr2; have HO2 := hide ho2; clear ho2 hr2))
  have H := below_only (unhide HS).below (unhide HO2) (Nat.le_refl _)
  refine bodyPost_ret (v := .agg (zero32.map byteVal).toArray) ?_ rfl ⟨rfl, (unhide HA).after H, beside_of H⟩
  exact results_row49 _ _ w.heap.size _ rfl (unhide HR2) rfl

set_option maxRecDepth 100000 in
set_option maxHeartbeats 1000000 in
theorem takeD_wrong {w : World} {q : Nat} {b d : List UInt8} {k : Nat} {x : Int} (hx : x ≠ 0) (hd : d.length = 32) (h : RdAt w q (b, 0))
    (K : ∀ W, Calls Try.prog 50 #[.string (str b)] W fun e w' => e = .returned (.tuple #[.agg (d.map byteVal).toArray, .int .i64 k, .int .i64 x]) ∧ Below W.heap.size W w') :
    Calls Try.prog 49 #[.pointer (some ⟨q, 0, none⟩), .func (.func 50) #[] #[]] w (DigMade q w (b, x) zero32) := by
  have hq := h.lt
  have HA := hide h
  have HD := hide (show (d.map byteVal).length = 32 from by rw [List.length_map]; exact hd)
  have KE := hide fun W (h : RdAt W q (b, 0)) => rerr_at h
  have KA := hide K
  have KF := hide fun W (h : RdAt W q (b, 0)) => rfail_zero h x
  have hne : (x != 0) = true := by simp [hx]
  clear h K hd
  go_enter Try.func49, Try.ntmps49
  go_wp2_with (first
    | (go_at_call 28; refine (unhide KE _ (((unhide HA).alloc _).alloc _)).mono ?_; rintro y w1 ⟨rfl, hw⟩; have HS := hide (start_of hw); have HA1 := hide ((unhide HA).after (unhide HS).below); have c0 := (unhide HA1).cell 0 _ rfl; dsimp only at c0; clear hw)
    | (go_at_call 50; refine (unhide KA _).mono ?_; rintro y w2 ⟨rfl, hb⟩; have HB := hide hb; clear hb c0)
    | (refine store_row (by rfl) 34 (.tmp 6) (.tmp 20) (by rfl) w2.heap.size (d.map byteVal) (by rfl) (by rfl) 34 (zero32.map byteVal) (VRow.newAt rfl) 32 size33 (unhide HD) rfl (one_bytes _) ?_; intro w3 ho3 hr3; have HO3 := hide ho3; have HB3 := hide (below_only ((unhide HB).alloc (unhide HB).size (.cells (zero32.map byteVal).toArray 34)) ho3 (unhide HB).size); have HA3 := hide ((unhide HA1).after (unhide HB3)); have HZ0 := hide ((unhide HS).z0.after (unhide HB3)); have HZ1 := hide ((unhide HS).z1.after (unhide HB3)); clear ho3 hr3)
    | (go_at_call 26; refine (unhide KF _ (unhide HA3)).mono ?_; rintro y w4 ⟨rfl, hw⟩; subst hw; have HY0 := hide ((unhide HZ0).setNe (B := q) (by omega) 1 (.int .i64 x)); have HY1 := hide ((unhide HZ1).setNe (B := q) (by omega) 1 (.int .i64 x)))
    | (refine load_row (by rfl) 34 (.tmp 5) (by rfl) (w.heap.size + 1) (by rfl) 34 (zero32.map byteVal) (unhide HY1) 32 32 5 Try.underlying34 size33 (by rfl) ?_)
    | (refine store_row (by rfl) 34 (.tmp 4) (.tmp 28) (by rfl) w.heap.size (zero32.map byteVal) (by rfl) (by rfl) 34 (zero32.map byteVal) (unhide HY0) 32 size33 rfl rfl (one_bytes _) ?_; intro w5 ho5 hr5; have HR5 := hide hr5; have HO5 := hide ho5; clear ho5 hr5))
  refine bodyPost_ret (v := .agg (zero32.map byteVal).toArray) ?_ rfl ⟨rfl, ?_, ?_⟩
  · exact results_row49 _ _ w.heap.size _ rfl (unhide HR5) rfl
  · exact ((unhide HA3).set 1 (.int .i64 x)).only (unhide HO5) (by omega)
  · exact ((beside_of ((unhide HS).below.trans ((unhide HB3).mono (unhide HS).below.size))).trans (beside_set q 1 _ _)).only (unhide HO5) (Nat.le_refl _)

set_option maxRecDepth 100000 in
set_option maxHeartbeats 1000000 in
theorem takeD_good {w : World} {q : Nat} {b d : List UInt8} {k : Nat} (hk : k ≤ b.length) (hs : b.length ≤ 50000000) (hd : d.length = 32) (h : RdAt w q (b, 0))
    (K : ∀ W, Calls Try.prog 50 #[.string (str b)] W fun e w' => e = .returned (.tuple #[.agg (d.map byteVal).toArray, .int .i64 k, .int .i64 0]) ∧ Below W.heap.size W w') :
    Calls Try.prog 49 #[.pointer (some ⟨q, 0, none⟩), .func (.func 50) #[] #[]] w (DigMade q w (b.drop k, 0) d) := by
  have hq := h.lt
  have HA := hide h
  have HD := hide (show (d.map byteVal).length = 32 from by rw [List.length_map]; exact hd)
  have KE := hide fun W (h : RdAt W q (b, 0)) => rerr_at h
  have KA := hide K
  have hsz : (str b).size ≤ 50000000 := by rw [str_size]; exact hs
  have hks : k ≤ (str b).size := by rw [str_size]; exact hk
  have HX : Hid ((str b).extract k (str b).size = str (b.drop k)) := hide (ext_tail b k)
  have HT := hide fun W (h : RdAt W q (b, 0)) => show RdAt (W.setCell ⟨q, 0, none⟩ (.string ((str b).extract k (str b).size))) q (b.drop k, 0) from by
    have h2 := VRow.set h 0 (.string (str (b.drop k)))
    rw [unhide HX]
    exact h2
  clear h K hd hk hs HX
  generalize b.drop k = R at *
  go_enter Try.func49, Try.ntmps49
  go_wp2_with (first
    | (go_at_call 28; refine (unhide KE _ (((unhide HA).alloc _).alloc _)).mono ?_; rintro y w1 ⟨rfl, hw⟩; have HS := hide (start_of hw); have HA1 := hide ((unhide HA).after (unhide HS).below); have c0 := (unhide HA1).cell 0 _ rfl; dsimp only at c0; clear hw)
    | (go_at_call 50; refine (unhide KA _).mono ?_; rintro y w2 ⟨rfl, hb⟩; have HB := hide hb; clear hb c0)
    | (refine store_row (by rfl) 34 (.tmp 6) (.tmp 20) (by rfl) w2.heap.size (d.map byteVal) (by rfl) (by rfl) 34 (zero32.map byteVal) (VRow.newAt rfl) 32 size33 (unhide HD) rfl (one_bytes _) ?_; intro w3 ho3 hr3; have HO3 := hide ho3; have HB3 := hide (below_only ((unhide HB).alloc (unhide HB).size (.cells (zero32.map byteVal).toArray 34)) ho3 (unhide HB).size); have HA3 := hide ((unhide HA1).after (unhide HB3)); have HZ0 := hide ((unhide HS).z0.after (unhide HB3)); have hqb := Nat.lt_of_lt_of_le (unhide HA1).lt (unhide HB).size; have HY6 := hide (hr3.setNe (B := q) (by omega) 0 (.string ((str b).extract k (str b).size))); have HY0 := hide ((unhide HZ0).setNe (B := q) (by omega) 0 (.string ((str b).extract k (str b).size))); have c3 := (unhide HA3).cell 0 _ rfl; have f3 := (unhide HA3).frozen 0; try dsimp only at c3; clear ho3 hr3 hqb)
    | (refine load_row (by rfl) 34 (.tmp 6) (by rfl) w2.heap.size (by rfl) 34 (d.map byteVal) (unhide HY6) 32 32 5 Try.underlying34 size33 (unhide HD) ?_)
    | (refine store_row (by rfl) 34 (.tmp 4) (.tmp 38) (by rfl) w.heap.size (d.map byteVal) (by rfl) (by rfl) 34 (zero32.map byteVal) (unhide HY0) 32 size33 (unhide HD) rfl (one_bytes _) ?_; intro w5 ho5 hr5; have HR5 := hide hr5; have HO5 := hide ho5; clear ho5 hr5))
  refine bodyPost_ret (v := .agg (d.map byteVal).toArray) ?_ rfl ⟨rfl, ?_, ?_⟩
  · exact results_row49 _ _ w.heap.size _ rfl (unhide HR5) (unhide HD)
  · exact (unhide HT _ (unhide HA3)).only (unhide HO5) (by omega)
  · exact ((beside_of ((unhide HS).below.trans ((unhide HB3).mono (unhide HS).below.size))).trans (beside_set q 0 _ _)).only (unhide HO5) (Nat.le_refl _)
end Go.Proofs.Ytcgjcpnpkjahdaa

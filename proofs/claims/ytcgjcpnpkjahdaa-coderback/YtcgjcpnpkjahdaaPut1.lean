/-
  The law's example, and what the law's put does with a piece: into a writer, and into none.
-/
import Derived.Test.YtcgjcpnpkjahdaaPrg
import Derived.Deep.RegionHeld3
namespace Go.Proofs.Ytcgjcpnpkjahdaa
open Go.RowKit

set_option maxRecDepth 100000 in
set_option maxHeartbeats 1000000 in
theorem awake_any {Wr Rd} (P : Prg Wr Rd) (w : World) : Calls Try.prog 8 #[] w fun e w' => e = .returned (.bool true) ∧ Below w.heap.size w w' := by
  have PP := hide P
  clear P
  obtain ⟨own0, hw0, ho0⟩ := (unhide PP).wzero w
  have HW0 := hide hw0
  have HO0 := hide ho0
  have HB0 := hide (below_alloc' (w := w) (.cells zeroW 29))
  clear hw0 ho0
  go_enter Try.func8, Try.ntmps8
  go_wp2_with fail
  refine ((unhide PP).wNumber (unhide HW0) (by simp) 300 ⟨by omega, by omega⟩).mono ?_
  rintro e w1 ⟨own1, rfl, hw1, ho1, hb1⟩
  have HO1 := hide (own_beside (unhide HB0) (Nat.le_refl _) (unhide HO0) ho1)
  have HB1 := hide (below_beside (unhide HB0) (Nat.le_refl _) (unhide HO0) hb1)
  have HW1 := hide hw1
  clear hw1 ho1 hb1 HW0 HO0 HB0
  go_wp2_with fail
  refine ((unhide PP).wText (unhide HW1) (by decide) ⟨#[97, 98]⟩ (by decide)).mono ?_
  rintro e w2 ⟨own2, rfl, hw2, ho2, hb2⟩
  have HO2 := hide (own_beside (unhide HB1) (Nat.le_refl _) (unhide HO1) ho2)
  have HB2 := hide (below_beside (unhide HB1) (Nat.le_refl _) (unhide HO1) hb2)
  have HW2 := hide hw2
  clear hw2 ho2 hb2 HW1 HO1 HB1
  go_wp2_with fail
  refine ((unhide PP).wFlag (unhide HW2) (by decide) true).mono ?_
  rintro e w3 ⟨own3, rfl, hw3, ho3, hb3⟩
  have HB3 := hide (below_beside (unhide HB2) (Nat.le_refl _) (unhide HO2) hb3)
  have HW3 := hide hw3
  clear hw3 ho3 hb3 HW2 HO2 HB2
  go_wp2_with fail
  refine ((unhide PP).wDone (unhide HW3) (by decide)).mono ?_
  rintro e w4 ⟨rfl, hb4⟩
  have HB4 := hide (below_grow (unhide HB3) (Nat.le_refl _) hb4)
  clear hb4 HW3 HB3
  rw [show str (told (wFlag (wText (wNumber ([], 0) 300) ⟨#[97, 98]⟩) true)) = ⟨#[172, 2, 2, 97, 98, 1]⟩ from by decide]
  rw [show (wFlag (wText (wNumber ([], 0) 300) ⟨#[97, 98]⟩) true).2 = 0 from by decide]
  go_wp2_with fail
  go_ret
  exact ⟨rfl, unhide HB4⟩

theorem wrap_i64_in (m : Int) : I64 (IntKind.i64.wrap m) := by
  rw [IntKind.wrap_i64]
  unfold I64
  omega
theorem low4_i64 (n : Int) : I64 (low4 n) := wrap_i64_in _
theorem and15 (n : Int) : bits BinOp.and IntKind.i64 n 15 = low4 n := rfl
theorem wPiece0 {st : St} {x : Pc} (h : x.kind = 0) : wPiece st x = wNumber st x.n := if_pos h
theorem wPiece1 {st : St} {x : Pc} (h : x.kind = 1) : wPiece st x = wText st x.s := by unfold wPiece; rw [if_neg (by omega), if_pos h]
theorem wPiece2 {st : St} {x : Pc} (h : x.kind = 2) : wPiece st x = wFlag st (x.n == 1) := by unfold wPiece; rw [if_neg (by omega), if_neg (by omega), if_pos h]
theorem wPiece3 {st : St} {x : Pc} (h : x.kind = 3) : wPiece st x = wDigest st x.d := by unfold wPiece; rw [if_neg (by omega), if_neg (by omega), if_neg (by omega), if_pos h]
theorem wPiece4 {st : St} {x : Pc} (h : x.kind = 4) : wPiece st x = fail st (low4 x.n) := by unfold wPiece; rw [if_neg (by omega), if_neg (by omega), if_neg (by omega), if_neg (by omega), if_pos h]
theorem wPiece5 {st : St} {x : Pc} (h0 : x.kind ≠ 0) (h1 : x.kind ≠ 1) (h2 : x.kind ≠ 2) (h3 : x.kind ≠ 3) (h4 : x.kind ≠ 4) : wPiece st x = st := by unfold wPiece; rw [if_neg h0, if_neg h1, if_neg h2, if_neg h3, if_neg h4]

set_option maxRecDepth 100000 in
set_option maxHeartbeats 1000000 in
theorem put_any {Wr Rd} (P : Prg Wr Rd) (p : Addr) (st : St) (own : Nat → Prop) (x : Pc) (hx : Pok x) (hs : st.1.length ≤ 50000000) (w : World) (h : Wr w p st own) :
    Calls Try.prog 9 #[.pointer (some p), .agg (pcL x).toArray] w (Turned Wr own p w (wPiece st x) (.tuple #[])) := by
  have PP := hide P
  clear P
  obtain ⟨hk, hn, hsz, hd⟩ := hx
  have HN := hide hn
  have HSZ := hide hsz
  have HDl := hide hd
  have HW0 := hide ((unhide PP).wafter h (below_alloc' (.cells (pcL x).toArray 36)))
  have HB0 := hide (below_alloc' (w := w) (.cells (pcL x).toArray 36))
  have hr := VRow.new w 36 (pcL x)
  have c0 := hr.cell 0 _ rfl
  have c1 := hr.cell 1 _ rfl
  have c2 := hr.cell 2 _ rfl
  have HR := hide (range_d (x := x) hr.range)
  clear h hk hn hsz hd hr
  rw [Nat.zero_add] at HR
  have fin : ∀ (st' : St) (e : Ending) (w' : World), Turned Wr own p (w.alloc (.cells (pcL x).toArray 36)) st' (.tuple #[]) e w' → Turned Wr own p w st' (.tuple #[]) e w' := fun st' e w' ⟨own', h1, h2, h3, h4⟩ => ⟨own', h1, h2, fun g hg => (h3 g hg).imp id fun h => by have := (unhide HB0).size; omega, (beside_of (unhide HB0)).trans h4⟩
  have FIN := hide fin
  clear fin
  generalize hL : (pcL x).toArray = L at *
  clear hL
  by_cases h0 : x.kind = 0
  · rw [wPiece0 h0]
    rw [h0] at c0
    go_enter Try.func9, Try.ntmps9
    go_wp2_with fail
    refine ((unhide PP).wNumber (unhide HW0) hs x.n (unhide HN)).mono ?_
    intro e w1 hm
    obtain ⟨own1, rfl, h1, h2, h3⟩ := unhide FIN _ _ _ hm
    have H1 := hide h1
    have H2 := hide h2
    have H3 := hide h3
    clear hm h1 h2 h3
    go_wp2_with fail
    go_end0
    exact ⟨own1, rfl, unhide H1, unhide H2, unhide H3⟩
  · by_cases h1 : x.kind = 1
    · rw [wPiece1 h1]
      rw [h1] at c0
      go_enter Try.func9, Try.ntmps9
      go_wp2_with fail
      refine ((unhide PP).wText (unhide HW0) hs x.s (unhide HSZ)).mono ?_
      intro e w1 hm
      obtain ⟨own1, rfl, h1, h2, h3⟩ := unhide FIN _ _ _ hm
      have H1 := hide h1
      have H2 := hide h2
      have H3 := hide h3
      clear hm h1 h2 h3
      go_wp2_with fail
      go_end0
      exact ⟨own1, rfl, unhide H1, unhide H2, unhide H3⟩
    · by_cases h2 : x.kind = 2
      · rw [wPiece2 h2]
        rw [h2] at c0
        go_enter Try.func9, Try.ntmps9
        go_wp2_with fail
        refine ((unhide PP).wFlag (unhide HW0) hs (x.n == 1)).mono ?_
        intro e w1 hm
        obtain ⟨own1, rfl, h1, h2, h3⟩ := unhide FIN _ _ _ hm
        have H1 := hide h1
        have H2 := hide h2
        have H3 := hide h3
        clear hm h1 h2 h3
        go_wp2_with fail
        go_end0
        exact ⟨own1, rfl, unhide H1, unhide H2, unhide H3⟩
      · by_cases h3 : x.kind = 3
        · rw [wPiece3 h3]
          rw [h3] at c0
          go_enter Try.func9, Try.ntmps9
          go_wp2_with (refine wpList_load_mid (by rfl) 34 (.tmp 28) (by rfl) w.heap.size 3 (by rfl) (x.d.map byteVal) _ (unhide HR) Try.underlying34 rfl (by rw [size33, List.length_map]; exact congrArg some (unhide HDl).symm) ?_)
          refine ((unhide PP).wDigest (unhide HW0) hs x.d (unhide HDl)).mono ?_
          intro e w1 hm
          obtain ⟨own1, rfl, h1, h2, h3⟩ := unhide FIN _ _ _ hm
          have H1 := hide h1
          have H2 := hide h2
          have H3 := hide h3
          clear hm h1 h2 h3
          go_wp2_with fail
          go_end0
          exact ⟨own1, rfl, unhide H1, unhide H2, unhide H3⟩
        · by_cases h4 : x.kind = 4
          · rw [wPiece4 h4]
            rw [h4] at c0
            have hand := and15 x.n
            go_enter Try.func9, Try.ntmps9
            go_wp2_with fail
            refine ((unhide PP).wFail (unhide HW0) (low4 x.n) (low4_i64 x.n)).mono ?_
            intro e w1 hm
            obtain ⟨own1, rfl, h1, h2, h3⟩ := unhide FIN _ _ _ hm
            have H1 := hide h1
            have H2 := hide h2
            have H3 := hide h3
            clear hm h1 h2 h3
            go_wp2_with fail
            go_end0
            exact ⟨own1, rfl, unhide H1, unhide H2, unhide H3⟩
          · rw [wPiece5 h0 h1 h2 h3 h4]
            go_enter Try.func9, Try.ntmps9
            go_wp2_with fail
            go_end0
            exact ⟨own, rfl, unhide HW0, fun g hg => .inl hg, beside_of (unhide HB0)⟩

set_option maxRecDepth 100000 in
set_option maxHeartbeats 1000000 in
theorem put_nil {Wr Rd} (P : Prg Wr Rd) (x : Pc) (hx : Pok x) (w : World) :
    Calls Try.prog 9 #[.pointer none, .agg (pcL x).toArray] w (Told w (.tuple #[])) := by
  have PP := hide P
  clear P
  obtain ⟨hk, hn, hsz, hd⟩ := hx
  have HN := hide hn
  have HSZ := hide hsz
  have HDl := hide hd
  have HB0 := hide (below_alloc' (w := w) (.cells (pcL x).toArray 36))
  have hr := VRow.new w 36 (pcL x)
  have c0 := hr.cell 0 _ rfl
  have c1 := hr.cell 1 _ rfl
  have c2 := hr.cell 2 _ rfl
  have HR := hide (range_d (x := x) hr.range)
  clear hk hn hsz hd hr
  rw [Nat.zero_add] at HR
  generalize hL : (pcL x).toArray = L at *
  clear hL
  by_cases h0 : x.kind = 0
  · rw [h0] at c0
    go_enter Try.func9, Try.ntmps9
    go_wp2_with fail
    refine ((unhide PP).nwNumber x.n _ (unhide HN)).mono ?_
    rintro e w1 ⟨rfl, hb⟩
    have H1 := hide (below_grow (unhide HB0) (Nat.le_refl _) hb)
    clear hb
    go_wp2_with fail
    go_end0
    exact ⟨rfl, unhide H1⟩
  · by_cases h1 : x.kind = 1
    · rw [h1] at c0
      go_enter Try.func9, Try.ntmps9
      go_wp2_with fail
      refine ((unhide PP).nwText x.s _ (unhide HSZ)).mono ?_
      rintro e w1 ⟨rfl, hb⟩
      have H1 := hide (below_grow (unhide HB0) (Nat.le_refl _) hb)
      clear hb
      go_wp2_with fail
      go_end0
      exact ⟨rfl, unhide H1⟩
    · by_cases h2 : x.kind = 2
      · rw [h2] at c0
        go_enter Try.func9, Try.ntmps9
        go_wp2_with fail
        refine ((unhide PP).nwFlag (x.n == 1) _).mono ?_
        rintro e w1 ⟨rfl, hb⟩
        have H1 := hide (below_grow (unhide HB0) (Nat.le_refl _) hb)
        clear hb
        go_wp2_with fail
        go_end0
        exact ⟨rfl, unhide H1⟩
      · by_cases h3 : x.kind = 3
        · rw [h3] at c0
          go_enter Try.func9, Try.ntmps9
          go_wp2_with (refine wpList_load_mid (by rfl) 34 (.tmp 28) (by rfl) w.heap.size 3 (by rfl) (x.d.map byteVal) _ (unhide HR) Try.underlying34 rfl (by rw [size33, List.length_map]; exact congrArg some (unhide HDl).symm) ?_)
          refine ((unhide PP).nwDigest x.d _ (unhide HDl)).mono ?_
          rintro e w1 ⟨rfl, hb⟩
          have H1 := hide (below_grow (unhide HB0) (Nat.le_refl _) hb)
          clear hb
          go_wp2_with fail
          go_end0
          exact ⟨rfl, unhide H1⟩
        · by_cases h4 : x.kind = 4
          · rw [h4] at c0
            have hand := and15 x.n
            go_enter Try.func9, Try.ntmps9
            go_wp2_with fail
            refine ((unhide PP).nwFail (low4 x.n) _ (low4_i64 x.n)).mono ?_
            rintro e w1 ⟨rfl, hb⟩
            have H1 := hide (below_grow (unhide HB0) (Nat.le_refl _) hb)
            clear hb
            go_wp2_with fail
            go_end0
            exact ⟨rfl, unhide H1⟩
          · go_enter Try.func9, Try.ntmps9
            go_wp2_with fail
            go_end0
            exact ⟨rfl, unhide HB0⟩
end Go.Proofs.Ytcgjcpnpkjahdaa

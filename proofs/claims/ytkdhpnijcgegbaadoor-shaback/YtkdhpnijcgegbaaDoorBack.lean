/-
  The walk of the statement that a digest in signs is read as it was, and the other way.
-/
import Derived.Test.YtkdhpnijcgegbaaDoorReads
namespace Go.Proofs.YtkdhpnijcgegbaaDoor
open Go.RowKit

theorem mk_size (l : List UInt8) : (⟨l.toArray⟩ : ByteArray).size = l.length := by
  show l.toArray.size = l.length
  rw [List.size_toArray]

/-- A whole row out of a block, the load guarded and wanted. -/
theorem load_row_want {ops : Array Oper} {rest : List Oper} {o : Oper} {a : Act} {w : World} {Q : Exit → Act → World → Prop} (hw : Region.wanted o (yielded ops a.tmps) = true) (T : TypeId) (x : Operand) (ho : o.op = .load T x)
    (B : Nat) (hx : a.eval x = .pointer (some ⟨B, 0, none⟩)) (T' : TypeId) (vs : List Value) (hr : VRow w B T' vs) (n m : Nat) (e : TypeId) (hu : Tryd.prog.underlying T = some (.array m e))
    (hi : (Tryd.prog.info? T).map (·.size) = some n) (hn : vs.length = n)
    (h : wpList Tryd.prog ops Q rest (a.put o.dst (.agg vs.toArray)) w) : wpList Tryd.prog ops Q (o :: rest) a w :=
  wpList_step fun _ hK => by rw [if_pos hw]; exact wp_load_row T x ho B hx T' vs.toArray (0, 0) _ hr hu rfl (by rw [hi]; simp [hn]) (hK _ _ h)

set_option maxRecDepth 100000 in
set_option maxHeartbeats 1000000 in
theorem back_walk (d : List UInt8) (hd : d.length = 32) (s : ByteArray) (hs : s.size ≤ maxLen) (w : World) (hG : Glob w) :
    Calls Tryd.prog 7 #[.agg (d.map byteVal).toArray, .string s] w fun e w' => e = .returned (.bool true) ∧ Below w.heap.size w w' := by
  have h2 := hG.lt2
  have HG := hide hG
  have HH := hide (hex_any d hd)
  have HX := hide (unhex_any ⟨(Sha.hex d).toArray⟩ (by rw [mk_size, Sha.hex_len, hd]; decide) d 0 (Sha.unhex_hex d hd))
  generalize (⟨(Sha.hex d).toArray⟩ : ByteArray) = X at HH HX
  obtain ⟨U, E, hU⟩ : ∃ U E, Sha.unhex s.data.toList = (U, E) := ⟨_, _, rfl⟩
  have hUl : U.length = 32 := by have := Sha.unhex_len s.data.toList; rwa [hU] at this
  have HA := hide (unhex_any s hs U E hU)
  have HK : Hid (E = 0 → ∀ w : World, Calls Tryd.prog 13 #[.agg (U.map byteVal).toArray] w fun e w' => e = .returned (.string s) ∧ Below w.heap.size w w') := hide fun h0 w => by
    subst h0
    have e := Sha.hex_unhex _ _ hU
    refine hexd_any U hUl s ?_ w
    apply ByteArray.ext
    apply Array.toList_inj.1
    rw [e]
  have hsm := same24 d hd
  have hone := one_bytes d
  have hone2 := one_bytes U
  obtain ⟨us, hus⟩ : ∃ us, U.map byteVal = us := ⟨_, rfl⟩
  have hul : us.length = 32 := by rw [← hus]; simp [hUl]
  rw [hus] at HA HK hone2
  obtain ⟨vs, hvs⟩ : ∃ vs, d.map byteVal = vs := ⟨_, rfl⟩
  have hvl : vs.length = 32 := by rw [← hvs]; simp [hd]
  rw [hvs] at HH HX hsm hone ⊢
  clear hG hU hUl hvs hs hus hd
  have HB0 := hide ((Below.refl w.heap.size w).alloc (Nat.le_refl _) (.cells vs.toArray 24))
  have HR0 := hide (VRow.new w 24 vs)
  by_cases hE : E = 0
  · have hK := unhide HK hE
    have HK2 := hide hK
    have hE1 : ((E : Int) != 0) = false := by rw [hE]; rfl
    clear hK HK
    go_enter Tryd.func7, Tryd.ntmps7
    go_wp2_with (first
      | (refine load_row (by rfl) 24 (.tmp 2) (by rfl) w.heap.size (by rfl) 24 vs (unhide HR0) 32 32 5 Tryd.underlying24 size24 hvl ?_)
      | (go_at_call 13; refine (unhide HH _).mono ?_; rintro e w1 ⟨rfl, hb1⟩; have HR1 := hide ((unhide HR0).below hb1 (unhide HR0).lt); have HB1 := hide ((unhide HB0).trans (hb1.mono (unhide HB0).size)); clear hb1))
    refine (unhide HX w1).mono ?_
    rintro e w2 ⟨rfl, hb2⟩
    have HR2 := hide ((unhide HR1).below hb2 (unhide HR1).lt)
    have HB2 := hide ((unhide HB1).trans (hb2.mono (unhide HB1).size))
    have l2 := (unhide HR2).lt
    clear hb2 HR1 HB1 HH HX
    go_wp2_with (first
      | (refine store_row (by rfl) 24 (.tmp 5) (.tmp 13) (by rfl) w2.heap.size vs (by rfl) (by rfl) 24 (Sha.zeros.map byteVal) (VRow.newAt rfl) 32 size24 hvl rfl hone ?_; intro w3 ho3 hr3; have HB3 := hide (((unhide HB2).alloc (unhide HB2).size _).trans (ho3.below (unhide HB2).size)); have HA3 := hide hr3; have HR3 := hide (((unhide HR2).alloc _).only ho3 (by omega)); clear ho3 hr3)
      | (go_at_call 15; refine (unhide HA _).mono ?_; rintro e w4 ⟨rfl, hb4⟩; have HA4 := hide ((unhide HA3).below hb4 (unhide HA3).lt); have HR4 := hide ((unhide HR3).below hb4 (unhide HR3).lt); have HB4 := hide ((unhide HB3).trans (hb4.mono (unhide HB3).size)); clear hb4)
      | (refine store_row (by rfl) 24 (.tmp 7) (.tmp 18) (by rfl) w4.heap.size us (by rfl) (by rfl) 24 (Sha.zeros.map byteVal) (VRow.newAt rfl) 32 size24 hul rfl hone2 ?_; intro w5 ho5 hr5; have HB5 := hide (((unhide HB4).alloc (unhide HB4).size _).trans (ho5.below (unhide HB4).size)); have HU5 := hide hr5; have HA5 := hide (((unhide HA4).alloc _).only ho5 (by have := (unhide HA4).lt; omega)); have HR5 := hide (((unhide HR4).alloc _).only ho5 (by have := (unhide HR4).lt; omega)); clear ho5 hr5)
      | (refine load_row (by rfl) 24 (.tmp 5) (by rfl) w2.heap.size (by rfl) 24 vs (unhide HA5) 32 32 5 Tryd.underlying24 size24 hvl ?_)
      | (refine load_row (by rfl) 24 (.tmp 2) (by rfl) w.heap.size (by rfl) 24 vs (unhide HR5) 32 32 5 Tryd.underlying24 size24 hvl ?_)
      | (refine load_row_want (by rfl) 24 (.tmp 7) (by rfl) w4.heap.size (by rfl) 24 us (unhide HU5) 32 32 5 Tryd.underlying24 size24 hul ?_))
    refine (unhide HK2 w5).mono ?_
    rintro e w6 ⟨rfl, hb6⟩
    have HB6 := hide ((unhide HB5).trans (hb6.mono (unhide HB5).size))
    clear hb6
    go_wp2_with fail
    refine (wide_any w6 ((unhide HG).below (unhide HB6) h2)).mono ?_
    rintro e w7 ⟨rfl, hb7⟩
    have HB7 := hide ((unhide HB6).trans (hb7.mono (unhide HB6).size))
    clear hb7
    go_wp2_with fail
    go_ret
    exact ⟨rfl, unhide HB7⟩
  · have hE1 : ((E : Int) != 0) = true := by simp; exact hE
    clear HK
    go_enter Tryd.func7, Tryd.ntmps7
    go_wp2_with (first
      | (refine load_row (by rfl) 24 (.tmp 2) (by rfl) w.heap.size (by rfl) 24 vs (unhide HR0) 32 32 5 Tryd.underlying24 size24 hvl ?_)
      | (go_at_call 13; refine (unhide HH _).mono ?_; rintro e w1 ⟨rfl, hb1⟩; have HR1 := hide ((unhide HR0).below hb1 (unhide HR0).lt); have HB1 := hide ((unhide HB0).trans (hb1.mono (unhide HB0).size)); clear hb1))
    refine (unhide HX w1).mono ?_
    rintro e w2 ⟨rfl, hb2⟩
    have HR2 := hide ((unhide HR1).below hb2 (unhide HR1).lt)
    have HB2 := hide ((unhide HB1).trans (hb2.mono (unhide HB1).size))
    have l2 := (unhide HR2).lt
    clear hb2 HR1 HB1 HH HX
    go_wp2_with (first
      | (refine store_row (by rfl) 24 (.tmp 5) (.tmp 13) (by rfl) w2.heap.size vs (by rfl) (by rfl) 24 (Sha.zeros.map byteVal) (VRow.newAt rfl) 32 size24 hvl rfl hone ?_; intro w3 ho3 hr3; have HB3 := hide (((unhide HB2).alloc (unhide HB2).size _).trans (ho3.below (unhide HB2).size)); have HA3 := hide hr3; have HR3 := hide (((unhide HR2).alloc _).only ho3 (by omega)); clear ho3 hr3)
      | (go_at_call 15; refine (unhide HA _).mono ?_; rintro e w4 ⟨rfl, hb4⟩; have HA4 := hide ((unhide HA3).below hb4 (unhide HA3).lt); have HR4 := hide ((unhide HR3).below hb4 (unhide HR3).lt); have HB4 := hide ((unhide HB3).trans (hb4.mono (unhide HB3).size)); clear hb4)
      | (refine store_row (by rfl) 24 (.tmp 7) (.tmp 18) (by rfl) w4.heap.size us (by rfl) (by rfl) 24 (Sha.zeros.map byteVal) (VRow.newAt rfl) 32 size24 hul rfl hone2 ?_; intro w5 ho5 hr5; have HB5 := hide (((unhide HB4).alloc (unhide HB4).size _).trans (ho5.below (unhide HB4).size)); have HU5 := hide hr5; have HA5 := hide (((unhide HA4).alloc _).only ho5 (by have := (unhide HA4).lt; omega)); have HR5 := hide (((unhide HR4).alloc _).only ho5 (by have := (unhide HR4).lt; omega)); clear ho5 hr5)
      | (refine load_row (by rfl) 24 (.tmp 5) (by rfl) w2.heap.size (by rfl) 24 vs (unhide HA5) 32 32 5 Tryd.underlying24 size24 hvl ?_)
      | (refine load_row (by rfl) 24 (.tmp 2) (by rfl) w.heap.size (by rfl) 24 vs (unhide HR5) 32 32 5 Tryd.underlying24 size24 hvl ?_)
      | (refine load_row_want (by rfl) 24 (.tmp 7) (by rfl) w4.heap.size (by rfl) 24 us (unhide HU5) 32 32 5 Tryd.underlying24 size24 hul ?_))
    refine (wide_any w5 ((unhide HG).below (unhide HB5) h2)).mono ?_
    rintro e w7 ⟨rfl, hb7⟩
    have HB7 := hide ((unhide HB5).trans (hb7.mono (unhide HB5).size))
    clear hb7
    go_wp2_with fail
    go_ret
    exact ⟨rfl, unhide HB7⟩
end Go.Proofs.YtkdhpnijcgegbaaDoor

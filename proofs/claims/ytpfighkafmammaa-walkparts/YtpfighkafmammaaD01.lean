/-
  What the document's Dirs and SameTexts answer. Conditions: those that each theorem names.
-/
import Derived.Test.YtpfighkafmammaaC02
import Derived.Test.YtpfighkafmammaaB03
import Derived.Test.YtpfighkafmammaaB04
namespace Go.Proofs.Ytpfighkafmammaa
open Go.RowKit

theorem i64_small {n : Int} (h0 : 0 ≤ n) (h : n < 1000000) : IntKind.i64.wrap n = n := by simp [IntKind.wrap, IntKind.signed, IntKind.bits]; omega
theorem dirs_snoc (l : List En) (d : ByteArray) (j : Nat) (x : En) (h : l[j]? = some x) : (l.take (j + 1)).foldl (dirsStep d) [] = dirsStep d ((l.take j).foldl (dirsStep d) []) x := by
  rw [List.take_add_one, h]
  simp
theorem dirs_len (d : ByteArray) : ∀ (l : List En) (out : List ByteArray), (l.foldl (dirsStep d) out).length ≤ out.length + l.length
  | [], _ => by simp
  | x :: l, out => by
    have h1 := dirs_len d l (dirsStep d out x)
    have h2 : (dirsStep d out x).length ≤ out.length + 1 := by unfold dirsStep; split <;> simp
    show (l.foldl (dirsStep d) (dirsStep d out x)).length ≤ _
    rw [List.length_cons]
    omega
theorem below_under {t : List En} {d : ByteArray} : ∀ x ∈ belowAll t d, x ∈ t ∧ underE x.1 d = true := fun x hx => by
  refine ⟨list_mem x hx, ?_⟩
  unfold belowAll at hx
  rw [list_eq] at hx
  have h := (List.mem_filter.1 (List.mem_of_mem_take hx)).2
  unfold listP at h
  simp at h
  exact h.1

set_option maxRecDepth 100000 in
set_option maxHeartbeats 2000000 in
theorem refDirs_any (a : Option Addr) (cap : Nat) (t : List En) (ht : Eok t) (d : ByteArray) (hd : d.size ≤ 1000) (w : World) (h : EL w a t) :
    Calls Try.prog 21 #[.slice a t.length cap, .string d] w (MadeT w (dirsT t d)) := by
  have KU := hide fun W h => refBelow_any a cap t ht d hd W h
  have KD := hide (Pth.refParts_any d hd w)
  have KP := hide fun q (hq : q.size ≤ 1000) W => Pth.refParts_any q hq W
  have HT := hide ht
  have HS := hide h
  have HBU := hide (below_under (t := t) (d := d))
  have hbl : (belowAll t d).length ≤ 50000 := Nat.le_trans (list_len t d ⟨#[]⟩ t.length) ht.len
  have HDT : Hid (dirsT t d = (belowAll t d).foldl (dirsStep d) []) := hide rfl
  have HPD : Hid (partsE d = Pth.Pt.parts d.data.toList) := hide rfl
  have hpd4 : (partsE d).length ≤ 4 := Pth.Pt.parts_le _
  generalize dirsT t d = DT at HDT ⊢
  generalize belowAll t d = L0 at KU HBU hbl HDT
  clear h ht
  go_enter Try.func21, Try.ntmps21
  go_wp2_with fail
  refine (unhide KD).mono ?_
  rintro e w1 ⟨a1, c1, cs, rfl, hcs, hc1, _, hb⟩
  have HB1 := hide hb
  have HCS := hide hcs
  have HKE : Hid (cs.length = (partsE d).length) := hide (by rw [unhide HPD, ← hcs, Pth.size_lists])
  clear hb hcs KD
  go_wp2_with fail
  refine (unhide KU _ ((unhide HS).after (unhide HB1))).mono ?_
  rintro e w2 ⟨r, c, rfl, hc, hel, hb⟩
  have HB2 := hide (below_grow (unhide HB1) (Nat.le_refl _) hb)
  have HE2 := hide hel
  obtain ⟨K, hK⟩ : ∃ K, cs.length = K := ⟨_, rfl⟩
  have HK := hide hK
  have hk4 : K ≤ 4 := by rw [← hK, unhide HKE]; exact hpd4
  rw [hK]
  clear hb hel KU hK HB1 hpd4
  go_wp2_with fail
  go_loopw [5, 8] (fun o i wr => ∃ (k : Nat), k ≤ L0.length ∧ i = .int .i64 k ∧ OT wr w2.heap.size o ((L0.take k).foldl (dirsStep d) []) ∧ Below w2.heap.size w2 wr) (fun _ i _ => L0.length - (intOf i).toNat)
  case atStart => exact ⟨0, Nat.zero_le _, rfl, OT.nil _ _, Below.refl _ _⟩
  case round =>
    obtain ⟨k, hk, rfl, hot, hb⟩ := hrel
    have HO := hide hot
    have HB := hide hb
    have hsz := hb.size
    have hnl := dirs_len d (L0.take k) []
    rw [List.length_take, List.length_nil] at hnl
    by_cases hlt : k < L0.length
    · obtain ⟨x, hx⟩ : ∃ d, L0[k]? = some d := ⟨_, List.getElem?_eq_getElem hlt⟩
      obtain ⟨g0, o0, e0, hg0, hcell0⟩ := unhide HE2 (by omega)
      subst e0
      obtain ⟨q, c5, y0, _, _, _⟩ := hcell0 k x hx
      have x0 := (hb.cell (p := ⟨g0, o0 + k * 2, none⟩) hg0).trans y0
      have HSN := hide (dirs_snoc L0 d k x hx)
      have hxu := unhide HBU x (List.mem_of_getElem? hx)
      have hpx : x.1.size ≤ 1000 := (unhide HT).path x hxu.1
      have HNM := hide (fun bs cs => nm_at (bs := bs) (cs := cs) hxu.2)
      have HPE : Hid (partsE x.1 = Pth.Pt.parts x.1.data.toList) := hide rfl
      generalize (L0.take k).foldl (dirsStep d) [] = L at HO HSN hnl
      have HSN2 : Hid ((L0.take (k + 1)).foldl (dirsStep d) [] = if (partsE d).length + 1 < (partsE x.1).length ∧ L.getLast? ≠ some (nm x.1 d) then L ++ [nm x.1 d] else L) := hide (unhide HSN)
      generalize nm x.1 d = N at HNM HSN2
      clear hcell0 hx hg0 y0 hot hb hxu HSN
      go_wp2_with fail
      refine (unhide KP x.1 hpx _).mono ?_
      rintro e w3 ⟨a3, c3, bs, rfl, hbs, hc3, hsl3, hb⟩
      have HB3 := hide (below_grow (unhide HB) (Nat.le_refl _) hb)
      have HO3 := hide ((unhide HO).after hb)
      have hz3 := (unhide HB3).size
      have hat := unhide HNM bs cs hbs (unhide HCS)
      rw [unhide HK] at hat
      have hcl : K < bs.length := (List.getElem?_eq_some_iff.1 hat).1
      obtain ⟨g3, o3, rfl, hg3, hc3'⟩ := hsl3 (by omega)
      have z0 := hc3' _ _ hat
      have HBL : Hid (bs.length = (partsE x.1).length) := hide (by rw [unhide HPE, ← hbs, Pth.size_lists])
      have HKE2 : Hid (K = (partsE d).length) := hide (by rw [← unhide HK, unhide HKE])
      obtain ⟨nb, hnb⟩ : ∃ nb, bs.length = nb := ⟨_, rfl⟩
      rw [← unhide HBL, ← unhide HKE2, hnb] at HSN2
      rw [hnb] at hcl hc3 ⊢
      have hnb4 : nb ≤ 4 := by rw [← hnb, unhide HBL]; exact Pth.Pt.parts_le _
      obtain ⟨a4, c4, rfl, hc4, hs4, _⟩ := (unhide HO3).sl
      have HS4 := hide hs4
      clear hb hat hc3' hg3 hsl3 hbs HB HO HNM x0 hs4 hnb HBL
      have hkw : IntKind.i64.wrap ((K : Int) + 1) = (K : Int) + 1 := i64_small (by omega) (by omega)
      by_cases hlen : K + 1 < nb
      · have hld : decide ((K : Int) + 1 < (nb : Int)) = true := decide_eq_true (by omega)
        by_cases hL : L = []
        · subst hL
          have HX : Hid ((L0.take (k + 1)).foldl (dirsStep d) [] = [N]) := hide (by rw [unhide HSN2, if_pos ⟨hlen, by simp⟩]; rfl)
          clear HSN2 HS4
          go_wp2_with fail
          refine wp_region_held_drew (S := fun _ => True) (by kernel_rfl) trivial (fun hS => ?_)
          refine wpAnyH_take (i := 0) (oi := { dst := some 28, op := Go.Op.move (Go.Operand.tmp 9), type := 46, pos := "ref.go:41", after := #[], guard := none }) (v := .slice (some ⟨g3, o3, none⟩) nb c3) rfl (by kernel_rfl) (by kernel_rfl) (by kernel_rfl) (fun _ _ _ h => h) (Or.inl ⟨by rfl, ?_⟩) hS ?_
          · intro W hW; first | (go_simp; done) | (go_simp; with_reducible rfl) | (go_simp; exact hkw) | (go_simp; omega)
          simp only [Act.put, List.setIfInBounds_toArray, List.set_cons_zero, List.set_cons_succ]
          refine wpAnyH_take (i := 1) (oi := { dst := some 29, op := Go.Op.call { callee := Go.Callee.builtin Go.Builtin.len, args := #[Go.Operand.tmp 28], argTypes := #[46] }, type := 3, pos := "ref.go:41", after := #[{ on := 0, ground := Go.Ground.data }], guard := none }) (v := .int .i64 nb) rfl (by kernel_rfl) (by kernel_rfl) (by kernel_rfl) (fun _ _ _ h => h) (Or.inl ⟨by rfl, ?_⟩) hS ?_
          · intro W hW; first | (go_simp; done) | (go_simp; with_reducible rfl) | (go_simp; exact hkw) | (go_simp; omega)
          simp only [Act.put, List.setIfInBounds_toArray, List.set_cons_zero, List.set_cons_succ]
          refine wpAnyH_take (i := 2) (oi := { dst := some 30, op := Go.Op.move (Go.Operand.tmp 6), type := 3, pos := "ref.go:41", after := #[], guard := none }) (v := .int .i64 K) rfl (by kernel_rfl) (by kernel_rfl) (by kernel_rfl) (fun _ _ _ h => h) (Or.inl ⟨by rfl, ?_⟩) hS ?_
          · intro W hW; first | (go_simp; done) | (go_simp; with_reducible rfl) | (go_simp; exact hkw) | (go_simp; omega)
          simp only [Act.put, List.setIfInBounds_toArray, List.set_cons_zero, List.set_cons_succ]
          refine wpAnyH_take (i := 3) (oi := { dst := some 31, op := Go.Op.binOp Go.BinOp.add 3 (Go.Operand.tmp 30) (Go.Operand.const (Go.Value.int Go.IntKind.i64 1)) 3, type := 3, pos := "ref.go:41", after := #[{ on := 2, ground := Go.Ground.data }], guard := none }) (v := .int .i64 ((K : Int) + 1)) rfl (by kernel_rfl) (by kernel_rfl) (by kernel_rfl) (fun _ _ _ h => h) (Or.inl ⟨by rfl, ?_⟩) hS ?_
          · intro W hW; first | (go_simp; done) | (go_simp; with_reducible rfl) | (go_simp; exact hkw) | (go_simp; omega)
          simp only [Act.put, List.setIfInBounds_toArray, List.set_cons_zero, List.set_cons_succ]
          refine wpAnyH_take (i := 4) (oi := { dst := some 32, op := Go.Op.binOp Go.BinOp.gtr 3 (Go.Operand.tmp 29) (Go.Operand.tmp 31) 3, type := 4, pos := "ref.go:41", after := #[{ on := 1, ground := Go.Ground.data }, { on := 3, ground := Go.Ground.data }], guard := none }) (v := .bool true) rfl (by kernel_rfl) (by kernel_rfl) (by kernel_rfl) (fun _ _ _ h => h) (Or.inl ⟨by rfl, ?_⟩) hS ?_
          · intro W hW; first | (go_simp; done) | (go_simp; with_reducible rfl) | (go_simp; exact hkw) | (go_simp; omega)
          simp only [Act.put, List.setIfInBounds_toArray, List.set_cons_zero, List.set_cons_succ]
          refine wpAnyH_take (i := 5) (oi := { dst := some 33, op := Go.Op.move (Go.Operand.tmp 32), type := 4, pos := "ref.go:41", after := #[{ on := 4, ground := Go.Ground.data }], guard := none }) (v := .bool true) rfl (by kernel_rfl) (by kernel_rfl) (by kernel_rfl) (fun _ _ _ h => h) (Or.inl ⟨by rfl, ?_⟩) hS ?_
          · intro W hW; first | (go_simp; done) | (go_simp; with_reducible rfl) | (go_simp; exact hkw) | (go_simp; omega)
          simp only [Act.put, List.setIfInBounds_toArray, List.set_cons_zero, List.set_cons_succ]
          refine wpAnyH_take (i := 6) (oi := { dst := some 34, op := Go.Op.move (Go.Operand.tmp 5), type := 46, pos := "ref.go:41", after := #[{ on := 5, ground := Go.Ground.guard }], guard := some (5, true) }) (v := .slice a4 0 c4) rfl (by kernel_rfl) (by kernel_rfl) (by kernel_rfl) (fun _ _ _ h => h) (Or.inl ⟨by rfl, ?_⟩) hS ?_
          · intro W hW; first | (go_simp; done) | (go_simp; with_reducible rfl) | (go_simp; exact hkw) | (go_simp; omega)
          simp only [Act.put, List.setIfInBounds_toArray, List.set_cons_zero, List.set_cons_succ]
          refine wpAnyH_take (i := 7) (oi := { dst := some 35, op := Go.Op.call { callee := Go.Callee.builtin Go.Builtin.len, args := #[Go.Operand.tmp 34], argTypes := #[46] }, type := 3, pos := "ref.go:41", after := #[{ on := 6, ground := Go.Ground.data }, { on := 5, ground := Go.Ground.guard }], guard := some (5, true) }) (v := .int .i64 0) rfl (by kernel_rfl) (by kernel_rfl) (by kernel_rfl) (fun _ _ _ h => h) (Or.inl ⟨by rfl, ?_⟩) hS ?_
          · intro W hW; first | (go_simp; done) | (go_simp; with_reducible rfl) | (go_simp; exact hkw) | (go_simp; omega)
          simp only [Act.put, List.setIfInBounds_toArray, List.set_cons_zero, List.set_cons_succ]
          refine wpAnyH_take (i := 8) (oi := { dst := some 36, op := Go.Op.binOp Go.BinOp.eql 3 (Go.Operand.tmp 35) (Go.Operand.const (Go.Value.int Go.IntKind.i64 0)) 3, type := 4, pos := "ref.go:41", after := #[{ on := 7, ground := Go.Ground.data }, { on := 5, ground := Go.Ground.guard }], guard := some (5, true) }) (v := .bool true) rfl (by kernel_rfl) (by kernel_rfl) (by kernel_rfl) (fun _ _ _ h => h) (Or.inl ⟨by rfl, ?_⟩) hS ?_
          · intro W hW; first | (go_simp; done) | (go_simp; with_reducible rfl) | (go_simp; exact hkw) | (go_simp; omega)
          simp only [Act.put, List.setIfInBounds_toArray, List.set_cons_zero, List.set_cons_succ]
          refine wpAnyH_take (i := 9) (oi := { dst := some 37, op := Go.Op.move (Go.Operand.tmp 36), type := 4, pos := "ref.go:41", after := #[{ on := 8, ground := Go.Ground.data }, { on := 5, ground := Go.Ground.chain }, { on := 5, ground := Go.Ground.guard }], guard := some (5, true) }) (v := .bool true) rfl (by kernel_rfl) (by kernel_rfl) (by kernel_rfl) (fun _ _ _ h => h) (Or.inl ⟨by rfl, ?_⟩) hS ?_
          · intro W hW; first | (go_simp; done) | (go_simp; with_reducible rfl) | (go_simp; exact hkw) | (go_simp; omega)
          simp only [Act.put, List.setIfInBounds_toArray, List.set_cons_zero, List.set_cons_succ]
          refine wpAnyH_take (i := 10) (oi := { dst := some 38, op := Go.Op.move (Go.Operand.tmp 5), type := 46, pos := "ref.go:41", after := #[{ on := 9, ground := Go.Ground.guard }], guard := some (9, false) }) (v := undef) rfl (by kernel_rfl) (by kernel_rfl) (by kernel_rfl) (fun _ _ _ h => h) (Or.inr ⟨by rfl, rfl⟩) hS ?_
          simp only [Act.put, List.setIfInBounds_toArray, List.set_cons_zero, List.set_cons_succ]
          refine wpAnyH_take (i := 11) (oi := { dst := some 39, op := Go.Op.move (Go.Operand.tmp 5), type := 46, pos := "ref.go:41", after := #[{ on := 9, ground := Go.Ground.guard }], guard := some (9, false) }) (v := undef) rfl (by kernel_rfl) (by kernel_rfl) (by kernel_rfl) (fun _ _ _ h => h) (Or.inr ⟨by rfl, rfl⟩) hS ?_
          simp only [Act.put, List.setIfInBounds_toArray, List.set_cons_zero, List.set_cons_succ]
          refine wpAnyH_take (i := 12) (oi := { dst := some 40, op := Go.Op.call { callee := Go.Callee.builtin Go.Builtin.len, args := #[Go.Operand.tmp 39], argTypes := #[46] }, type := 3, pos := "ref.go:41", after := #[{ on := 11, ground := Go.Ground.data }, { on := 9, ground := Go.Ground.guard }], guard := some (9, false) }) (v := undef) rfl (by kernel_rfl) (by kernel_rfl) (by kernel_rfl) (fun _ _ _ h => h) (Or.inr ⟨by rfl, rfl⟩) hS ?_
          simp only [Act.put, List.setIfInBounds_toArray, List.set_cons_zero, List.set_cons_succ]
          refine wpAnyH_take (i := 13) (oi := { dst := some 41, op := Go.Op.binOp Go.BinOp.sub 3 (Go.Operand.tmp 40) (Go.Operand.const (Go.Value.int Go.IntKind.i64 1)) 3, type := 3, pos := "ref.go:41", after := #[{ on := 12, ground := Go.Ground.data }, { on := 9, ground := Go.Ground.guard }], guard := some (9, false) }) (v := undef) rfl (by kernel_rfl) (by kernel_rfl) (by kernel_rfl) (fun _ _ _ h => h) (Or.inr ⟨by rfl, rfl⟩) hS ?_
          simp only [Act.put, List.setIfInBounds_toArray, List.set_cons_zero, List.set_cons_succ]
          refine wpAnyH_take (i := 14) (oi := { dst := some 42, op := Go.Op.indexAddr 46 (Go.Operand.tmp 38) (Go.Operand.tmp 41), type := 0, pos := "ref.go:41", after := #[{ on := 10, ground := Go.Ground.data }, { on := 13, ground := Go.Ground.data }, { on := 9, ground := Go.Ground.guard }], guard := some (9, false) }) (v := undef) rfl (by kernel_rfl) (by kernel_rfl) (by kernel_rfl) (fun _ _ _ h => h) (Or.inr ⟨by rfl, rfl⟩) hS ?_
          simp only [Act.put, List.setIfInBounds_toArray, List.set_cons_zero, List.set_cons_succ]
          refine wpAnyH_take (i := 15) (oi := { dst := some 43, op := Go.Op.load 9 (Go.Operand.tmp 42), type := 9, pos := "ref.go:41", after := #[{ on := 14, ground := Go.Ground.data }, { on := 9, ground := Go.Ground.guard }], guard := some (9, false) }) (v := undef) rfl (by kernel_rfl) (by kernel_rfl) (by kernel_rfl) (fun _ _ _ h => h) (Or.inr ⟨by rfl, rfl⟩) hS ?_
          simp only [Act.put, List.setIfInBounds_toArray, List.set_cons_zero, List.set_cons_succ]
          refine wpAnyH_take (i := 16) (oi := { dst := some 44, op := Go.Op.move (Go.Operand.tmp 9), type := 46, pos := "ref.go:41", after := #[{ on := 9, ground := Go.Ground.guard }], guard := some (9, false) }) (v := undef) rfl (by kernel_rfl) (by kernel_rfl) (by kernel_rfl) (fun _ _ _ h => h) (Or.inr ⟨by rfl, rfl⟩) hS ?_
          simp only [Act.put, List.setIfInBounds_toArray, List.set_cons_zero, List.set_cons_succ]
          refine wpAnyH_take (i := 17) (oi := { dst := some 45, op := Go.Op.move (Go.Operand.tmp 6), type := 3, pos := "ref.go:41", after := #[{ on := 9, ground := Go.Ground.guard }], guard := some (9, false) }) (v := undef) rfl (by kernel_rfl) (by kernel_rfl) (by kernel_rfl) (fun _ _ _ h => h) (Or.inr ⟨by rfl, rfl⟩) hS ?_
          simp only [Act.put, List.setIfInBounds_toArray, List.set_cons_zero, List.set_cons_succ]
          refine wpAnyH_take (i := 18) (oi := { dst := some 46, op := Go.Op.indexAddr 46 (Go.Operand.tmp 44) (Go.Operand.tmp 45), type := 0, pos := "ref.go:41", after := #[{ on := 16, ground := Go.Ground.data }, { on := 17, ground := Go.Ground.data }, { on := 9, ground := Go.Ground.guard }], guard := some (9, false) }) (v := undef) rfl (by kernel_rfl) (by kernel_rfl) (by kernel_rfl) (fun _ _ _ h => h) (Or.inr ⟨by rfl, rfl⟩) hS ?_
          simp only [Act.put, List.setIfInBounds_toArray, List.set_cons_zero, List.set_cons_succ]
          refine wpAnyH_take (i := 19) (oi := { dst := some 47, op := Go.Op.load 9 (Go.Operand.tmp 46), type := 9, pos := "ref.go:41", after := #[{ on := 18, ground := Go.Ground.data }, { on := 9, ground := Go.Ground.guard }], guard := some (9, false) }) (v := undef) rfl (by kernel_rfl) (by kernel_rfl) (by kernel_rfl) (fun _ _ _ h => h) (Or.inr ⟨by rfl, rfl⟩) hS ?_
          simp only [Act.put, List.setIfInBounds_toArray, List.set_cons_zero, List.set_cons_succ]
          refine wpAnyH_take (i := 20) (oi := { dst := some 48, op := Go.Op.binOp Go.BinOp.neq 9 (Go.Operand.tmp 43) (Go.Operand.tmp 47) 9, type := 4, pos := "ref.go:41", after := #[{ on := 15, ground := Go.Ground.data }, { on := 19, ground := Go.Ground.data }, { on := 9, ground := Go.Ground.guard }], guard := some (9, false) }) (v := undef) rfl (by kernel_rfl) (by kernel_rfl) (by kernel_rfl) (fun _ _ _ h => h) (Or.inr ⟨by rfl, rfl⟩) hS ?_
          simp only [Act.put, List.setIfInBounds_toArray, List.set_cons_zero, List.set_cons_succ]
          refine wpAnyH_take (i := 21) (oi := { dst := some 49, op := Go.Op.pick (Go.Operand.tmp 37) (Go.Operand.const (Go.Value.bool true)) (Go.Operand.tmp 48), type := 4, pos := "ref.go:41", after := #[{ on := 9, ground := Go.Ground.data }, { on := 20, ground := Go.Ground.data }, { on := 5, ground := Go.Ground.guard }], guard := some (5, true) }) (v := .bool true) rfl (by kernel_rfl) (by kernel_rfl) (by kernel_rfl) (fun _ _ _ h => h) (Or.inl ⟨by rfl, ?_⟩) hS ?_
          · intro W hW; first | (go_simp; done) | (go_simp; with_reducible rfl) | (go_simp; exact hkw) | (go_simp; omega)
          simp only [Act.put, List.setIfInBounds_toArray, List.set_cons_zero, List.set_cons_succ]
          refine wpAnyH_take (i := 22) (oi := { dst := some 50, op := Go.Op.pick (Go.Operand.tmp 33) (Go.Operand.tmp 49) (Go.Operand.const (Go.Value.bool false)), type := 4, pos := "ref.go:41", after := #[{ on := 5, ground := Go.Ground.data }, { on := 21, ground := Go.Ground.data }], guard := none }) (v := .bool true) rfl (by kernel_rfl) (by kernel_rfl) (by kernel_rfl) (fun _ _ _ h => h) (Or.inl ⟨by rfl, ?_⟩) hS ?_
          · intro W hW; first | (go_simp; done) | (go_simp; with_reducible rfl) | (go_simp; exact hkw) | (go_simp; omega)
          simp only [Act.put, List.setIfInBounds_toArray, List.set_cons_zero, List.set_cons_succ]
          refine wpAnyH_done (by kernel_rfl) ?_ _
          clear hS
          have HO4 := hide ((unhide HO3).after (below_drew (Below.refl _ _)))
          have HB4 := hide (below_grow (unhide HB3) (Nat.le_refl _) (below_drew (Below.refl _ _)))
          have z4 : w3.drew.cell? ⟨g3, o3 + K, none⟩ = some (.string N) := z0
          have HV := hide (VRow.new w3.drew 9 [.string N])
          have HA := hide (below_alloc' (w := w3.drew) (.cells #[.string N] 9))
          have hz5 := (unhide HB4).size
          clear z0 HO3 HB3
          go_wp2_with (at_builtin; refine append_txt (by rfl) _ _ (by rfl) w2.heap.size _ [] (by rfl) ((unhide HO4).after (unhide HA)) _ 1 1 [N] rfl (by rfl) (one_txt (unhide HV)) (by simp) (Nat.le_trans hz5 (unhide HA).size) ?_; intro v5 w5 hot5 hb5 _ _; have HO5 := hide hot5; have HB5 := hide (((unhide HB4).trans ((unhide HA).mono hz5)).trans hb5); clear hot5 hb5)
          go_roundw
          case rel => exact ⟨k + 1, by omega, by go_num, by rw [unhide HX]; exact unhide HO5, unhide HB5⟩
          case measure => simp [intOf]; omega
        · obtain ⟨M, z, rfl⟩ : ∃ M z, L = M ++ [z] := ⟨L.dropLast, L.getLast hL, (List.dropLast_concat_getLast hL).symm⟩
          have hML : (M ++ [z]).length = M.length + 1 := by simp
          obtain ⟨g4, o4, rfl, hg4, hc4'⟩ := (unhide HS4) (by omega)
          have z1 := hc4' M.length z (by simp)
          have hst := same_text z N
          have hmw : IntKind.i64.wrap ((M.length : Int) + 1 - 1) = (M.length : Int) := by rw [Int.add_sub_cancel]; exact i64_small (by omega) (by omega)
          have hmw2 : IntKind.i64.wrap (M.length : Int) = (M.length : Int) := i64_small (by omega) (by omega)
          clear hc4' hg4 hL HS4
          rw [List.getLast?_concat] at HSN2
          rw [hML] at HO3
          by_cases he : z = N
          · rw [decide_eq_true he] at hst
            have HX : Hid ((L0.take (k + 1)).foldl (dirsStep d) [] = M ++ [z]) := hide (by rw [unhide HSN2, he, if_neg (by simp)])
            clear he HSN2
            go_wp2_with fail
            refine wp_region_held_drew (S := fun W => W.cell? ⟨g3, o3 + K, none⟩ = some (.string N) ∧ W.cell? ⟨g4, o4 + M.length, none⟩ = some (.string z)) (by kernel_rfl) ⟨z0, z1⟩ (fun hS => ?_)
            refine wpAnyH_take (i := 0) (oi := { dst := some 28, op := Go.Op.move (Go.Operand.tmp 9), type := 46, pos := "ref.go:41", after := #[], guard := none }) (v := .slice (some ⟨g3, o3, none⟩) nb c3) rfl (by kernel_rfl) (by kernel_rfl) (by kernel_rfl) (fun _ _ _ h => h) (Or.inl ⟨by rfl, ?_⟩) hS ?_
            · intro W hW; obtain ⟨hW1, hW2⟩ := hW; first | (go_simp; done) | (go_simp; with_reducible rfl) | (go_simp; exact hkw) | (go_simp; exact hmw) | (go_simp; exact hmw2) | (go_simp; omega)
            simp only [Act.put, List.setIfInBounds_toArray, List.set_cons_zero, List.set_cons_succ]
            refine wpAnyH_take (i := 1) (oi := { dst := some 29, op := Go.Op.call { callee := Go.Callee.builtin Go.Builtin.len, args := #[Go.Operand.tmp 28], argTypes := #[46] }, type := 3, pos := "ref.go:41", after := #[{ on := 0, ground := Go.Ground.data }], guard := none }) (v := .int .i64 nb) rfl (by kernel_rfl) (by kernel_rfl) (by kernel_rfl) (fun _ _ _ h => h) (Or.inl ⟨by rfl, ?_⟩) hS ?_
            · intro W hW; obtain ⟨hW1, hW2⟩ := hW; first | (go_simp; done) | (go_simp; with_reducible rfl) | (go_simp; exact hkw) | (go_simp; exact hmw) | (go_simp; exact hmw2) | (go_simp; omega)
            simp only [Act.put, List.setIfInBounds_toArray, List.set_cons_zero, List.set_cons_succ]
            refine wpAnyH_take (i := 2) (oi := { dst := some 30, op := Go.Op.move (Go.Operand.tmp 6), type := 3, pos := "ref.go:41", after := #[], guard := none }) (v := .int .i64 K) rfl (by kernel_rfl) (by kernel_rfl) (by kernel_rfl) (fun _ _ _ h => h) (Or.inl ⟨by rfl, ?_⟩) hS ?_
            · intro W hW; obtain ⟨hW1, hW2⟩ := hW; first | (go_simp; done) | (go_simp; with_reducible rfl) | (go_simp; exact hkw) | (go_simp; exact hmw) | (go_simp; exact hmw2) | (go_simp; omega)
            simp only [Act.put, List.setIfInBounds_toArray, List.set_cons_zero, List.set_cons_succ]
            refine wpAnyH_take (i := 3) (oi := { dst := some 31, op := Go.Op.binOp Go.BinOp.add 3 (Go.Operand.tmp 30) (Go.Operand.const (Go.Value.int Go.IntKind.i64 1)) 3, type := 3, pos := "ref.go:41", after := #[{ on := 2, ground := Go.Ground.data }], guard := none }) (v := .int .i64 ((K : Int) + 1)) rfl (by kernel_rfl) (by kernel_rfl) (by kernel_rfl) (fun _ _ _ h => h) (Or.inl ⟨by rfl, ?_⟩) hS ?_
            · intro W hW; obtain ⟨hW1, hW2⟩ := hW; first | (go_simp; done) | (go_simp; with_reducible rfl) | (go_simp; exact hkw) | (go_simp; exact hmw) | (go_simp; exact hmw2) | (go_simp; omega)
            simp only [Act.put, List.setIfInBounds_toArray, List.set_cons_zero, List.set_cons_succ]
            refine wpAnyH_take (i := 4) (oi := { dst := some 32, op := Go.Op.binOp Go.BinOp.gtr 3 (Go.Operand.tmp 29) (Go.Operand.tmp 31) 3, type := 4, pos := "ref.go:41", after := #[{ on := 1, ground := Go.Ground.data }, { on := 3, ground := Go.Ground.data }], guard := none }) (v := .bool true) rfl (by kernel_rfl) (by kernel_rfl) (by kernel_rfl) (fun _ _ _ h => h) (Or.inl ⟨by rfl, ?_⟩) hS ?_
            · intro W hW; obtain ⟨hW1, hW2⟩ := hW; first | (go_simp; done) | (go_simp; with_reducible rfl) | (go_simp; exact hkw) | (go_simp; exact hmw) | (go_simp; exact hmw2) | (go_simp; omega)
            simp only [Act.put, List.setIfInBounds_toArray, List.set_cons_zero, List.set_cons_succ]
            refine wpAnyH_take (i := 5) (oi := { dst := some 33, op := Go.Op.move (Go.Operand.tmp 32), type := 4, pos := "ref.go:41", after := #[{ on := 4, ground := Go.Ground.data }], guard := none }) (v := .bool true) rfl (by kernel_rfl) (by kernel_rfl) (by kernel_rfl) (fun _ _ _ h => h) (Or.inl ⟨by rfl, ?_⟩) hS ?_
            · intro W hW; obtain ⟨hW1, hW2⟩ := hW; first | (go_simp; done) | (go_simp; with_reducible rfl) | (go_simp; exact hkw) | (go_simp; exact hmw) | (go_simp; exact hmw2) | (go_simp; omega)
            simp only [Act.put, List.setIfInBounds_toArray, List.set_cons_zero, List.set_cons_succ]
            refine wpAnyH_take (i := 6) (oi := { dst := some 34, op := Go.Op.move (Go.Operand.tmp 5), type := 46, pos := "ref.go:41", after := #[{ on := 5, ground := Go.Ground.guard }], guard := some (5, true) }) (v := .slice (some ⟨g4, o4, none⟩) (M.length + 1) c4) rfl (by kernel_rfl) (by kernel_rfl) (by kernel_rfl) (fun _ _ _ h => h) (Or.inl ⟨by rfl, ?_⟩) hS ?_
            · intro W hW; obtain ⟨hW1, hW2⟩ := hW; first | (go_simp; done) | (go_simp; with_reducible rfl) | (go_simp; exact hkw) | (go_simp; exact hmw) | (go_simp; exact hmw2) | (go_simp; omega)
            simp only [Act.put, List.setIfInBounds_toArray, List.set_cons_zero, List.set_cons_succ]
            refine wpAnyH_take (i := 7) (oi := { dst := some 35, op := Go.Op.call { callee := Go.Callee.builtin Go.Builtin.len, args := #[Go.Operand.tmp 34], argTypes := #[46] }, type := 3, pos := "ref.go:41", after := #[{ on := 6, ground := Go.Ground.data }, { on := 5, ground := Go.Ground.guard }], guard := some (5, true) }) (v := .int .i64 ((M.length : Int) + 1)) rfl (by kernel_rfl) (by kernel_rfl) (by kernel_rfl) (fun _ _ _ h => h) (Or.inl ⟨by rfl, ?_⟩) hS ?_
            · intro W hW; obtain ⟨hW1, hW2⟩ := hW; first | (go_simp; done) | (go_simp; with_reducible rfl) | (go_simp; exact hkw) | (go_simp; exact hmw) | (go_simp; exact hmw2) | (go_simp; omega)
            simp only [Act.put, List.setIfInBounds_toArray, List.set_cons_zero, List.set_cons_succ]
            refine wpAnyH_take (i := 8) (oi := { dst := some 36, op := Go.Op.binOp Go.BinOp.eql 3 (Go.Operand.tmp 35) (Go.Operand.const (Go.Value.int Go.IntKind.i64 0)) 3, type := 4, pos := "ref.go:41", after := #[{ on := 7, ground := Go.Ground.data }, { on := 5, ground := Go.Ground.guard }], guard := some (5, true) }) (v := .bool false) rfl (by kernel_rfl) (by kernel_rfl) (by kernel_rfl) (fun _ _ _ h => h) (Or.inl ⟨by rfl, ?_⟩) hS ?_
            · intro W hW; obtain ⟨hW1, hW2⟩ := hW; first | (go_simp; done) | (go_simp; with_reducible rfl) | (go_simp; exact hkw) | (go_simp; exact hmw) | (go_simp; exact hmw2) | (go_simp; omega)
            simp only [Act.put, List.setIfInBounds_toArray, List.set_cons_zero, List.set_cons_succ]
            refine wpAnyH_take (i := 9) (oi := { dst := some 37, op := Go.Op.move (Go.Operand.tmp 36), type := 4, pos := "ref.go:41", after := #[{ on := 8, ground := Go.Ground.data }, { on := 5, ground := Go.Ground.chain }, { on := 5, ground := Go.Ground.guard }], guard := some (5, true) }) (v := .bool false) rfl (by kernel_rfl) (by kernel_rfl) (by kernel_rfl) (fun _ _ _ h => h) (Or.inl ⟨by rfl, ?_⟩) hS ?_
            · intro W hW; obtain ⟨hW1, hW2⟩ := hW; first | (go_simp; done) | (go_simp; with_reducible rfl) | (go_simp; exact hkw) | (go_simp; exact hmw) | (go_simp; exact hmw2) | (go_simp; omega)
            simp only [Act.put, List.setIfInBounds_toArray, List.set_cons_zero, List.set_cons_succ]
            refine wpAnyH_take (i := 10) (oi := { dst := some 38, op := Go.Op.move (Go.Operand.tmp 5), type := 46, pos := "ref.go:41", after := #[{ on := 9, ground := Go.Ground.guard }], guard := some (9, false) }) (v := .slice (some ⟨g4, o4, none⟩) (M.length + 1) c4) rfl (by kernel_rfl) (by kernel_rfl) (by kernel_rfl) (fun _ _ _ h => h) (Or.inl ⟨by rfl, ?_⟩) hS ?_
            · intro W hW; obtain ⟨hW1, hW2⟩ := hW; first | (go_simp; done) | (go_simp; with_reducible rfl) | (go_simp; exact hkw) | (go_simp; exact hmw) | (go_simp; exact hmw2) | (go_simp; omega)
            simp only [Act.put, List.setIfInBounds_toArray, List.set_cons_zero, List.set_cons_succ]
            refine wpAnyH_take (i := 11) (oi := { dst := some 39, op := Go.Op.move (Go.Operand.tmp 5), type := 46, pos := "ref.go:41", after := #[{ on := 9, ground := Go.Ground.guard }], guard := some (9, false) }) (v := .slice (some ⟨g4, o4, none⟩) (M.length + 1) c4) rfl (by kernel_rfl) (by kernel_rfl) (by kernel_rfl) (fun _ _ _ h => h) (Or.inl ⟨by rfl, ?_⟩) hS ?_
            · intro W hW; obtain ⟨hW1, hW2⟩ := hW; first | (go_simp; done) | (go_simp; with_reducible rfl) | (go_simp; exact hkw) | (go_simp; exact hmw) | (go_simp; exact hmw2) | (go_simp; omega)
            simp only [Act.put, List.setIfInBounds_toArray, List.set_cons_zero, List.set_cons_succ]
            refine wpAnyH_take (i := 12) (oi := { dst := some 40, op := Go.Op.call { callee := Go.Callee.builtin Go.Builtin.len, args := #[Go.Operand.tmp 39], argTypes := #[46] }, type := 3, pos := "ref.go:41", after := #[{ on := 11, ground := Go.Ground.data }, { on := 9, ground := Go.Ground.guard }], guard := some (9, false) }) (v := .int .i64 ((M.length : Int) + 1)) rfl (by kernel_rfl) (by kernel_rfl) (by kernel_rfl) (fun _ _ _ h => h) (Or.inl ⟨by rfl, ?_⟩) hS ?_
            · intro W hW; obtain ⟨hW1, hW2⟩ := hW; first | (go_simp; done) | (go_simp; with_reducible rfl) | (go_simp; exact hkw) | (go_simp; exact hmw) | (go_simp; exact hmw2) | (go_simp; omega)
            simp only [Act.put, List.setIfInBounds_toArray, List.set_cons_zero, List.set_cons_succ]
            refine wpAnyH_take (i := 13) (oi := { dst := some 41, op := Go.Op.binOp Go.BinOp.sub 3 (Go.Operand.tmp 40) (Go.Operand.const (Go.Value.int Go.IntKind.i64 1)) 3, type := 3, pos := "ref.go:41", after := #[{ on := 12, ground := Go.Ground.data }, { on := 9, ground := Go.Ground.guard }], guard := some (9, false) }) (v := .int .i64 M.length) rfl (by kernel_rfl) (by kernel_rfl) (by kernel_rfl) (fun _ _ _ h => h) (Or.inl ⟨by rfl, ?_⟩) hS ?_
            · intro W hW; obtain ⟨hW1, hW2⟩ := hW; first | (go_simp; done) | (go_simp; with_reducible rfl) | (go_simp; exact hkw) | (go_simp; exact hmw) | (go_simp; exact hmw2) | (go_simp; omega)
            simp only [Act.put, List.setIfInBounds_toArray, List.set_cons_zero, List.set_cons_succ]
            refine wpAnyH_take (i := 14) (oi := { dst := some 42, op := Go.Op.indexAddr 46 (Go.Operand.tmp 38) (Go.Operand.tmp 41), type := 0, pos := "ref.go:41", after := #[{ on := 10, ground := Go.Ground.data }, { on := 13, ground := Go.Ground.data }, { on := 9, ground := Go.Ground.guard }], guard := some (9, false) }) (v := .pointer (some ⟨g4, o4 + M.length, none⟩)) rfl (by kernel_rfl) (by kernel_rfl) (by kernel_rfl) (fun _ _ _ h => h) (Or.inl ⟨by rfl, ?_⟩) hS ?_
            · intro W hW; obtain ⟨hW1, hW2⟩ := hW; first | (go_simp; done) | (go_simp; with_reducible rfl) | (go_simp; exact hkw) | (go_simp; exact hmw) | (go_simp; exact hmw2) | (go_simp; omega)
            simp only [Act.put, List.setIfInBounds_toArray, List.set_cons_zero, List.set_cons_succ]
            refine wpAnyH_take (i := 15) (oi := { dst := some 43, op := Go.Op.load 9 (Go.Operand.tmp 42), type := 9, pos := "ref.go:41", after := #[{ on := 14, ground := Go.Ground.data }, { on := 9, ground := Go.Ground.guard }], guard := some (9, false) }) (v := .string z) rfl (by kernel_rfl) (by kernel_rfl) (by kernel_rfl) (fun _ _ _ h => h) (Or.inl ⟨by rfl, ?_⟩) hS ?_
            · intro W hW; obtain ⟨hW1, hW2⟩ := hW; first | (go_simp; done) | (go_simp; with_reducible rfl) | (go_simp; exact hkw) | (go_simp; exact hmw) | (go_simp; exact hmw2) | (go_simp; omega)
            simp only [Act.put, List.setIfInBounds_toArray, List.set_cons_zero, List.set_cons_succ]
            refine wpAnyH_take (i := 16) (oi := { dst := some 44, op := Go.Op.move (Go.Operand.tmp 9), type := 46, pos := "ref.go:41", after := #[{ on := 9, ground := Go.Ground.guard }], guard := some (9, false) }) (v := .slice (some ⟨g3, o3, none⟩) nb c3) rfl (by kernel_rfl) (by kernel_rfl) (by kernel_rfl) (fun _ _ _ h => h) (Or.inl ⟨by rfl, ?_⟩) hS ?_
            · intro W hW; obtain ⟨hW1, hW2⟩ := hW; first | (go_simp; done) | (go_simp; with_reducible rfl) | (go_simp; exact hkw) | (go_simp; exact hmw) | (go_simp; exact hmw2) | (go_simp; omega)
            simp only [Act.put, List.setIfInBounds_toArray, List.set_cons_zero, List.set_cons_succ]
            refine wpAnyH_take (i := 17) (oi := { dst := some 45, op := Go.Op.move (Go.Operand.tmp 6), type := 3, pos := "ref.go:41", after := #[{ on := 9, ground := Go.Ground.guard }], guard := some (9, false) }) (v := .int .i64 K) rfl (by kernel_rfl) (by kernel_rfl) (by kernel_rfl) (fun _ _ _ h => h) (Or.inl ⟨by rfl, ?_⟩) hS ?_
            · intro W hW; obtain ⟨hW1, hW2⟩ := hW; first | (go_simp; done) | (go_simp; with_reducible rfl) | (go_simp; exact hkw) | (go_simp; exact hmw) | (go_simp; exact hmw2) | (go_simp; omega)
            simp only [Act.put, List.setIfInBounds_toArray, List.set_cons_zero, List.set_cons_succ]
            refine wpAnyH_take (i := 18) (oi := { dst := some 46, op := Go.Op.indexAddr 46 (Go.Operand.tmp 44) (Go.Operand.tmp 45), type := 0, pos := "ref.go:41", after := #[{ on := 16, ground := Go.Ground.data }, { on := 17, ground := Go.Ground.data }, { on := 9, ground := Go.Ground.guard }], guard := some (9, false) }) (v := .pointer (some ⟨g3, o3 + K, none⟩)) rfl (by kernel_rfl) (by kernel_rfl) (by kernel_rfl) (fun _ _ _ h => h) (Or.inl ⟨by rfl, ?_⟩) hS ?_
            · intro W hW; obtain ⟨hW1, hW2⟩ := hW; first | (go_simp; done) | (go_simp; with_reducible rfl) | (go_simp; exact hkw) | (go_simp; exact hmw) | (go_simp; exact hmw2) | (go_simp; omega)
            simp only [Act.put, List.setIfInBounds_toArray, List.set_cons_zero, List.set_cons_succ]
            refine wpAnyH_take (i := 19) (oi := { dst := some 47, op := Go.Op.load 9 (Go.Operand.tmp 46), type := 9, pos := "ref.go:41", after := #[{ on := 18, ground := Go.Ground.data }, { on := 9, ground := Go.Ground.guard }], guard := some (9, false) }) (v := .string N) rfl (by kernel_rfl) (by kernel_rfl) (by kernel_rfl) (fun _ _ _ h => h) (Or.inl ⟨by rfl, ?_⟩) hS ?_
            · intro W hW; obtain ⟨hW1, hW2⟩ := hW; first | (go_simp; done) | (go_simp; with_reducible rfl) | (go_simp; exact hkw) | (go_simp; exact hmw) | (go_simp; exact hmw2) | (go_simp; omega)
            simp only [Act.put, List.setIfInBounds_toArray, List.set_cons_zero, List.set_cons_succ]
            refine wpAnyH_take (i := 20) (oi := { dst := some 48, op := Go.Op.binOp Go.BinOp.neq 9 (Go.Operand.tmp 43) (Go.Operand.tmp 47) 9, type := 4, pos := "ref.go:41", after := #[{ on := 15, ground := Go.Ground.data }, { on := 19, ground := Go.Ground.data }, { on := 9, ground := Go.Ground.guard }], guard := some (9, false) }) (v := .bool false) rfl (by kernel_rfl) (by kernel_rfl) (by kernel_rfl) (fun _ _ _ h => h) (Or.inl ⟨by rfl, ?_⟩) hS ?_
            · intro W hW; obtain ⟨hW1, hW2⟩ := hW; first | (go_simp; done) | (go_simp; with_reducible rfl) | (go_simp; exact hkw) | (go_simp; exact hmw) | (go_simp; exact hmw2) | (go_simp; omega)
            simp only [Act.put, List.setIfInBounds_toArray, List.set_cons_zero, List.set_cons_succ]
            refine wpAnyH_take (i := 21) (oi := { dst := some 49, op := Go.Op.pick (Go.Operand.tmp 37) (Go.Operand.const (Go.Value.bool true)) (Go.Operand.tmp 48), type := 4, pos := "ref.go:41", after := #[{ on := 9, ground := Go.Ground.data }, { on := 20, ground := Go.Ground.data }, { on := 5, ground := Go.Ground.guard }], guard := some (5, true) }) (v := .bool false) rfl (by kernel_rfl) (by kernel_rfl) (by kernel_rfl) (fun _ _ _ h => h) (Or.inl ⟨by rfl, ?_⟩) hS ?_
            · intro W hW; obtain ⟨hW1, hW2⟩ := hW; first | (go_simp; done) | (go_simp; with_reducible rfl) | (go_simp; exact hkw) | (go_simp; exact hmw) | (go_simp; exact hmw2) | (go_simp; omega)
            simp only [Act.put, List.setIfInBounds_toArray, List.set_cons_zero, List.set_cons_succ]
            refine wpAnyH_take (i := 22) (oi := { dst := some 50, op := Go.Op.pick (Go.Operand.tmp 33) (Go.Operand.tmp 49) (Go.Operand.const (Go.Value.bool false)), type := 4, pos := "ref.go:41", after := #[{ on := 5, ground := Go.Ground.data }, { on := 21, ground := Go.Ground.data }], guard := none }) (v := .bool false) rfl (by kernel_rfl) (by kernel_rfl) (by kernel_rfl) (fun _ _ _ h => h) (Or.inl ⟨by rfl, ?_⟩) hS ?_
            · intro W hW; obtain ⟨hW1, hW2⟩ := hW; first | (go_simp; done) | (go_simp; with_reducible rfl) | (go_simp; exact hkw) | (go_simp; exact hmw) | (go_simp; exact hmw2) | (go_simp; omega)
            simp only [Act.put, List.setIfInBounds_toArray, List.set_cons_zero, List.set_cons_succ]
            refine wpAnyH_done (by kernel_rfl) ?_ _
            clear hS
            have HO4 := hide ((unhide HO3).after (below_drew (Below.refl _ _)))
            have HB4 := hide (below_grow (unhide HB3) (Nat.le_refl _) (below_drew (Below.refl _ _)))
            clear HO3 HB3
            go_wp2_with fail
            go_roundw
            case rel => exact ⟨k + 1, by omega, by go_num, by rw [unhide HX]; exact unhide HO4, unhide HB4⟩
            case measure => simp [intOf]; omega
          · rw [decide_eq_false he] at hst
            have HX : Hid ((L0.take (k + 1)).foldl (dirsStep d) [] = M ++ [z] ++ [N]) := hide (by rw [unhide HSN2, if_pos ⟨hlen, by simpa using he⟩])
            clear he HSN2
            go_wp2_with fail
            refine wp_region_held_drew (S := fun W => W.cell? ⟨g3, o3 + K, none⟩ = some (.string N) ∧ W.cell? ⟨g4, o4 + M.length, none⟩ = some (.string z)) (by kernel_rfl) ⟨z0, z1⟩ (fun hS => ?_)
            refine wpAnyH_take (i := 0) (oi := { dst := some 28, op := Go.Op.move (Go.Operand.tmp 9), type := 46, pos := "ref.go:41", after := #[], guard := none }) (v := .slice (some ⟨g3, o3, none⟩) nb c3) rfl (by kernel_rfl) (by kernel_rfl) (by kernel_rfl) (fun _ _ _ h => h) (Or.inl ⟨by rfl, ?_⟩) hS ?_
            · intro W hW; obtain ⟨hW1, hW2⟩ := hW; first | (go_simp; done) | (go_simp; with_reducible rfl) | (go_simp; exact hkw) | (go_simp; exact hmw) | (go_simp; exact hmw2) | (go_simp; omega)
            simp only [Act.put, List.setIfInBounds_toArray, List.set_cons_zero, List.set_cons_succ]
            refine wpAnyH_take (i := 1) (oi := { dst := some 29, op := Go.Op.call { callee := Go.Callee.builtin Go.Builtin.len, args := #[Go.Operand.tmp 28], argTypes := #[46] }, type := 3, pos := "ref.go:41", after := #[{ on := 0, ground := Go.Ground.data }], guard := none }) (v := .int .i64 nb) rfl (by kernel_rfl) (by kernel_rfl) (by kernel_rfl) (fun _ _ _ h => h) (Or.inl ⟨by rfl, ?_⟩) hS ?_
            · intro W hW; obtain ⟨hW1, hW2⟩ := hW; first | (go_simp; done) | (go_simp; with_reducible rfl) | (go_simp; exact hkw) | (go_simp; exact hmw) | (go_simp; exact hmw2) | (go_simp; omega)
            simp only [Act.put, List.setIfInBounds_toArray, List.set_cons_zero, List.set_cons_succ]
            refine wpAnyH_take (i := 2) (oi := { dst := some 30, op := Go.Op.move (Go.Operand.tmp 6), type := 3, pos := "ref.go:41", after := #[], guard := none }) (v := .int .i64 K) rfl (by kernel_rfl) (by kernel_rfl) (by kernel_rfl) (fun _ _ _ h => h) (Or.inl ⟨by rfl, ?_⟩) hS ?_
            · intro W hW; obtain ⟨hW1, hW2⟩ := hW; first | (go_simp; done) | (go_simp; with_reducible rfl) | (go_simp; exact hkw) | (go_simp; exact hmw) | (go_simp; exact hmw2) | (go_simp; omega)
            simp only [Act.put, List.setIfInBounds_toArray, List.set_cons_zero, List.set_cons_succ]
            refine wpAnyH_take (i := 3) (oi := { dst := some 31, op := Go.Op.binOp Go.BinOp.add 3 (Go.Operand.tmp 30) (Go.Operand.const (Go.Value.int Go.IntKind.i64 1)) 3, type := 3, pos := "ref.go:41", after := #[{ on := 2, ground := Go.Ground.data }], guard := none }) (v := .int .i64 ((K : Int) + 1)) rfl (by kernel_rfl) (by kernel_rfl) (by kernel_rfl) (fun _ _ _ h => h) (Or.inl ⟨by rfl, ?_⟩) hS ?_
            · intro W hW; obtain ⟨hW1, hW2⟩ := hW; first | (go_simp; done) | (go_simp; with_reducible rfl) | (go_simp; exact hkw) | (go_simp; exact hmw) | (go_simp; exact hmw2) | (go_simp; omega)
            simp only [Act.put, List.setIfInBounds_toArray, List.set_cons_zero, List.set_cons_succ]
            refine wpAnyH_take (i := 4) (oi := { dst := some 32, op := Go.Op.binOp Go.BinOp.gtr 3 (Go.Operand.tmp 29) (Go.Operand.tmp 31) 3, type := 4, pos := "ref.go:41", after := #[{ on := 1, ground := Go.Ground.data }, { on := 3, ground := Go.Ground.data }], guard := none }) (v := .bool true) rfl (by kernel_rfl) (by kernel_rfl) (by kernel_rfl) (fun _ _ _ h => h) (Or.inl ⟨by rfl, ?_⟩) hS ?_
            · intro W hW; obtain ⟨hW1, hW2⟩ := hW; first | (go_simp; done) | (go_simp; with_reducible rfl) | (go_simp; exact hkw) | (go_simp; exact hmw) | (go_simp; exact hmw2) | (go_simp; omega)
            simp only [Act.put, List.setIfInBounds_toArray, List.set_cons_zero, List.set_cons_succ]
            refine wpAnyH_take (i := 5) (oi := { dst := some 33, op := Go.Op.move (Go.Operand.tmp 32), type := 4, pos := "ref.go:41", after := #[{ on := 4, ground := Go.Ground.data }], guard := none }) (v := .bool true) rfl (by kernel_rfl) (by kernel_rfl) (by kernel_rfl) (fun _ _ _ h => h) (Or.inl ⟨by rfl, ?_⟩) hS ?_
            · intro W hW; obtain ⟨hW1, hW2⟩ := hW; first | (go_simp; done) | (go_simp; with_reducible rfl) | (go_simp; exact hkw) | (go_simp; exact hmw) | (go_simp; exact hmw2) | (go_simp; omega)
            simp only [Act.put, List.setIfInBounds_toArray, List.set_cons_zero, List.set_cons_succ]
            refine wpAnyH_take (i := 6) (oi := { dst := some 34, op := Go.Op.move (Go.Operand.tmp 5), type := 46, pos := "ref.go:41", after := #[{ on := 5, ground := Go.Ground.guard }], guard := some (5, true) }) (v := .slice (some ⟨g4, o4, none⟩) (M.length + 1) c4) rfl (by kernel_rfl) (by kernel_rfl) (by kernel_rfl) (fun _ _ _ h => h) (Or.inl ⟨by rfl, ?_⟩) hS ?_
            · intro W hW; obtain ⟨hW1, hW2⟩ := hW; first | (go_simp; done) | (go_simp; with_reducible rfl) | (go_simp; exact hkw) | (go_simp; exact hmw) | (go_simp; exact hmw2) | (go_simp; omega)
            simp only [Act.put, List.setIfInBounds_toArray, List.set_cons_zero, List.set_cons_succ]
            refine wpAnyH_take (i := 7) (oi := { dst := some 35, op := Go.Op.call { callee := Go.Callee.builtin Go.Builtin.len, args := #[Go.Operand.tmp 34], argTypes := #[46] }, type := 3, pos := "ref.go:41", after := #[{ on := 6, ground := Go.Ground.data }, { on := 5, ground := Go.Ground.guard }], guard := some (5, true) }) (v := .int .i64 ((M.length : Int) + 1)) rfl (by kernel_rfl) (by kernel_rfl) (by kernel_rfl) (fun _ _ _ h => h) (Or.inl ⟨by rfl, ?_⟩) hS ?_
            · intro W hW; obtain ⟨hW1, hW2⟩ := hW; first | (go_simp; done) | (go_simp; with_reducible rfl) | (go_simp; exact hkw) | (go_simp; exact hmw) | (go_simp; exact hmw2) | (go_simp; omega)
            simp only [Act.put, List.setIfInBounds_toArray, List.set_cons_zero, List.set_cons_succ]
            refine wpAnyH_take (i := 8) (oi := { dst := some 36, op := Go.Op.binOp Go.BinOp.eql 3 (Go.Operand.tmp 35) (Go.Operand.const (Go.Value.int Go.IntKind.i64 0)) 3, type := 4, pos := "ref.go:41", after := #[{ on := 7, ground := Go.Ground.data }, { on := 5, ground := Go.Ground.guard }], guard := some (5, true) }) (v := .bool false) rfl (by kernel_rfl) (by kernel_rfl) (by kernel_rfl) (fun _ _ _ h => h) (Or.inl ⟨by rfl, ?_⟩) hS ?_
            · intro W hW; obtain ⟨hW1, hW2⟩ := hW; first | (go_simp; done) | (go_simp; with_reducible rfl) | (go_simp; exact hkw) | (go_simp; exact hmw) | (go_simp; exact hmw2) | (go_simp; omega)
            simp only [Act.put, List.setIfInBounds_toArray, List.set_cons_zero, List.set_cons_succ]
            refine wpAnyH_take (i := 9) (oi := { dst := some 37, op := Go.Op.move (Go.Operand.tmp 36), type := 4, pos := "ref.go:41", after := #[{ on := 8, ground := Go.Ground.data }, { on := 5, ground := Go.Ground.chain }, { on := 5, ground := Go.Ground.guard }], guard := some (5, true) }) (v := .bool false) rfl (by kernel_rfl) (by kernel_rfl) (by kernel_rfl) (fun _ _ _ h => h) (Or.inl ⟨by rfl, ?_⟩) hS ?_
            · intro W hW; obtain ⟨hW1, hW2⟩ := hW; first | (go_simp; done) | (go_simp; with_reducible rfl) | (go_simp; exact hkw) | (go_simp; exact hmw) | (go_simp; exact hmw2) | (go_simp; omega)
            simp only [Act.put, List.setIfInBounds_toArray, List.set_cons_zero, List.set_cons_succ]
            refine wpAnyH_take (i := 10) (oi := { dst := some 38, op := Go.Op.move (Go.Operand.tmp 5), type := 46, pos := "ref.go:41", after := #[{ on := 9, ground := Go.Ground.guard }], guard := some (9, false) }) (v := .slice (some ⟨g4, o4, none⟩) (M.length + 1) c4) rfl (by kernel_rfl) (by kernel_rfl) (by kernel_rfl) (fun _ _ _ h => h) (Or.inl ⟨by rfl, ?_⟩) hS ?_
            · intro W hW; obtain ⟨hW1, hW2⟩ := hW; first | (go_simp; done) | (go_simp; with_reducible rfl) | (go_simp; exact hkw) | (go_simp; exact hmw) | (go_simp; exact hmw2) | (go_simp; omega)
            simp only [Act.put, List.setIfInBounds_toArray, List.set_cons_zero, List.set_cons_succ]
            refine wpAnyH_take (i := 11) (oi := { dst := some 39, op := Go.Op.move (Go.Operand.tmp 5), type := 46, pos := "ref.go:41", after := #[{ on := 9, ground := Go.Ground.guard }], guard := some (9, false) }) (v := .slice (some ⟨g4, o4, none⟩) (M.length + 1) c4) rfl (by kernel_rfl) (by kernel_rfl) (by kernel_rfl) (fun _ _ _ h => h) (Or.inl ⟨by rfl, ?_⟩) hS ?_
            · intro W hW; obtain ⟨hW1, hW2⟩ := hW; first | (go_simp; done) | (go_simp; with_reducible rfl) | (go_simp; exact hkw) | (go_simp; exact hmw) | (go_simp; exact hmw2) | (go_simp; omega)
            simp only [Act.put, List.setIfInBounds_toArray, List.set_cons_zero, List.set_cons_succ]
            refine wpAnyH_take (i := 12) (oi := { dst := some 40, op := Go.Op.call { callee := Go.Callee.builtin Go.Builtin.len, args := #[Go.Operand.tmp 39], argTypes := #[46] }, type := 3, pos := "ref.go:41", after := #[{ on := 11, ground := Go.Ground.data }, { on := 9, ground := Go.Ground.guard }], guard := some (9, false) }) (v := .int .i64 ((M.length : Int) + 1)) rfl (by kernel_rfl) (by kernel_rfl) (by kernel_rfl) (fun _ _ _ h => h) (Or.inl ⟨by rfl, ?_⟩) hS ?_
            · intro W hW; obtain ⟨hW1, hW2⟩ := hW; first | (go_simp; done) | (go_simp; with_reducible rfl) | (go_simp; exact hkw) | (go_simp; exact hmw) | (go_simp; exact hmw2) | (go_simp; omega)
            simp only [Act.put, List.setIfInBounds_toArray, List.set_cons_zero, List.set_cons_succ]
            refine wpAnyH_take (i := 13) (oi := { dst := some 41, op := Go.Op.binOp Go.BinOp.sub 3 (Go.Operand.tmp 40) (Go.Operand.const (Go.Value.int Go.IntKind.i64 1)) 3, type := 3, pos := "ref.go:41", after := #[{ on := 12, ground := Go.Ground.data }, { on := 9, ground := Go.Ground.guard }], guard := some (9, false) }) (v := .int .i64 M.length) rfl (by kernel_rfl) (by kernel_rfl) (by kernel_rfl) (fun _ _ _ h => h) (Or.inl ⟨by rfl, ?_⟩) hS ?_
            · intro W hW; obtain ⟨hW1, hW2⟩ := hW; first | (go_simp; done) | (go_simp; with_reducible rfl) | (go_simp; exact hkw) | (go_simp; exact hmw) | (go_simp; exact hmw2) | (go_simp; omega)
            simp only [Act.put, List.setIfInBounds_toArray, List.set_cons_zero, List.set_cons_succ]
            refine wpAnyH_take (i := 14) (oi := { dst := some 42, op := Go.Op.indexAddr 46 (Go.Operand.tmp 38) (Go.Operand.tmp 41), type := 0, pos := "ref.go:41", after := #[{ on := 10, ground := Go.Ground.data }, { on := 13, ground := Go.Ground.data }, { on := 9, ground := Go.Ground.guard }], guard := some (9, false) }) (v := .pointer (some ⟨g4, o4 + M.length, none⟩)) rfl (by kernel_rfl) (by kernel_rfl) (by kernel_rfl) (fun _ _ _ h => h) (Or.inl ⟨by rfl, ?_⟩) hS ?_
            · intro W hW; obtain ⟨hW1, hW2⟩ := hW; first | (go_simp; done) | (go_simp; with_reducible rfl) | (go_simp; exact hkw) | (go_simp; exact hmw) | (go_simp; exact hmw2) | (go_simp; omega)
            simp only [Act.put, List.setIfInBounds_toArray, List.set_cons_zero, List.set_cons_succ]
            refine wpAnyH_take (i := 15) (oi := { dst := some 43, op := Go.Op.load 9 (Go.Operand.tmp 42), type := 9, pos := "ref.go:41", after := #[{ on := 14, ground := Go.Ground.data }, { on := 9, ground := Go.Ground.guard }], guard := some (9, false) }) (v := .string z) rfl (by kernel_rfl) (by kernel_rfl) (by kernel_rfl) (fun _ _ _ h => h) (Or.inl ⟨by rfl, ?_⟩) hS ?_
            · intro W hW; obtain ⟨hW1, hW2⟩ := hW; first | (go_simp; done) | (go_simp; with_reducible rfl) | (go_simp; exact hkw) | (go_simp; exact hmw) | (go_simp; exact hmw2) | (go_simp; omega)
            simp only [Act.put, List.setIfInBounds_toArray, List.set_cons_zero, List.set_cons_succ]
            refine wpAnyH_take (i := 16) (oi := { dst := some 44, op := Go.Op.move (Go.Operand.tmp 9), type := 46, pos := "ref.go:41", after := #[{ on := 9, ground := Go.Ground.guard }], guard := some (9, false) }) (v := .slice (some ⟨g3, o3, none⟩) nb c3) rfl (by kernel_rfl) (by kernel_rfl) (by kernel_rfl) (fun _ _ _ h => h) (Or.inl ⟨by rfl, ?_⟩) hS ?_
            · intro W hW; obtain ⟨hW1, hW2⟩ := hW; first | (go_simp; done) | (go_simp; with_reducible rfl) | (go_simp; exact hkw) | (go_simp; exact hmw) | (go_simp; exact hmw2) | (go_simp; omega)
            simp only [Act.put, List.setIfInBounds_toArray, List.set_cons_zero, List.set_cons_succ]
            refine wpAnyH_take (i := 17) (oi := { dst := some 45, op := Go.Op.move (Go.Operand.tmp 6), type := 3, pos := "ref.go:41", after := #[{ on := 9, ground := Go.Ground.guard }], guard := some (9, false) }) (v := .int .i64 K) rfl (by kernel_rfl) (by kernel_rfl) (by kernel_rfl) (fun _ _ _ h => h) (Or.inl ⟨by rfl, ?_⟩) hS ?_
            · intro W hW; obtain ⟨hW1, hW2⟩ := hW; first | (go_simp; done) | (go_simp; with_reducible rfl) | (go_simp; exact hkw) | (go_simp; exact hmw) | (go_simp; exact hmw2) | (go_simp; omega)
            simp only [Act.put, List.setIfInBounds_toArray, List.set_cons_zero, List.set_cons_succ]
            refine wpAnyH_take (i := 18) (oi := { dst := some 46, op := Go.Op.indexAddr 46 (Go.Operand.tmp 44) (Go.Operand.tmp 45), type := 0, pos := "ref.go:41", after := #[{ on := 16, ground := Go.Ground.data }, { on := 17, ground := Go.Ground.data }, { on := 9, ground := Go.Ground.guard }], guard := some (9, false) }) (v := .pointer (some ⟨g3, o3 + K, none⟩)) rfl (by kernel_rfl) (by kernel_rfl) (by kernel_rfl) (fun _ _ _ h => h) (Or.inl ⟨by rfl, ?_⟩) hS ?_
            · intro W hW; obtain ⟨hW1, hW2⟩ := hW; first | (go_simp; done) | (go_simp; with_reducible rfl) | (go_simp; exact hkw) | (go_simp; exact hmw) | (go_simp; exact hmw2) | (go_simp; omega)
            simp only [Act.put, List.setIfInBounds_toArray, List.set_cons_zero, List.set_cons_succ]
            refine wpAnyH_take (i := 19) (oi := { dst := some 47, op := Go.Op.load 9 (Go.Operand.tmp 46), type := 9, pos := "ref.go:41", after := #[{ on := 18, ground := Go.Ground.data }, { on := 9, ground := Go.Ground.guard }], guard := some (9, false) }) (v := .string N) rfl (by kernel_rfl) (by kernel_rfl) (by kernel_rfl) (fun _ _ _ h => h) (Or.inl ⟨by rfl, ?_⟩) hS ?_
            · intro W hW; obtain ⟨hW1, hW2⟩ := hW; first | (go_simp; done) | (go_simp; with_reducible rfl) | (go_simp; exact hkw) | (go_simp; exact hmw) | (go_simp; exact hmw2) | (go_simp; omega)
            simp only [Act.put, List.setIfInBounds_toArray, List.set_cons_zero, List.set_cons_succ]
            refine wpAnyH_take (i := 20) (oi := { dst := some 48, op := Go.Op.binOp Go.BinOp.neq 9 (Go.Operand.tmp 43) (Go.Operand.tmp 47) 9, type := 4, pos := "ref.go:41", after := #[{ on := 15, ground := Go.Ground.data }, { on := 19, ground := Go.Ground.data }, { on := 9, ground := Go.Ground.guard }], guard := some (9, false) }) (v := .bool true) rfl (by kernel_rfl) (by kernel_rfl) (by kernel_rfl) (fun _ _ _ h => h) (Or.inl ⟨by rfl, ?_⟩) hS ?_
            · intro W hW; obtain ⟨hW1, hW2⟩ := hW; first | (go_simp; done) | (go_simp; with_reducible rfl) | (go_simp; exact hkw) | (go_simp; exact hmw) | (go_simp; exact hmw2) | (go_simp; omega)
            simp only [Act.put, List.setIfInBounds_toArray, List.set_cons_zero, List.set_cons_succ]
            refine wpAnyH_take (i := 21) (oi := { dst := some 49, op := Go.Op.pick (Go.Operand.tmp 37) (Go.Operand.const (Go.Value.bool true)) (Go.Operand.tmp 48), type := 4, pos := "ref.go:41", after := #[{ on := 9, ground := Go.Ground.data }, { on := 20, ground := Go.Ground.data }, { on := 5, ground := Go.Ground.guard }], guard := some (5, true) }) (v := .bool true) rfl (by kernel_rfl) (by kernel_rfl) (by kernel_rfl) (fun _ _ _ h => h) (Or.inl ⟨by rfl, ?_⟩) hS ?_
            · intro W hW; obtain ⟨hW1, hW2⟩ := hW; first | (go_simp; done) | (go_simp; with_reducible rfl) | (go_simp; exact hkw) | (go_simp; exact hmw) | (go_simp; exact hmw2) | (go_simp; omega)
            simp only [Act.put, List.setIfInBounds_toArray, List.set_cons_zero, List.set_cons_succ]
            refine wpAnyH_take (i := 22) (oi := { dst := some 50, op := Go.Op.pick (Go.Operand.tmp 33) (Go.Operand.tmp 49) (Go.Operand.const (Go.Value.bool false)), type := 4, pos := "ref.go:41", after := #[{ on := 5, ground := Go.Ground.data }, { on := 21, ground := Go.Ground.data }], guard := none }) (v := .bool true) rfl (by kernel_rfl) (by kernel_rfl) (by kernel_rfl) (fun _ _ _ h => h) (Or.inl ⟨by rfl, ?_⟩) hS ?_
            · intro W hW; obtain ⟨hW1, hW2⟩ := hW; first | (go_simp; done) | (go_simp; with_reducible rfl) | (go_simp; exact hkw) | (go_simp; exact hmw) | (go_simp; exact hmw2) | (go_simp; omega)
            simp only [Act.put, List.setIfInBounds_toArray, List.set_cons_zero, List.set_cons_succ]
            refine wpAnyH_done (by kernel_rfl) ?_ _
            clear hS
            have HO4 := hide ((unhide HO3).after (below_drew (Below.refl _ _)))
            have HB4 := hide (below_grow (unhide HB3) (Nat.le_refl _) (below_drew (Below.refl _ _)))
            have z4 : w3.drew.cell? ⟨g3, o3 + K, none⟩ = some (.string N) := z0
            have HV := hide (VRow.new w3.drew 9 [.string N])
            have HA := hide (below_alloc' (w := w3.drew) (.cells #[.string N] 9))
            have hz5 := (unhide HB4).size
            clear z0 HO3 HB3
            go_wp2_with (at_builtin; refine append_txt (by rfl) _ _ (by rfl) w2.heap.size _ (M ++ [z]) (by rfl) ((unhide HO4).after (unhide HA)) _ 1 1 [N] rfl (by rfl) (one_txt (unhide HV)) (by simp; omega) (Nat.le_trans hz5 (unhide HA).size) ?_; intro v5 w5 hot5 hb5 _ _; have HO5 := hide hot5; have HB5 := hide (((unhide HB4).trans ((unhide HA).mono hz5)).trans hb5); clear hot5 hb5)
            go_roundw
            case rel => exact ⟨k + 1, by omega, by go_num, by rw [unhide HX]; exact unhide HO5, unhide HB5⟩
            case measure => simp [intOf]; omega
      · have hld : decide ((K : Int) + 1 < (nb : Int)) = false := decide_eq_false (by omega)
        have HX : Hid ((L0.take (k + 1)).foldl (dirsStep d) [] = L) := hide (by rw [unhide HSN2, if_neg (fun h => hlen h.1)])
        clear HSN2 HS4
        go_wp2_with fail
        refine wp_region_held_drew (S := fun _ => True) (by kernel_rfl) trivial (fun hS => ?_)
        refine wpAnyH_take (i := 0) (oi := { dst := some 28, op := Go.Op.move (Go.Operand.tmp 9), type := 46, pos := "ref.go:41", after := #[], guard := none }) (v := .slice (some ⟨g3, o3, none⟩) nb c3) rfl (by kernel_rfl) (by kernel_rfl) (by kernel_rfl) (fun _ _ _ h => h) (Or.inl ⟨by rfl, ?_⟩) hS ?_
        · intro W hW; first | (go_simp; done) | (go_simp; with_reducible rfl) | (go_simp; exact hkw) | (go_simp; omega)
        simp only [Act.put, List.setIfInBounds_toArray, List.set_cons_zero, List.set_cons_succ]
        refine wpAnyH_take (i := 1) (oi := { dst := some 29, op := Go.Op.call { callee := Go.Callee.builtin Go.Builtin.len, args := #[Go.Operand.tmp 28], argTypes := #[46] }, type := 3, pos := "ref.go:41", after := #[{ on := 0, ground := Go.Ground.data }], guard := none }) (v := .int .i64 nb) rfl (by kernel_rfl) (by kernel_rfl) (by kernel_rfl) (fun _ _ _ h => h) (Or.inl ⟨by rfl, ?_⟩) hS ?_
        · intro W hW; first | (go_simp; done) | (go_simp; with_reducible rfl) | (go_simp; exact hkw) | (go_simp; omega)
        simp only [Act.put, List.setIfInBounds_toArray, List.set_cons_zero, List.set_cons_succ]
        refine wpAnyH_take (i := 2) (oi := { dst := some 30, op := Go.Op.move (Go.Operand.tmp 6), type := 3, pos := "ref.go:41", after := #[], guard := none }) (v := .int .i64 K) rfl (by kernel_rfl) (by kernel_rfl) (by kernel_rfl) (fun _ _ _ h => h) (Or.inl ⟨by rfl, ?_⟩) hS ?_
        · intro W hW; first | (go_simp; done) | (go_simp; with_reducible rfl) | (go_simp; exact hkw) | (go_simp; omega)
        simp only [Act.put, List.setIfInBounds_toArray, List.set_cons_zero, List.set_cons_succ]
        refine wpAnyH_take (i := 3) (oi := { dst := some 31, op := Go.Op.binOp Go.BinOp.add 3 (Go.Operand.tmp 30) (Go.Operand.const (Go.Value.int Go.IntKind.i64 1)) 3, type := 3, pos := "ref.go:41", after := #[{ on := 2, ground := Go.Ground.data }], guard := none }) (v := .int .i64 ((K : Int) + 1)) rfl (by kernel_rfl) (by kernel_rfl) (by kernel_rfl) (fun _ _ _ h => h) (Or.inl ⟨by rfl, ?_⟩) hS ?_
        · intro W hW; first | (go_simp; done) | (go_simp; with_reducible rfl) | (go_simp; exact hkw) | (go_simp; omega)
        simp only [Act.put, List.setIfInBounds_toArray, List.set_cons_zero, List.set_cons_succ]
        refine wpAnyH_take (i := 4) (oi := { dst := some 32, op := Go.Op.binOp Go.BinOp.gtr 3 (Go.Operand.tmp 29) (Go.Operand.tmp 31) 3, type := 4, pos := "ref.go:41", after := #[{ on := 1, ground := Go.Ground.data }, { on := 3, ground := Go.Ground.data }], guard := none }) (v := .bool false) rfl (by kernel_rfl) (by kernel_rfl) (by kernel_rfl) (fun _ _ _ h => h) (Or.inl ⟨by rfl, ?_⟩) hS ?_
        · intro W hW; first | (go_simp; done) | (go_simp; with_reducible rfl) | (go_simp; exact hkw) | (go_simp; omega)
        simp only [Act.put, List.setIfInBounds_toArray, List.set_cons_zero, List.set_cons_succ]
        refine wpAnyH_take (i := 5) (oi := { dst := some 33, op := Go.Op.move (Go.Operand.tmp 32), type := 4, pos := "ref.go:41", after := #[{ on := 4, ground := Go.Ground.data }], guard := none }) (v := .bool false) rfl (by kernel_rfl) (by kernel_rfl) (by kernel_rfl) (fun _ _ _ h => h) (Or.inl ⟨by rfl, ?_⟩) hS ?_
        · intro W hW; first | (go_simp; done) | (go_simp; with_reducible rfl) | (go_simp; exact hkw) | (go_simp; omega)
        simp only [Act.put, List.setIfInBounds_toArray, List.set_cons_zero, List.set_cons_succ]
        refine wpAnyH_take (i := 6) (oi := { dst := some 34, op := Go.Op.move (Go.Operand.tmp 5), type := 46, pos := "ref.go:41", after := #[{ on := 5, ground := Go.Ground.guard }], guard := some (5, true) }) (v := undef) rfl (by kernel_rfl) (by kernel_rfl) (by kernel_rfl) (fun _ _ _ h => h) (Or.inr ⟨by rfl, rfl⟩) hS ?_
        simp only [Act.put, List.setIfInBounds_toArray, List.set_cons_zero, List.set_cons_succ]
        refine wpAnyH_take (i := 7) (oi := { dst := some 35, op := Go.Op.call { callee := Go.Callee.builtin Go.Builtin.len, args := #[Go.Operand.tmp 34], argTypes := #[46] }, type := 3, pos := "ref.go:41", after := #[{ on := 6, ground := Go.Ground.data }, { on := 5, ground := Go.Ground.guard }], guard := some (5, true) }) (v := undef) rfl (by kernel_rfl) (by kernel_rfl) (by kernel_rfl) (fun _ _ _ h => h) (Or.inr ⟨by rfl, rfl⟩) hS ?_
        simp only [Act.put, List.setIfInBounds_toArray, List.set_cons_zero, List.set_cons_succ]
        refine wpAnyH_take (i := 8) (oi := { dst := some 36, op := Go.Op.binOp Go.BinOp.eql 3 (Go.Operand.tmp 35) (Go.Operand.const (Go.Value.int Go.IntKind.i64 0)) 3, type := 4, pos := "ref.go:41", after := #[{ on := 7, ground := Go.Ground.data }, { on := 5, ground := Go.Ground.guard }], guard := some (5, true) }) (v := undef) rfl (by kernel_rfl) (by kernel_rfl) (by kernel_rfl) (fun _ _ _ h => h) (Or.inr ⟨by rfl, rfl⟩) hS ?_
        simp only [Act.put, List.setIfInBounds_toArray, List.set_cons_zero, List.set_cons_succ]
        refine wpAnyH_take (i := 9) (oi := { dst := some 37, op := Go.Op.move (Go.Operand.tmp 36), type := 4, pos := "ref.go:41", after := #[{ on := 8, ground := Go.Ground.data }, { on := 5, ground := Go.Ground.chain }, { on := 5, ground := Go.Ground.guard }], guard := some (5, true) }) (v := undef) rfl (by kernel_rfl) (by kernel_rfl) (by kernel_rfl) (fun _ _ _ h => h) (Or.inr ⟨by rfl, rfl⟩) hS ?_
        simp only [Act.put, List.setIfInBounds_toArray, List.set_cons_zero, List.set_cons_succ]
        refine wpAnyH_take (i := 10) (oi := { dst := some 38, op := Go.Op.move (Go.Operand.tmp 5), type := 46, pos := "ref.go:41", after := #[{ on := 9, ground := Go.Ground.guard }], guard := some (9, false) }) (v := undef) rfl (by kernel_rfl) (by kernel_rfl) (by kernel_rfl) (fun _ _ _ h => h) (Or.inr ⟨by rfl, rfl⟩) hS ?_
        simp only [Act.put, List.setIfInBounds_toArray, List.set_cons_zero, List.set_cons_succ]
        refine wpAnyH_take (i := 11) (oi := { dst := some 39, op := Go.Op.move (Go.Operand.tmp 5), type := 46, pos := "ref.go:41", after := #[{ on := 9, ground := Go.Ground.guard }], guard := some (9, false) }) (v := undef) rfl (by kernel_rfl) (by kernel_rfl) (by kernel_rfl) (fun _ _ _ h => h) (Or.inr ⟨by rfl, rfl⟩) hS ?_
        simp only [Act.put, List.setIfInBounds_toArray, List.set_cons_zero, List.set_cons_succ]
        refine wpAnyH_take (i := 12) (oi := { dst := some 40, op := Go.Op.call { callee := Go.Callee.builtin Go.Builtin.len, args := #[Go.Operand.tmp 39], argTypes := #[46] }, type := 3, pos := "ref.go:41", after := #[{ on := 11, ground := Go.Ground.data }, { on := 9, ground := Go.Ground.guard }], guard := some (9, false) }) (v := undef) rfl (by kernel_rfl) (by kernel_rfl) (by kernel_rfl) (fun _ _ _ h => h) (Or.inr ⟨by rfl, rfl⟩) hS ?_
        simp only [Act.put, List.setIfInBounds_toArray, List.set_cons_zero, List.set_cons_succ]
        refine wpAnyH_take (i := 13) (oi := { dst := some 41, op := Go.Op.binOp Go.BinOp.sub 3 (Go.Operand.tmp 40) (Go.Operand.const (Go.Value.int Go.IntKind.i64 1)) 3, type := 3, pos := "ref.go:41", after := #[{ on := 12, ground := Go.Ground.data }, { on := 9, ground := Go.Ground.guard }], guard := some (9, false) }) (v := undef) rfl (by kernel_rfl) (by kernel_rfl) (by kernel_rfl) (fun _ _ _ h => h) (Or.inr ⟨by rfl, rfl⟩) hS ?_
        simp only [Act.put, List.setIfInBounds_toArray, List.set_cons_zero, List.set_cons_succ]
        refine wpAnyH_take (i := 14) (oi := { dst := some 42, op := Go.Op.indexAddr 46 (Go.Operand.tmp 38) (Go.Operand.tmp 41), type := 0, pos := "ref.go:41", after := #[{ on := 10, ground := Go.Ground.data }, { on := 13, ground := Go.Ground.data }, { on := 9, ground := Go.Ground.guard }], guard := some (9, false) }) (v := undef) rfl (by kernel_rfl) (by kernel_rfl) (by kernel_rfl) (fun _ _ _ h => h) (Or.inr ⟨by rfl, rfl⟩) hS ?_
        simp only [Act.put, List.setIfInBounds_toArray, List.set_cons_zero, List.set_cons_succ]
        refine wpAnyH_take (i := 15) (oi := { dst := some 43, op := Go.Op.load 9 (Go.Operand.tmp 42), type := 9, pos := "ref.go:41", after := #[{ on := 14, ground := Go.Ground.data }, { on := 9, ground := Go.Ground.guard }], guard := some (9, false) }) (v := undef) rfl (by kernel_rfl) (by kernel_rfl) (by kernel_rfl) (fun _ _ _ h => h) (Or.inr ⟨by rfl, rfl⟩) hS ?_
        simp only [Act.put, List.setIfInBounds_toArray, List.set_cons_zero, List.set_cons_succ]
        refine wpAnyH_take (i := 16) (oi := { dst := some 44, op := Go.Op.move (Go.Operand.tmp 9), type := 46, pos := "ref.go:41", after := #[{ on := 9, ground := Go.Ground.guard }], guard := some (9, false) }) (v := undef) rfl (by kernel_rfl) (by kernel_rfl) (by kernel_rfl) (fun _ _ _ h => h) (Or.inr ⟨by rfl, rfl⟩) hS ?_
        simp only [Act.put, List.setIfInBounds_toArray, List.set_cons_zero, List.set_cons_succ]
        refine wpAnyH_take (i := 17) (oi := { dst := some 45, op := Go.Op.move (Go.Operand.tmp 6), type := 3, pos := "ref.go:41", after := #[{ on := 9, ground := Go.Ground.guard }], guard := some (9, false) }) (v := undef) rfl (by kernel_rfl) (by kernel_rfl) (by kernel_rfl) (fun _ _ _ h => h) (Or.inr ⟨by rfl, rfl⟩) hS ?_
        simp only [Act.put, List.setIfInBounds_toArray, List.set_cons_zero, List.set_cons_succ]
        refine wpAnyH_take (i := 18) (oi := { dst := some 46, op := Go.Op.indexAddr 46 (Go.Operand.tmp 44) (Go.Operand.tmp 45), type := 0, pos := "ref.go:41", after := #[{ on := 16, ground := Go.Ground.data }, { on := 17, ground := Go.Ground.data }, { on := 9, ground := Go.Ground.guard }], guard := some (9, false) }) (v := undef) rfl (by kernel_rfl) (by kernel_rfl) (by kernel_rfl) (fun _ _ _ h => h) (Or.inr ⟨by rfl, rfl⟩) hS ?_
        simp only [Act.put, List.setIfInBounds_toArray, List.set_cons_zero, List.set_cons_succ]
        refine wpAnyH_take (i := 19) (oi := { dst := some 47, op := Go.Op.load 9 (Go.Operand.tmp 46), type := 9, pos := "ref.go:41", after := #[{ on := 18, ground := Go.Ground.data }, { on := 9, ground := Go.Ground.guard }], guard := some (9, false) }) (v := undef) rfl (by kernel_rfl) (by kernel_rfl) (by kernel_rfl) (fun _ _ _ h => h) (Or.inr ⟨by rfl, rfl⟩) hS ?_
        simp only [Act.put, List.setIfInBounds_toArray, List.set_cons_zero, List.set_cons_succ]
        refine wpAnyH_take (i := 20) (oi := { dst := some 48, op := Go.Op.binOp Go.BinOp.neq 9 (Go.Operand.tmp 43) (Go.Operand.tmp 47) 9, type := 4, pos := "ref.go:41", after := #[{ on := 15, ground := Go.Ground.data }, { on := 19, ground := Go.Ground.data }, { on := 9, ground := Go.Ground.guard }], guard := some (9, false) }) (v := undef) rfl (by kernel_rfl) (by kernel_rfl) (by kernel_rfl) (fun _ _ _ h => h) (Or.inr ⟨by rfl, rfl⟩) hS ?_
        simp only [Act.put, List.setIfInBounds_toArray, List.set_cons_zero, List.set_cons_succ]
        refine wpAnyH_take (i := 21) (oi := { dst := some 49, op := Go.Op.pick (Go.Operand.tmp 37) (Go.Operand.const (Go.Value.bool true)) (Go.Operand.tmp 48), type := 4, pos := "ref.go:41", after := #[{ on := 9, ground := Go.Ground.data }, { on := 20, ground := Go.Ground.data }, { on := 5, ground := Go.Ground.guard }], guard := some (5, true) }) (v := undef) rfl (by kernel_rfl) (by kernel_rfl) (by kernel_rfl) (fun _ _ _ h => h) (Or.inr ⟨by rfl, rfl⟩) hS ?_
        simp only [Act.put, List.setIfInBounds_toArray, List.set_cons_zero, List.set_cons_succ]
        refine wpAnyH_take (i := 22) (oi := { dst := some 50, op := Go.Op.pick (Go.Operand.tmp 33) (Go.Operand.tmp 49) (Go.Operand.const (Go.Value.bool false)), type := 4, pos := "ref.go:41", after := #[{ on := 5, ground := Go.Ground.data }, { on := 21, ground := Go.Ground.data }], guard := none }) (v := .bool false) rfl (by kernel_rfl) (by kernel_rfl) (by kernel_rfl) (fun _ _ _ h => h) (Or.inl ⟨by rfl, ?_⟩) hS ?_
        · intro W hW; first | (go_simp; done) | (go_simp; with_reducible rfl) | (go_simp; exact hkw) | (go_simp; omega)
        simp only [Act.put, List.setIfInBounds_toArray, List.set_cons_zero, List.set_cons_succ]
        refine wpAnyH_done (by kernel_rfl) ?_ _
        clear hS
        have HO4 := hide ((unhide HO3).after (below_drew (Below.refl _ _)))
        have HB4 := hide (below_grow (unhide HB3) (Nat.le_refl _) (below_drew (Below.refl _ _)))
        clear HO3 HB3
        go_wp2_with fail
        go_roundw
        case rel => exact ⟨k + 1, by omega, by go_num, by rw [unhide HX]; exact unhide HO4, unhide HB4⟩
        case measure => simp [intOf]; omega
    · obtain rfl : k = L0.length := by omega
      rw [List.take_length, ← unhide HDT] at HO
      clear hot hb
      obtain ⟨a4, c4, rfl, hc4, hs4, hf4⟩ := (unhide HO).sl
      have HS4 := hide hs4
      have HF4 := hide hf4
      clear hs4 hf4
      go_wp2_with fail
      go_ret
      exact ⟨_, _, rfl, hc4, unhide HS4, fun g o e => Nat.le_trans (unhide HB2).size (unhide HF4 g o e), below_grow (unhide HB2) (Nat.le_refl _) (unhide HB)⟩
end Go.Proofs.Ytpfighkafmammaa

/-
  What the document's SameTexts answers. Conditions: those that each theorem names.
-/

namespace Go.Proofs.Ytpfighkafmammaa
open Go.RowKit

set_option maxRecDepth 100000 in
set_option maxHeartbeats 1000000 in
theorem sameTexts_any (a b : Option Addr) (ca cb : Nat) (us vs : List ByteArray) (hl : us.length ≤ 100000) (hl2 : vs.length ≤ 100000) (w : World) (ha : Pth.Sl w a us) (hb : Pth.Sl w b vs) (D : Bool) (hD : D = true ↔ us = vs) :
    Calls Try.prog 19 #[.slice a us.length ca, .slice b vs.length cb] w fun e w' => e = .returned (.bool D) ∧ Below w.heap.size w w' := by
  have HA := hide ha
  have HB := hide hb
  have HD := hide hD
  clear ha hb hD
  by_cases hlen : us.length = vs.length
  · have hbe : ((us.length : Int) != (vs.length : Int)) = false := by simp [hlen]
    have HLEN := hide hlen
    clear hlen
    go_enter Try.func19, Try.ntmps19
    go_wp2_with fail
    go_loopw [5] (fun i wr => ∃ k : Nat, k ≤ us.length ∧ i = .int .i64 k ∧ us.take k = vs.take k ∧ Below w.heap.size w wr) (fun i _ => us.length - (intOf i).toNat)
    case atStart => exact ⟨0, Nat.zero_le _, rfl, rfl, Below.refl _ _⟩
    case round =>
      obtain ⟨k, hk, rfl, heq, hb⟩ := hrel
      have HEQ := hide heq
      have HBr := hide hb
      have S := (unhide HA).after hb
      have T := (unhide HB).after hb
      clear heq hb
      by_cases hlt : k < us.length
      · have hlt2 : k < vs.length := by have := unhide HLEN; omega
        obtain ⟨x, hx⟩ : ∃ d, us[k]? = some d := ⟨_, List.getElem?_eq_getElem hlt⟩
        obtain ⟨y, hy⟩ : ∃ d, vs[k]? = some d := ⟨_, List.getElem?_eq_getElem hlt2⟩
        obtain ⟨g, o, rfl, hg, hcell⟩ := S (by omega)
        obtain ⟨g', o', rfl, hg', hcell'⟩ := T (by omega)
        have z0 := hcell k x hx
        have z1 := hcell' k y hy
        have hst := same_text x y
        clear hcell hcell' hg hg'
        by_cases hxy : x = y
        · rw [decide_eq_true hxy] at hst
          have HX : Hid (us.take (k + 1) = vs.take (k + 1)) := hide (by rw [List.take_add_one, List.take_add_one, hx, hy, unhide HEQ, hxy])
          clear hx hy hxy
          go_wp2_with fail
          refine wp_region_held_drew (S := fun W => W.cell? ⟨g, o + k, none⟩ = some (.string x) ∧ W.cell? ⟨g', o' + k, none⟩ = some (.string y)) (by kernel_rfl) ⟨z0, z1⟩ (fun hS => ?_)
          refine wpAnyH_take (i := 0) (oi := { dst := some 17, op := Go.Op.move (Go.Operand.tmp 0), type := 46, pos := "ref.go:132", after := #[], guard := none }) (v := .slice (some ⟨g, o, none⟩) us.length ca) rfl (by kernel_rfl) (by kernel_rfl) (by kernel_rfl) (fun _ _ _ h => h) (Or.inl ⟨by rfl, ?_⟩) hS ?_
          · intro W hW; obtain ⟨hW1, hW2⟩ := hW; first | (go_simp; done) | (go_simp; with_reducible rfl)
          simp only [Act.put, List.setIfInBounds_toArray, List.set_cons_zero, List.set_cons_succ]
          refine wpAnyH_take (i := 1) (oi := { dst := some 18, op := Go.Op.move (Go.Operand.tmp 5), type := 3, pos := "ref.go:132", after := #[], guard := none }) (v := .int .i64 k) rfl (by kernel_rfl) (by kernel_rfl) (by kernel_rfl) (fun _ _ _ h => h) (Or.inl ⟨by rfl, ?_⟩) hS ?_
          · intro W hW; obtain ⟨hW1, hW2⟩ := hW; first | (go_simp; done) | (go_simp; with_reducible rfl)
          simp only [Act.put, List.setIfInBounds_toArray, List.set_cons_zero, List.set_cons_succ]
          refine wpAnyH_take (i := 2) (oi := { dst := some 19, op := Go.Op.indexAddr 46 (Go.Operand.tmp 17) (Go.Operand.tmp 18), type := 0, pos := "ref.go:132", after := #[{ on := 0, ground := Go.Ground.data }, { on := 1, ground := Go.Ground.data }], guard := none }) (v := .pointer (some ⟨g, o + k, none⟩)) rfl (by kernel_rfl) (by kernel_rfl) (by kernel_rfl) (fun _ _ _ h => h) (Or.inl ⟨by rfl, ?_⟩) hS ?_
          · intro W hW; obtain ⟨hW1, hW2⟩ := hW; first | (go_simp; done) | (go_simp; with_reducible rfl)
          simp only [Act.put, List.setIfInBounds_toArray, List.set_cons_zero, List.set_cons_succ]
          refine wpAnyH_take (i := 3) (oi := { dst := some 20, op := Go.Op.load 9 (Go.Operand.tmp 19), type := 9, pos := "ref.go:132", after := #[{ on := 2, ground := Go.Ground.data }], guard := none }) (v := .string x) rfl (by kernel_rfl) (by kernel_rfl) (by kernel_rfl) (fun _ _ _ h => h) (Or.inl ⟨by rfl, ?_⟩) hS ?_
          · intro W hW; obtain ⟨hW1, hW2⟩ := hW; first | (go_simp; done) | (go_simp; with_reducible rfl)
          simp only [Act.put, List.setIfInBounds_toArray, List.set_cons_zero, List.set_cons_succ]
          refine wpAnyH_take (i := 4) (oi := { dst := some 21, op := Go.Op.move (Go.Operand.tmp 1), type := 46, pos := "ref.go:132", after := #[], guard := none }) (v := .slice (some ⟨g', o', none⟩) vs.length cb) rfl (by kernel_rfl) (by kernel_rfl) (by kernel_rfl) (fun _ _ _ h => h) (Or.inl ⟨by rfl, ?_⟩) hS ?_
          · intro W hW; obtain ⟨hW1, hW2⟩ := hW; first | (go_simp; done) | (go_simp; with_reducible rfl)
          simp only [Act.put, List.setIfInBounds_toArray, List.set_cons_zero, List.set_cons_succ]
          refine wpAnyH_take (i := 5) (oi := { dst := some 22, op := Go.Op.move (Go.Operand.tmp 5), type := 3, pos := "ref.go:132", after := #[], guard := none }) (v := .int .i64 k) rfl (by kernel_rfl) (by kernel_rfl) (by kernel_rfl) (fun _ _ _ h => h) (Or.inl ⟨by rfl, ?_⟩) hS ?_
          · intro W hW; obtain ⟨hW1, hW2⟩ := hW; first | (go_simp; done) | (go_simp; with_reducible rfl)
          simp only [Act.put, List.setIfInBounds_toArray, List.set_cons_zero, List.set_cons_succ]
          refine wpAnyH_take (i := 6) (oi := { dst := some 23, op := Go.Op.indexAddr 46 (Go.Operand.tmp 21) (Go.Operand.tmp 22), type := 0, pos := "ref.go:132", after := #[{ on := 4, ground := Go.Ground.data }, { on := 5, ground := Go.Ground.data }], guard := none }) (v := .pointer (some ⟨g', o' + k, none⟩)) rfl (by kernel_rfl) (by kernel_rfl) (by kernel_rfl) (fun _ _ _ h => h) (Or.inl ⟨by rfl, ?_⟩) hS ?_
          · intro W hW; obtain ⟨hW1, hW2⟩ := hW; first | (go_simp; done) | (go_simp; with_reducible rfl)
          simp only [Act.put, List.setIfInBounds_toArray, List.set_cons_zero, List.set_cons_succ]
          refine wpAnyH_take (i := 7) (oi := { dst := some 24, op := Go.Op.load 9 (Go.Operand.tmp 23), type := 9, pos := "ref.go:132", after := #[{ on := 6, ground := Go.Ground.data }], guard := none }) (v := .string y) rfl (by kernel_rfl) (by kernel_rfl) (by kernel_rfl) (fun _ _ _ h => h) (Or.inl ⟨by rfl, ?_⟩) hS ?_
          · intro W hW; obtain ⟨hW1, hW2⟩ := hW; first | (go_simp; done) | (go_simp; with_reducible rfl)
          simp only [Act.put, List.setIfInBounds_toArray, List.set_cons_zero, List.set_cons_succ]
          refine wpAnyH_take (i := 8) (oi := { dst := some 25, op := Go.Op.binOp Go.BinOp.neq 9 (Go.Operand.tmp 20) (Go.Operand.tmp 24) 9, type := 4, pos := "ref.go:132", after := #[{ on := 3, ground := Go.Ground.data }, { on := 7, ground := Go.Ground.data }], guard := none }) (v := .bool false) rfl (by kernel_rfl) (by kernel_rfl) (by kernel_rfl) (fun _ _ _ h => h) (Or.inl ⟨by rfl, ?_⟩) hS ?_
          · intro W hW; obtain ⟨hW1, hW2⟩ := hW; first | (go_simp; done) | (go_simp; with_reducible rfl)
          simp only [Act.put, List.setIfInBounds_toArray, List.set_cons_zero, List.set_cons_succ]
          refine wpAnyH_done (by kernel_rfl) ?_ _
          clear hS z0 z1
          have HB4 := hide (below_grow (unhide HBr) (Nat.le_refl _) (below_drew (Below.refl _ _)))
          go_wp2_with fail
          go_roundw
          case rel => exact ⟨k + 1, by omega, by go_num, unhide HX, unhide HB4⟩
          case measure => simp [intOf]; omega
        · rw [decide_eq_false hxy] at hst
          obtain rfl : D = false := by
            cases D with
            | false => rfl
            | true => exact absurd (by have h := (unhide HD).1 rfl; rw [h, hy] at hx; injection hx with hx; exact hx.symm) hxy
          clear hx hy hxy
          go_wp2_with fail
          refine wp_region_held_drew (S := fun W => W.cell? ⟨g, o + k, none⟩ = some (.string x) ∧ W.cell? ⟨g', o' + k, none⟩ = some (.string y)) (by kernel_rfl) ⟨z0, z1⟩ (fun hS => ?_)
          refine wpAnyH_take (i := 0) (oi := { dst := some 17, op := Go.Op.move (Go.Operand.tmp 0), type := 46, pos := "ref.go:132", after := #[], guard := none }) (v := .slice (some ⟨g, o, none⟩) us.length ca) rfl (by kernel_rfl) (by kernel_rfl) (by kernel_rfl) (fun _ _ _ h => h) (Or.inl ⟨by rfl, ?_⟩) hS ?_
          · intro W hW; obtain ⟨hW1, hW2⟩ := hW; first | (go_simp; done) | (go_simp; with_reducible rfl)
          simp only [Act.put, List.setIfInBounds_toArray, List.set_cons_zero, List.set_cons_succ]
          refine wpAnyH_take (i := 1) (oi := { dst := some 18, op := Go.Op.move (Go.Operand.tmp 5), type := 3, pos := "ref.go:132", after := #[], guard := none }) (v := .int .i64 k) rfl (by kernel_rfl) (by kernel_rfl) (by kernel_rfl) (fun _ _ _ h => h) (Or.inl ⟨by rfl, ?_⟩) hS ?_
          · intro W hW; obtain ⟨hW1, hW2⟩ := hW; first | (go_simp; done) | (go_simp; with_reducible rfl)
          simp only [Act.put, List.setIfInBounds_toArray, List.set_cons_zero, List.set_cons_succ]
          refine wpAnyH_take (i := 2) (oi := { dst := some 19, op := Go.Op.indexAddr 46 (Go.Operand.tmp 17) (Go.Operand.tmp 18), type := 0, pos := "ref.go:132", after := #[{ on := 0, ground := Go.Ground.data }, { on := 1, ground := Go.Ground.data }], guard := none }) (v := .pointer (some ⟨g, o + k, none⟩)) rfl (by kernel_rfl) (by kernel_rfl) (by kernel_rfl) (fun _ _ _ h => h) (Or.inl ⟨by rfl, ?_⟩) hS ?_
          · intro W hW; obtain ⟨hW1, hW2⟩ := hW; first | (go_simp; done) | (go_simp; with_reducible rfl)
          simp only [Act.put, List.setIfInBounds_toArray, List.set_cons_zero, List.set_cons_succ]
          refine wpAnyH_take (i := 3) (oi := { dst := some 20, op := Go.Op.load 9 (Go.Operand.tmp 19), type := 9, pos := "ref.go:132", after := #[{ on := 2, ground := Go.Ground.data }], guard := none }) (v := .string x) rfl (by kernel_rfl) (by kernel_rfl) (by kernel_rfl) (fun _ _ _ h => h) (Or.inl ⟨by rfl, ?_⟩) hS ?_
          · intro W hW; obtain ⟨hW1, hW2⟩ := hW; first | (go_simp; done) | (go_simp; with_reducible rfl)
          simp only [Act.put, List.setIfInBounds_toArray, List.set_cons_zero, List.set_cons_succ]
          refine wpAnyH_take (i := 4) (oi := { dst := some 21, op := Go.Op.move (Go.Operand.tmp 1), type := 46, pos := "ref.go:132", after := #[], guard := none }) (v := .slice (some ⟨g', o', none⟩) vs.length cb) rfl (by kernel_rfl) (by kernel_rfl) (by kernel_rfl) (fun _ _ _ h => h) (Or.inl ⟨by rfl, ?_⟩) hS ?_
          · intro W hW; obtain ⟨hW1, hW2⟩ := hW; first | (go_simp; done) | (go_simp; with_reducible rfl)
          simp only [Act.put, List.setIfInBounds_toArray, List.set_cons_zero, List.set_cons_succ]
          refine wpAnyH_take (i := 5) (oi := { dst := some 22, op := Go.Op.move (Go.Operand.tmp 5), type := 3, pos := "ref.go:132", after := #[], guard := none }) (v := .int .i64 k) rfl (by kernel_rfl) (by kernel_rfl) (by kernel_rfl) (fun _ _ _ h => h) (Or.inl ⟨by rfl, ?_⟩) hS ?_
          · intro W hW; obtain ⟨hW1, hW2⟩ := hW; first | (go_simp; done) | (go_simp; with_reducible rfl)
          simp only [Act.put, List.setIfInBounds_toArray, List.set_cons_zero, List.set_cons_succ]
          refine wpAnyH_take (i := 6) (oi := { dst := some 23, op := Go.Op.indexAddr 46 (Go.Operand.tmp 21) (Go.Operand.tmp 22), type := 0, pos := "ref.go:132", after := #[{ on := 4, ground := Go.Ground.data }, { on := 5, ground := Go.Ground.data }], guard := none }) (v := .pointer (some ⟨g', o' + k, none⟩)) rfl (by kernel_rfl) (by kernel_rfl) (by kernel_rfl) (fun _ _ _ h => h) (Or.inl ⟨by rfl, ?_⟩) hS ?_
          · intro W hW; obtain ⟨hW1, hW2⟩ := hW; first | (go_simp; done) | (go_simp; with_reducible rfl)
          simp only [Act.put, List.setIfInBounds_toArray, List.set_cons_zero, List.set_cons_succ]
          refine wpAnyH_take (i := 7) (oi := { dst := some 24, op := Go.Op.load 9 (Go.Operand.tmp 23), type := 9, pos := "ref.go:132", after := #[{ on := 6, ground := Go.Ground.data }], guard := none }) (v := .string y) rfl (by kernel_rfl) (by kernel_rfl) (by kernel_rfl) (fun _ _ _ h => h) (Or.inl ⟨by rfl, ?_⟩) hS ?_
          · intro W hW; obtain ⟨hW1, hW2⟩ := hW; first | (go_simp; done) | (go_simp; with_reducible rfl)
          simp only [Act.put, List.setIfInBounds_toArray, List.set_cons_zero, List.set_cons_succ]
          refine wpAnyH_take (i := 8) (oi := { dst := some 25, op := Go.Op.binOp Go.BinOp.neq 9 (Go.Operand.tmp 20) (Go.Operand.tmp 24) 9, type := 4, pos := "ref.go:132", after := #[{ on := 3, ground := Go.Ground.data }, { on := 7, ground := Go.Ground.data }], guard := none }) (v := .bool true) rfl (by kernel_rfl) (by kernel_rfl) (by kernel_rfl) (fun _ _ _ h => h) (Or.inl ⟨by rfl, ?_⟩) hS ?_
          · intro W hW; obtain ⟨hW1, hW2⟩ := hW; first | (go_simp; done) | (go_simp; with_reducible rfl)
          simp only [Act.put, List.setIfInBounds_toArray, List.set_cons_zero, List.set_cons_succ]
          refine wpAnyH_done (by kernel_rfl) ?_ _
          clear hS z0 z1
          have HB4 := hide (below_grow (unhide HBr) (Nat.le_refl _) (below_drew (Below.refl _ _)))
          go_wp2_with fail
          go_ret
          exact ⟨rfl, unhide HB4⟩
      · obtain rfl : k = us.length := by omega
        obtain rfl : D = true := (unhide HD).2 (by have h := unhide HEQ; rw [List.take_length, unhide HLEN, List.take_length] at h; exact h)
        go_wp2_with fail
        go_ret
        exact ⟨rfl, unhide HBr⟩
  · have hbe : ((us.length : Int) != (vs.length : Int)) = true := by simp; omega
    obtain rfl : D = false := by
      cases D with
      | false => rfl
      | true => exact absurd (by rw [(unhide HD).1 rfl]) hlen
    go_enter Try.func19, Try.ntmps19
    go_wp2_with fail
    go_ret
    exact ⟨rfl, Below.refl _ _⟩
end Go.Proofs.Ytpfighkafmammaa

/-
  Whether leaves are too much to be asked.
-/

namespace Go.Proofs.Ytpfighkafmammaa
open Go.RowKit

/-- No past that is greater than any machine's memory. -/
def Light (vs : List Vc.V) : Prop := ∀ v ∈ vs, v.past.length ≤ 8796093022208
/-- A list that is not too much. -/
def Slight (vs : List Vc.V) : Prop := vs.length ≤ 70 ∧ (Light vs → ∀ v ∈ vs, v.past.length ≤ 400)
/-- Whether leaves are too much, and what is known if they are not. -/
def GreatMade (n : Nat) (ls : Nat → List Vc.V) (w : World) (e : Ending) (w' : World) : Prop := ∃ B : Bool, e = .returned (.bool B) ∧ w' = w ∧ (B = false → ∀ j, j < n → Slight (ls j))

set_option maxRecDepth 100000 in
set_option maxHeartbeats 1000000 in
theorem great_any (G n : Nat) (hn : n ≤ 100) (A : Nat → Option Addr) (C : Nat → Nat) (ls : Nat → List Vc.V) (w : World) (hc : ∀ j, j < n → w.cell? ⟨G, j, none⟩ = some (.slice (A j) (ls j).length (C j))) (hs : ∀ j, j < n → SV w (A j) (ls j)) :
    Calls Try.prog 25 #[.slice (some ⟨G, 0, none⟩) n n] w (GreatMade n ls w) := by
  have HC := hide hc
  have HS := hide hs
  clear hc hs
  go_enter Try.func25, Try.ntmps25
  go_wp2_with fail
  go_loopw [3] (fun i wr => ∃ k : Nat, k ≤ n ∧ i = .int .i64 k ∧ (∀ j, j < k → Slight (ls j)) ∧ wr = w) (fun i _ => n - (intOf i).toNat)
  case atStart => exact ⟨0, Nat.zero_le _, rfl, fun j hj => absurd hj (Nat.not_lt_zero _), rfl⟩
  case round =>
    obtain ⟨k, hk, rfl, hall, rfl⟩ := hrel
    have HALL := hide hall
    clear hall
    by_cases hlt : k < n
    · have c0 := unhide HC k hlt
      have s0 := hide (unhide HS k hlt)
      generalize hA : A k = a at c0 s0
      generalize hL : ls k = l at c0 s0
      generalize hCk : C k = c at c0
      by_cases h70 : 70 < l.length
      · have hd : decide ((70 : Int) < (l.length : Int)) = true := decide_eq_true (by omega)
        clear hA hL hCk
        go_wp2_with fail
        go_ret
        exact ⟨true, rfl, rfl, fun h => by cases h⟩
      · have hd : decide ((70 : Int) < (l.length : Int)) = false := decide_eq_false (by omega)
        have HL : Hid (ls k = l) := hide hL
        have hl70 : l.length ≤ 70 := by omega
        clear hA hL hCk h70
        go_wp2_with fail
        go_loopw [4, 5] (fun x i wv => ∃ (t : Int) (m : Nat), m ≤ l.length ∧ x = .int .i64 t ∧ i = .int .i64 m ∧ wv = wr ∧ Hid (Light l → 0 ≤ t ∧ t ≤ 400 ∧ ∀ v ∈ l.take m, v.past.length ≤ 400)) (fun _ i _ => l.length - (intOf i).toNat)
        case atStart => exact ⟨0, 0, Nat.zero_le _, rfl, rfl, rfl, hide (fun _ => ⟨by omega, by omega, fun v hv => by simp at hv⟩)⟩
        case round =>
          obtain ⟨t, m, hm, rfl, rfl, hwv, HT⟩ := hrel
          subst hwv
          by_cases hml : m < l.length
          · obtain ⟨v, hx⟩ : ∃ d, l[m]? = some d := ⟨_, List.getElem?_eq_getElem hml⟩
            obtain ⟨g, o, rfl, hg, hcell⟩ := unhide s0 (by omega)
            obtain ⟨q, d, x0, x1, x2, x3, x4, h5, h6⟩ := hcell m v hx
            obtain ⟨T, hT⟩ : ∃ T, IntKind.i64.wrap (t + (v.past.length : Int)) = T := ⟨_, rfl⟩
            have HT2 : Hid (¬ 400 < T → Light l → 0 ≤ T ∧ T ≤ 400 ∧ ∀ v ∈ l.take (m + 1), v.past.length ≤ 400) := hide (fun h4 hl => by
              obtain ⟨t1, t2, t3⟩ := unhide HT hl
              have hv := hl v (List.mem_of_getElem? hx)
              rw [wrap_small (by omega) (by omega)] at hT
              refine ⟨by omega, by omega, fun u hu => ?_⟩
              rw [take_snocA hx] at hu
              rcases List.mem_append.1 hu with hu | hu
              · exact t3 u hu
              · rw [List.mem_singleton.1 hu]; omega)
            clear hcell hx h5 h6 hg x0 x1 x3
            by_cases h400 : 400 < T
            · have hd4 : decide (400 < T) = true := decide_eq_true h400
              go_wp2_with fail
              go_ret
              exact ⟨true, rfl, rfl, fun h => by cases h⟩
            · have hd4 : decide (400 < T) = false := decide_eq_false h400
              obtain ⟨z, hz⟩ : ∃ z, v.data.size = z := ⟨_, rfl⟩
              by_cases h200 : 200 < z
              · have hd2 : decide ((200 : Int) < (z : Int)) = true := decide_eq_true (by omega)
                go_wp2_with fail
                go_ret
                exact ⟨true, rfl, rfl, fun h => by cases h⟩
              · have hd2 : decide ((200 : Int) < (z : Int)) = false := decide_eq_false (by omega)
                go_wp2_with fail
                go_roundw
                case rel => exact ⟨T, m + 1, by omega, rfl, by go_num, by first | rfl | trivial, hide (unhide HT2 (by omega))⟩
                case measure => simp [intOf]; omega
          · have HALL2 : Hid (∀ j, j < k + 1 → Slight (ls j)) := hide (fun j hj => by
              by_cases e : j = k
              · subst e
                rw [unhide HL]
                refine ⟨hl70, fun hl => ?_⟩
                have h9 := (unhide HT hl).2.2
                rw [show m = l.length by omega, List.take_length] at h9
                exact h9
              · exact unhide HALL j (by omega))
            go_wp2_with fail
            go_roundw
            case rel => exact ⟨k + 1, by omega, by go_num, unhide HALL2, by first | rfl | trivial⟩
            case measure => simp [intOf]; omega
    · obtain rfl : k = n := by omega
      go_wp2_with fail
      go_ret
      exact ⟨false, rfl, rfl, fun _ => unhide HALL⟩
end Go.Proofs.Ytpfighkafmammaa

/-
  The walk of the statement on what two leaves come to together.
-/

namespace Go.Proofs.Ytpfighkafmammaa
open Go.RowKit

/-- No past is too long to be. -/
def Short (vs : List Vc.V) : Prop := ∀ v ∈ vs, v.past.length ≤ 9223372036854775807
theorem Short.few {vs : List Vc.V} (h : Short vs) (hl : vs.length ≤ 70) : Few vs := ⟨by omega, h⟩
theorem bool_of (p : Prop) : ∃ D : Bool, D = true ↔ p := ⟨@decide p (Classical.propDecidable _), @decide_eq_true_iff p (Classical.propDecidable _)⟩
end Go.Proofs.Ytpfighkafmammaa

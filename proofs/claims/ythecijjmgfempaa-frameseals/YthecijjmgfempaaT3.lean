/-
  What the putter does with each field.
-/
import Derived.Test.YthecijjmgfempaaT2
namespace Go.Proofs.Ythecijjmgfempaa
open Go.RowKit

theorem cell_beside {own : Nat → Prop} {W W' : World} {q : Addr} {v : Value} (hb : Beside own W W') (hk : ¬ own q.block) (h : W.cell? q = some v) : W'.cell? q = some v := by
  have e := hb.block q.block (block_lt_of_cell h) hk
  unfold World.cell? at h ⊢
  rw [e]
  exact h
theorem range_beside {own : Nat → Prop} {W W' : World} {g o : Nat} {cs : List Value} (hb : Beside own W W') (hk : ¬ own g) (h : W.rangeAt g o cs) : W'.rangeAt g o cs := fun j v hv => cell_beside (q := ⟨g, o + j, none⟩) hb hk (h j v hv)
theorem Turned.beside {own : Nat → Prop} {p : Addr} {w w' : World} {st : St} {v : Value} {e : Ending} (h : Turned Wr own p w st v e w') : Beside own w w' := by
  obtain ⟨_, _, _, _, hb⟩ := h
  exact hb
theorem new_one (W : World) (x : Value) (T : Nat) : (W.alloc (.cells #[x] T)).cell? ⟨W.heap.size, 0, none⟩ = some x := (VRow.new W T [x]).cell 0 x rfl
theorem range_alloc {W : World} {g o : Nat} {cs : List Value} (h : W.rangeAt g o cs) (ob : Obj) : (W.alloc ob).rangeAt g o cs := World.rangeAt_alloc h ob
/-- The putter as a value. -/
abbrev ptV (p : Addr) : Value := .agg #[.pointer (some p)]

def wVecs (st : St) (l : List (List Vc.D)) : St := l.foldl wVec st
theorem wVecs_snoc (st : St) (l : List (List Vc.D)) (k : Nat) (d : List Vc.D) (h : l[k]? = some d) : wVecs st (l.take (k + 1)) = wVec (wVecs st (l.take k)) d := by
  unfold wVecs
  rw [take_snocR h, List.foldl_append]
  rfl
theorem wVecs_len : ∀ (l : List (List Vc.D)) (st : St), (wVecs st l).1.length ≤ st.1.length + 645 * l.length
  | [], st => by simp [wVecs]
  | d :: l, st => by
    have h1 := wVecs_len l (wVec st d)
    have h2 := wVec_len st d
    have e : wVecs st (d :: l) = wVecs (wVec st d) l := rfl
    rw [e, List.length_cons]
    omega
def wRows (st : St) (l : List (List Vc.D)) : St := wVecs (wNumber st l.length) l
theorem wRows_len (st : St) (l : List (List Vc.D)) : (wRows st l).1.length ≤ st.1.length + 5 + 645 * l.length := by
  have h1 := wVecs_len l (wNumber st l.length)
  have h2 := wNumber_len st l.length
  unfold wRows
  omega

section
variable {w : World} {p : Addr} {st : St} {own : Nat → Prop} {B k : Nat}
set_option maxRecDepth 100000 in
set_option maxHeartbeats 1000000 in
theorem pnumber_any (h : Wr w p st own) (hl : st.1.length ≤ 48000000) (hB : ¬ own B) {x : Int} (hc : w.cell? ⟨B, k, none⟩ = some (.int .i64 x)) (most : Int) :
    Calls Try.prog 75 #[ptV p, .pointer (some ⟨B, k, none⟩), .int .i64 most] w (Turned Wr own p w (wNumber st x) (.tuple #[])) := by
  have HB := hide (below_alloc' (w := w) (.cells #[.pointer (some p)] 43))
  have HW0 := hide (below_drew (unhide HB))
  have HW := hide (WS.start (wr_after h (unhide HW0)))
  have HN : Hid (¬ own w.heap.size) := hide fun ho => absurd (wr_lt h _ ho) (by omega)
  have HNB := hide hB
  have X0 := hide (new_one w (.pointer (some p)) 43)
  have X1 := hide ((unhide HB).cell (p := ⟨B, k, none⟩) (block_lt_of_cell hc) |>.trans hc)
  have HK : Hid (∀ W W' : World, W.cell? ⟨w.heap.size, 0, none⟩ = some (.pointer (some p)) ∧ W.cell? ⟨B, k, none⟩ = some (.int .i64 x) → Beside own W W' → W'.cell? ⟨w.heap.size, 0, none⟩ = some (.pointer (some p)) ∧ W'.cell? ⟨B, k, none⟩ = some (.int .i64 x)) :=
    hide fun _ _ h hb => ⟨cell_beside hb (unhide HN) h.1, cell_beside hb (unhide HNB) h.2⟩
  have HL := hide hl
  have KN := hide fun (own1 : Nat → Prop) W (hx : Wr W p st own1) (_ : ∀ g, own1 g → own g ∨ (w.alloc (.cells #[.pointer (some p)] 43)).drew.heap.size ≤ g) => wnumber_any hx (by have := unhide HL; omega) x
  clear h hl hB hc
  go_enter Try.func75, Try.ntmps75
  go_wp2_with fail
  go_region_held3 (fun w' => w'.cell? ⟨w.heap.size, 0, none⟩ = some (.pointer (some p)) ∧ w'.cell? ⟨B, k, none⟩ = some (.int .i64 x)) (first | exact ⟨unhide X0, unhide X1⟩ | exact unhide HK (w.alloc (.cells #[.pointer (some p)] 43)).drew _ ⟨unhide X0, unhide X1⟩ (by assumption) | assumption)
    (first | (go_at_call 81; refine ((unhide HW).call fun own1 hx ho => unhide KN own1 _ hx ho).mono ?_; rintro e w1 ⟨rfl, hs⟩; have hbs := hs.beside))
  rename_i hHeld
  have HS1 := hide hs
  clear hHeld hs hbs
  go_wp2_with fail
  go_end0
  exact (unhide HS1).of (unhide HW0)
set_option maxRecDepth 100000 in
set_option maxHeartbeats 1000000 in
theorem ptext_any (h : Wr w p st own) (hl : st.1.length ≤ 48000000) (hB : ¬ own B) {x : ByteArray} (hc : w.cell? ⟨B, k, none⟩ = some (.string x)) (most : Int) :
    Calls Try.prog 77 #[ptV p, .pointer (some ⟨B, k, none⟩), .int .i64 most] w (Turned Wr own p w (wText st x) (.tuple #[])) := by
  have HB := hide (below_alloc' (w := w) (.cells #[.pointer (some p)] 43))
  have HW0 := hide (below_drew (unhide HB))
  have HW := hide (WS.start (wr_after h (unhide HW0)))
  have HN : Hid (¬ own w.heap.size) := hide fun ho => absurd (wr_lt h _ ho) (by omega)
  have HNB := hide hB
  have X0 := hide (new_one w (.pointer (some p)) 43)
  have X1 := hide ((unhide HB).cell (p := ⟨B, k, none⟩) (block_lt_of_cell hc) |>.trans hc)
  have HK : Hid (∀ W W' : World, W.cell? ⟨w.heap.size, 0, none⟩ = some (.pointer (some p)) ∧ W.cell? ⟨B, k, none⟩ = some (.string x) → Beside own W W' → W'.cell? ⟨w.heap.size, 0, none⟩ = some (.pointer (some p)) ∧ W'.cell? ⟨B, k, none⟩ = some (.string x)) :=
    hide fun _ _ h hb => ⟨cell_beside hb (unhide HN) h.1, cell_beside hb (unhide HNB) h.2⟩
  have HL := hide hl
  have KN := hide fun (own1 : Nat → Prop) W (hx : Wr W p st own1) (_ : ∀ g, own1 g → own g ∨ (w.alloc (.cells #[.pointer (some p)] 43)).drew.heap.size ≤ g) => wtext_any hx (by have := unhide HL; omega) x
  clear h hl hB hc
  go_enter Try.func77, Try.ntmps77
  go_wp2_with fail
  go_region_held3 (fun w' => w'.cell? ⟨w.heap.size, 0, none⟩ = some (.pointer (some p)) ∧ w'.cell? ⟨B, k, none⟩ = some (.string x)) (first | exact ⟨unhide X0, unhide X1⟩ | exact unhide HK (w.alloc (.cells #[.pointer (some p)] 43)).drew _ ⟨unhide X0, unhide X1⟩ (by assumption) | assumption)
    (first | (go_at_call 83; refine ((unhide HW).call fun own1 hx ho => unhide KN own1 _ hx ho).mono ?_; rintro e w1 ⟨rfl, hs⟩; have hbs := hs.beside))
  rename_i hHeld
  have HS1 := hide hs
  clear hHeld hs hbs
  go_wp2_with fail
  go_end0
  exact (unhide HS1).of (unhide HW0)
set_option maxRecDepth 100000 in
set_option maxHeartbeats 1000000 in
theorem pflag_any (h : Wr w p st own) (hl : st.1.length ≤ 48000000) (hB : ¬ own B) {x : Bool} (hc : w.cell? ⟨B, k, none⟩ = some (.bool x)) :
    Calls Try.prog 74 #[ptV p, .pointer (some ⟨B, k, none⟩)] w (Turned Wr own p w (wFlag st x) (.tuple #[])) := by
  have HB := hide (below_alloc' (w := w) (.cells #[.pointer (some p)] 43))
  have HW0 := hide (below_drew (unhide HB))
  have HW := hide (WS.start (wr_after h (unhide HW0)))
  have HN : Hid (¬ own w.heap.size) := hide fun ho => absurd (wr_lt h _ ho) (by omega)
  have HNB := hide hB
  have X0 := hide (new_one w (.pointer (some p)) 43)
  have X1 := hide ((unhide HB).cell (p := ⟨B, k, none⟩) (block_lt_of_cell hc) |>.trans hc)
  have HK : Hid (∀ W W' : World, W.cell? ⟨w.heap.size, 0, none⟩ = some (.pointer (some p)) ∧ W.cell? ⟨B, k, none⟩ = some (.bool x) → Beside own W W' → W'.cell? ⟨w.heap.size, 0, none⟩ = some (.pointer (some p)) ∧ W'.cell? ⟨B, k, none⟩ = some (.bool x)) :=
    hide fun _ _ h hb => ⟨cell_beside hb (unhide HN) h.1, cell_beside hb (unhide HNB) h.2⟩
  have HL := hide hl
  have KN := hide fun (own1 : Nat → Prop) W (hx : Wr W p st own1) (_ : ∀ g, own1 g → own g ∨ (w.alloc (.cells #[.pointer (some p)] 43)).drew.heap.size ≤ g) => wflag_any hx (by have := unhide HL; omega) x
  clear h hl hB hc
  go_enter Try.func74, Try.ntmps74
  go_wp2_with fail
  go_region_held3 (fun w' => w'.cell? ⟨w.heap.size, 0, none⟩ = some (.pointer (some p)) ∧ w'.cell? ⟨B, k, none⟩ = some (.bool x)) (first | exact ⟨unhide X0, unhide X1⟩ | exact unhide HK (w.alloc (.cells #[.pointer (some p)] 43)).drew _ ⟨unhide X0, unhide X1⟩ (by assumption) | assumption)
    (first | (go_at_call 72; refine ((unhide HW).call fun own1 hx ho => unhide KN own1 _ hx ho).mono ?_; rintro e w1 ⟨rfl, hs⟩; have hbs := hs.beside))
  rename_i hHeld
  have HS1 := hide hs
  clear hHeld hs hbs
  go_wp2_with fail
  go_end0
  exact (unhide HS1).of (unhide HW0)
set_option maxRecDepth 100000 in
set_option maxHeartbeats 1000000 in
theorem pvector_any (h : Wr w p st own) (hl : st.1.length ≤ 48000000) (hB : ¬ own B) (w0 : World) (hb0 : Below w0.heap.size w0 w) (ho0 : ∀ g, own g → w0.heap.size ≤ g) (a : Option Addr) (cap : Nat) {x : List Vc.D} (hd : x.length ≤ 9223372036854775807) (s : Sl w0 a x) (hc : w.cell? ⟨B, k, none⟩ = some (.slice a x.length cap)) :
    Calls Try.prog 78 #[ptV p, .pointer (some ⟨B, k, none⟩)] w (Turned Wr own p w (wVec st x) (.tuple #[])) := by
  have HB := hide (below_alloc' (w := w) (.cells #[.pointer (some p)] 43))
  have HW0 := hide (below_drew (unhide HB))
  have HW := hide (WS.start (wr_after h (unhide HW0)))
  have HN : Hid (¬ own w.heap.size) := hide fun ho => absurd (wr_lt h _ ho) (by omega)
  have HNB := hide hB
  have X0 := hide (new_one w (.pointer (some p)) 43)
  have X1 := hide ((unhide HB).cell (p := ⟨B, k, none⟩) (block_lt_of_cell hc) |>.trans hc)
  have HK : Hid (∀ W W' : World, W.cell? ⟨w.heap.size, 0, none⟩ = some (.pointer (some p)) ∧ W.cell? ⟨B, k, none⟩ = some (.slice a x.length cap) → Beside own W W' → W'.cell? ⟨w.heap.size, 0, none⟩ = some (.pointer (some p)) ∧ W'.cell? ⟨B, k, none⟩ = some (.slice a x.length cap)) :=
    hide fun _ _ h hb => ⟨cell_beside hb (unhide HN) h.1, cell_beside hb (unhide HNB) h.2⟩
  have HL := hide hl
  have HS := hide s
  have HD := hide hd
  have HZB := hide ((hb0.trans ((unhide HW0).mono hb0.size)))
  have HO0 := hide ho0
  have HZ := hide (Nat.le_trans hb0.size (unhide HW0).size)
  have KN := hide fun (own1 : Nat → Prop) (hx : Wr (w.alloc (.cells #[.pointer (some p)] 43)).drew p st own1) (ho : ∀ g, own1 g → own g ∨ (w.alloc (.cells #[.pointer (some p)] 43)).drew.heap.size ≤ g) => putVec_any hx (unhide HL) w0 (unhide HZB) (fun g hg => by rcases ho g hg with h1 | h1; exact unhide HO0 g h1; exact Nat.le_trans (unhide HZ) h1) a cap x (unhide HD) (unhide HS)
  clear h hl hB hc s hd hb0 ho0
  go_enter Try.func78, Try.ntmps78
  go_wp2_with fail
  go_region_held3 (fun w' => w'.cell? ⟨w.heap.size, 0, none⟩ = some (.pointer (some p)) ∧ w'.cell? ⟨B, k, none⟩ = some (.slice a x.length cap)) (first | exact ⟨unhide X0, unhide X1⟩ | exact unhide HK (w.alloc (.cells #[.pointer (some p)] 43)).drew _ ⟨unhide X0, unhide X1⟩ (by assumption) | assumption)
    (first | (go_at_call 82; refine ((unhide HW).call fun own1 hx ho => unhide KN own1 hx ho).mono ?_; rintro e w1 ⟨rfl, hs⟩; have hbs := hs.beside))
  rename_i hHeld
  have HS1 := hide hs
  clear hHeld hs hbs
  go_wp2_with fail
  go_end0
  exact (unhide HS1).of (unhide HW0)
set_option maxRecDepth 100000 in
set_option maxHeartbeats 1000000 in
theorem pdigest_any (h : Wr w p st own) (hl : st.1.length ≤ 48000000) (hB : ¬ own B) {x : List UInt8} (hx0 : x.length = 32) (hc : w.rangeAt B 6 (x.map byteVal)) :
    Calls Try.prog 73 #[ptV p, .pointer (some ⟨B, 6, none⟩)] w (Turned Wr own p w (wDigest st x) (.tuple #[])) := by
  have HB := hide (below_alloc' (w := w) (.cells #[.pointer (some p)] 43))
  have HW0 := hide (below_drew (unhide HB))
  have HW := hide (WS.start (wr_after h (unhide HW0)))
  have HN : Hid (¬ own w.heap.size) := hide fun ho => absurd (wr_lt h _ ho) (by omega)
  have HNB := hide hB
  have X0 := hide (new_one w (.pointer (some p)) 43)
  have X1 := hide (range_alloc hc (.cells #[.pointer (some p)] 43))
  have HK : Hid (∀ W W' : World, W.cell? ⟨w.heap.size, 0, none⟩ = some (.pointer (some p)) ∧ W.rangeAt B 6 (x.map byteVal) → Beside own W W' → W'.cell? ⟨w.heap.size, 0, none⟩ = some (.pointer (some p)) ∧ W'.rangeAt B 6 (x.map byteVal)) :=
    hide fun _ _ h hb => ⟨cell_beside hb (unhide HN) h.1, range_beside hb (unhide HNB) h.2⟩
  have HX := hide hx0
  have hu23 := Try.underlying23
  have hi23 : (Try.prog.info? 23).map (·.size) = some (x.map byteVal).length := by rw [sizeDg, List.length_map, hx0]
  have HL := hide hl
  have KN := hide fun (own1 : Nat → Prop) W (hx : Wr W p st own1) (_ : ∀ g, own1 g → own g ∨ (w.alloc (.cells #[.pointer (some p)] 43)).drew.heap.size ≤ g) => wdigest_any hx (by have := unhide HL; omega) x (unhide HX)
  clear h hl hB hc hx0
  go_enter Try.func73, Try.ntmps73
  go_wp2_with fail
  go_region_held3 (fun w' => w'.cell? ⟨w.heap.size, 0, none⟩ = some (.pointer (some p)) ∧ w'.rangeAt B 6 (x.map byteVal)) (first | exact ⟨unhide X0, unhide X1⟩ | exact unhide HK (w.alloc (.cells #[.pointer (some p)] 43)).drew _ ⟨unhide X0, unhide X1⟩ (by assumption) | assumption)
    (first | (go_at_call 79; refine ((unhide HW).call fun own1 hx ho => unhide KN own1 _ hx ho).mono ?_; rintro e w1 ⟨rfl, hs⟩; have hbs := hs.beside))
  rename_i hHeld
  have HS1 := hide hs
  clear hHeld hs hbs
  go_wp2_with fail
  go_end0
  exact (unhide HS1).of (unhide HW0)
set_option maxRecDepth 100000 in
set_option maxHeartbeats 1000000 in
theorem prows_any (h : Wr w p st own) (hl : st.1.length ≤ 40000000) (w0 : World) (hb0 : Below w0.heap.size w0 w) (ho0 : ∀ g, own g → w0.heap.size ≤ g) (hB : ¬ own B)
    (a : Option Addr) (cap : Nat) (rows : List (List Vc.D)) (hf : FewR rows) (hn : rows.length ≤ 64) (s : RL w0 a rows) (hc : w.cell? ⟨B, k, none⟩ = some (.slice a rows.length cap)) :
    Calls Try.prog 76 #[ptV p, .pointer (some ⟨B, k, none⟩)] w (Turned Wr own p w (wRows st rows) (.tuple #[])) := by
  have HB := hide (below_alloc' (w := w) (.cells #[.pointer (some p)] 43))
  have HW0 := hide (below_drew (unhide HB))
  have HW := hide (WS.start (wr_after h (unhide HW0)))
  have HN : Hid (¬ own w.heap.size) := hide fun ho => absurd (wr_lt h _ ho) (by omega)
  have HNB := hide hB
  have HX := hide hc
  have x0 := new_one w (.pointer (some p)) 43
  have x1 := (unhide HB).cell (p := ⟨B, k, none⟩) (block_lt_of_cell hc) |>.trans hc
  have X0 := hide x0
  have X1 := hide x1
  have HL := hide hl
  have HF := hide hf
  have HS := hide s
  have HB0 := hide hb0
  have HO0 := hide ho0
  have HK : Hid (∀ W W' : World, W.cell? ⟨w.heap.size, 0, none⟩ = some (.pointer (some p)) ∧ W.cell? ⟨B, k, none⟩ = some (.slice a rows.length cap) → Beside own W W' → W'.cell? ⟨w.heap.size, 0, none⟩ = some (.pointer (some p)) ∧ W'.cell? ⟨B, k, none⟩ = some (.slice a rows.length cap)) :=
    hide fun _ _ h hb => ⟨cell_beside hb (unhide HN) h.1, cell_beside hb (unhide HNB) h.2⟩
  obtain ⟨S1, hS1⟩ : ∃ S1, wNumber st rows.length = S1 := ⟨_, rfl⟩
  have HL1 := hide (wNumber_len st rows.length)
  have HE : Hid (wVecs S1 rows = wRows st rows) := hide (by rw [← hS1]; rfl)
  rw [hS1] at HL1
  have KN := hide fun (own1 : Nat → Prop) W (hx : Wr W p st own1) => wnumber_any hx (by have := unhide HL; omega) (rows.length : Int)
  rw [hS1] at KN
  clear h hl hb0 ho0 hB hc s hf hS1 x0 x1
  go_enter Try.func76, Try.ntmps76
  go_wp2_with fail
  go_region_held3 (fun w' => w'.cell? ⟨w.heap.size, 0, none⟩ = some (.pointer (some p)) ∧ w'.cell? ⟨B, k, none⟩ = some (.slice a rows.length cap)) (first | exact ⟨unhide X0, unhide X1⟩ | exact unhide HK (w.alloc (.cells #[.pointer (some p)] 43)).drew _ ⟨unhide X0, unhide X1⟩ (by assumption) | assumption)
    (first | (go_at_call 81; refine ((unhide HW).call fun own1 hx _ => unhide KN own1 _ hx).mono ?_; rintro e w1 ⟨rfl, hs⟩; have hbs := hs.beside))
  rename_i hHeld
  have HC1 := hide hHeld
  have HS1 := hide hs
  have HBB := hide hs.beside
  have y0 := hHeld.1
  have y1 := hHeld.2
  clear hHeld hs hbs
  go_wp2_with fail
  go_loopw [5, 17] (fun _ i wr => ∃ j : Nat, j ≤ rows.length ∧ i = .int .i64 j ∧ WS own p ((w.alloc (.cells #[.pointer (some p)] 43)).drew) (wVecs S1 (rows.take j)) wr) (fun _ i _ => rows.length - (intOf i).toNat)
  case atStart => exact ⟨0, Nat.zero_le _, rfl, unhide HS1⟩
  case round =>
    obtain ⟨j, hj, rfl, hs⟩ := hrel
    have HR := hide hs
    clear hs y0 y1
    have z0 := cell_beside (q := ⟨w.heap.size, 0, none⟩) (unhide HR).beside (unhide HN) (unhide X0)
    by_cases hlt : j < rows.length
    · obtain ⟨ds, hds⟩ : ∃ d, rows[j]? = some d := ⟨_, List.getElem?_eq_getElem hlt⟩
      have HZB := hide (((unhide HB0).trans ((unhide HW0).mono (unhide HB0).size)).trans ((unhide HR).below (Nat.le_trans (unhide HB0).size (unhide HW0).size) (unhide HO0)))
      have hsl := (unhide HS).after (unhide HZB)
      obtain ⟨g, o, rfl, _, hcell⟩ := hsl (by omega)
      obtain ⟨g0, o0, e0, _, hcell0⟩ := unhide HS (by omega)
      obtain ⟨r, c2, z1, _, hsl2⟩ := hcell j ds hds
      obtain ⟨r0, c0, z2, _, hsl0⟩ := hcell0 j ds hds
      have er : r0 = r := by
        injection e0 with e0
        injection e0 with e1 e2
        subst e1
        subst e2
        have h9 := (unhide HZB).cell (p := ⟨g, o + j, none⟩) (block_lt_of_cell z2)
        rw [z1, z2] at h9
        injection h9 with h9
        injection h9 with h9
        exact h9.symm
      subst er
      have HST := hide (wVecs_snoc S1 rows j ds hds)
      have HD := hide ((unhide HF).at hds)
      have HSL := hide hsl0
      have HLL : Hid ((wVecs S1 (rows.take j)).1.length ≤ 48000000) := hide (by
        have h1 := wVecs_len (rows.take j) S1
        have h2 : (rows.take j).length ≤ 64 := by rw [List.length_take]; omega
        have := unhide HL
        have := unhide HL1
        omega)
      clear hcell hcell0 hds hsl2 hsl0 e0 z2 hsl
      go_wp2_with fail
      refine ((unhide HR).call fun own1 hx ho => putVec_any hx (unhide HLL) w0 (unhide HZB) (fun g hg => by rcases ho g hg with h1 | h1; exact unhide HO0 g h1; exact Nat.le_trans (Nat.le_trans (unhide HB0).size (unhide HW0).size) h1) _ c2 ds (unhide HD) (unhide HSL)).mono ?_
      rintro e w3 ⟨rfl, hs⟩
      have HS3 := hide hs
      clear hs z0 z1
      go_wp2_with fail
      go_roundw
      case rel => exact ⟨j + 1, by omega, by go_num, by rw [unhide HST]; exact unhide HS3⟩
      case measure => simp [intOf]; omega
    · obtain rfl : j = rows.length := by omega
      have HE2 := unhide HR
      rw [List.take_length, unhide HE] at HE2
      have HE3 := hide HE2
      clear HE2
      go_wp2_with fail
      go_end0
      exact (unhide HE3).of (unhide HW0)
end
end Go.Proofs.Ythecijjmgfempaa

/-
  What the program's writer and reader must answer, as the laws want it; pieces in memory.
-/
import Derived.Test.YtcgjcpnpkjahdaaRefE
namespace Go.Proofs.Ytcgjcpnpkjahdaa
open Go.RowKit

/-- An int of 64 bits. -/
def I64 (n : Int) : Prop := -9223372036854775808 ≤ n ∧ n ≤ 9223372036854775807
/-- The cells of a Writer that has nothing. -/
abbrev zeroW : Array Value := #[.slice none 0 0, .int .i64 0]
/-- What is turned is owned, or new. -/
def Turned (X : World → Addr → St → (Nat → Prop) → Prop) (own : Nat → Prop) (p : Addr) (w : World) (st : St) (v : Value) (e : Ending) (w' : World) : Prop :=
  ∃ own' : Nat → Prop, e = .returned v ∧ X w' p st own' ∧ (∀ g, own' g → own g ∨ w.heap.size ≤ g) ∧ Beside own w w'
def Told (w : World) (v : Value) (e : Ending) (w' : World) : Prop := e = .returned v ∧ Below w.heap.size w w'
/-- What a program's writer and reader must keep and answer. Wr, Rd: one lies there, in this state, and owns these blocks. -/
structure Prg (Wr Rd : World → Addr → St → (Nat → Prop) → Prop) : Prop where
  wlt : ∀ {w p st own}, Wr w p st own → ∀ g, own g → g < w.heap.size
  wkeep : ∀ {w w' p st own}, Wr w p st own → w.heap.size ≤ w'.heap.size → (∀ g, own g → w'.heap[g]? = w.heap[g]?) → Wr w' p st own
  rlt : ∀ {w p st own}, Rd w p st own → ∀ g, own g → g < w.heap.size
  rkeep : ∀ {w w' p st own}, Rd w p st own → w.heap.size ≤ w'.heap.size → (∀ g, own g → w'.heap[g]? = w.heap[g]?) → Rd w' p st own
  wzero : ∀ w : World, ∃ own : Nat → Prop, Wr (w.alloc (.cells zeroW 29)) ⟨w.heap.size, 0, none⟩ ([], 0) own ∧ ∀ g, own g → w.heap.size ≤ g
  wNumber : ∀ {w p st own}, Wr w p st own → st.1.length ≤ 50000000 → ∀ n : Int, I64 n → Calls Try.prog 32 #[.pointer (some p), .int .i64 n] w (Turned Wr own p w (wNumber st n) (.tuple #[]))
  wText : ∀ {w p st own}, Wr w p st own → st.1.length ≤ 50000000 → ∀ s : ByteArray, s.size ≤ 9223372036854775807 → Calls Try.prog 33 #[.pointer (some p), .string s] w (Turned Wr own p w (wText st s) (.tuple #[]))
  wFlag : ∀ {w p st own}, Wr w p st own → st.1.length ≤ 50000000 → ∀ is : Bool, Calls Try.prog 34 #[.pointer (some p), .bool is] w (Turned Wr own p w (wFlag st is) (.tuple #[]))
  wDigest : ∀ {w p st own}, Wr w p st own → st.1.length ≤ 50000000 → ∀ d : List UInt8, d.length = 32 → Calls Try.prog 35 #[.pointer (some p), .agg (d.map byteVal).toArray] w (Turned Wr own p w (wDigest st d) (.tuple #[]))
  wFail : ∀ {w p st own}, Wr w p st own → ∀ e : Int, I64 e → Calls Try.prog 36 #[.pointer (some p), .int .i64 e] w (Turned Wr own p w (fail st e) (.tuple #[]))
  wDone : ∀ {w p st own}, Wr w p st own → st.1.length ≤ 50000000 → Calls Try.prog 15 #[.pointer (some p)] w (Told w (.tuple #[.string (str (told st)), .int .i64 st.2]))
  new : ∀ (s : ByteArray) (w : World), s.size ≤ 50000000 → Calls Try.prog 17 #[.string s] w fun e w' => ∃ p own, e = .returned (.pointer (some p)) ∧ Rd w' p (s.data.toList, 0) own ∧ (∀ g, own g → w.heap.size ≤ g) ∧ Below w.heap.size w w'
  rNumber : ∀ {w p st own}, Rd w p st own → st.1.length ≤ 50000000 → ∀ most : Int, I64 most → Calls Try.prog 18 #[.pointer (some p), .int .i64 most] w (Turned Rd own p w (rNumber st most).2 (.int .i64 (rNumber st most).1))
  rText : ∀ {w p st own}, Rd w p st own → st.1.length ≤ 50000000 → ∀ most : Int, I64 most → Calls Try.prog 20 #[.pointer (some p), .int .i64 most] w (Turned Rd own p w (rText st most).2 (.string (str (rText st most).1)))
  rFlag : ∀ {w p st own}, Rd w p st own → st.1.length ≤ 50000000 → Calls Try.prog 22 #[.pointer (some p)] w (Turned Rd own p w (rFlag st).2 (.bool (rFlag st).1))
  rDigest : ∀ {w p st own}, Rd w p st own → st.1.length ≤ 50000000 → Calls Try.prog 24 #[.pointer (some p)] w (Turned Rd own p w (rDigest st).2 (.agg ((rDigest st).1.map byteVal).toArray))
  rFail : ∀ {w p st own}, Rd w p st own → ∀ e : Int, I64 e → Calls Try.prog 26 #[.pointer (some p), .int .i64 e] w (Turned Rd own p w (fail st e) (.tuple #[]))
  rErr : ∀ {w p st own}, Rd w p st own → Calls Try.prog 28 #[.pointer (some p)] w (Told w (.int .i64 st.2))
  rLeft : ∀ {w p st own}, Rd w p st own → Calls Try.prog 29 #[.pointer (some p)] w (Told w (.int .i64 st.1.length))
  rDone : ∀ {w p st own}, Rd w p st own → Calls Try.prog 30 #[.pointer (some p)] w (Told w (.int .i64 (rDone st)))
  nwNumber : ∀ (n : Int) w, I64 n → Calls Try.prog 32 #[.pointer none, .int .i64 n] w (Told w (.tuple #[]))
  nwText : ∀ (s : ByteArray) w, s.size ≤ 9223372036854775807 → Calls Try.prog 33 #[.pointer none, .string s] w (Told w (.tuple #[]))
  nwFlag : ∀ (is : Bool) w, Calls Try.prog 34 #[.pointer none, .bool is] w (Told w (.tuple #[]))
  nwDigest : ∀ (d : List UInt8) w, d.length = 32 → Calls Try.prog 35 #[.pointer none, .agg (d.map byteVal).toArray] w (Told w (.tuple #[]))
  nwFail : ∀ (e : Int) w, I64 e → Calls Try.prog 36 #[.pointer none, .int .i64 e] w (Told w (.tuple #[]))
  nwDone : ∀ w, Calls Try.prog 15 #[.pointer none] w (Told w (.tuple #[.string ⟨#[]⟩, .int .i64 13]))
  nrNumber : ∀ (n : Int) w, I64 n → Calls Try.prog 18 #[.pointer none, .int .i64 n] w (Told w (.int .i64 0))
  nrText : ∀ (n : Int) w, I64 n → Calls Try.prog 20 #[.pointer none, .int .i64 n] w (Told w (.string ⟨#[]⟩))
  nrFlag : ∀ w, Calls Try.prog 22 #[.pointer none] w (Told w (.bool false))
  nrDigest : ∀ w, Calls Try.prog 24 #[.pointer none] w (Told w (.agg (zero32.map byteVal).toArray))
  nrFail : ∀ (e : Int) w, I64 e → Calls Try.prog 26 #[.pointer none, .int .i64 e] w (Told w (.tuple #[]))
  nrErr : ∀ w, Calls Try.prog 28 #[.pointer none] w (Told w (.int .i64 13))
  nrLeft : ∀ w, Calls Try.prog 29 #[.pointer none] w (Told w (.int .i64 0))
  nrDone : ∀ w, Calls Try.prog 30 #[.pointer none] w (Told w (.int .i64 13))
theorem Prg.wafter {Wr Rd} (P : Prg Wr Rd) {w w' : World} {p : Addr} {st : St} {own : Nat → Prop} (h : Wr w p st own) (hb : Below w.heap.size w w') : Wr w' p st own := P.wkeep h hb.size fun g hg => hb.block g (P.wlt h g hg)
theorem Prg.rafter {Wr Rd} (P : Prg Wr Rd) {w w' : World} {p : Addr} {st : St} {own : Nat → Prop} (h : Rd w p st own) (hb : Below w.heap.size w w') : Rd w' p st own := P.rkeep h hb.size fun g hg => hb.block g (P.rlt h g hg)
theorem below_beside {own : Nat → Prop} {n : Nat} {a w w' : World} (h : Below n a w) (hn : n ≤ a.heap.size) (ho : ∀ g, own g → n ≤ g) (hb : Beside own w w') : Below n a w' := h.trans (hb.below (Nat.le_trans hn h.size) ho)
theorem own_beside {own own' : Nat → Prop} {n : Nat} {a w : World} (h : Below n a w) (hn : n ≤ a.heap.size) (ho : ∀ g, own g → n ≤ g) (hb : ∀ g, own' g → own g ∨ w.heap.size ≤ g) : ∀ g, own' g → n ≤ g := fun g hg => by
  rcases hb g hg with h1 | h1
  · exact ho g h1
  · have := h.size; omega

/-- A piece's cells. -/
def pcL (x : Pc) : List Value := .int .i64 x.kind :: .int .i64 x.n :: .string x.s :: x.d.map byteVal
/-- A piece as it may come in. -/
def Pok (x : Pc) : Prop := I64 x.kind ∧ I64 x.n ∧ x.s.size ≤ 9223372036854775807 ∧ x.d.length = 32
theorem pcL_len {x : Pc} (h : Pok x) : (pcL x).length = 35 := by simp [pcL, h.2.2.2]
theorem pcL_one (x : Pc) : ∀ v ∈ pcL x, v.oneCell' = true := by
  intro v hv
  simp only [pcL, List.mem_cons] at hv
  rcases hv with rfl | rfl | rfl | hv
  · rfl
  · rfl
  · rfl
  · exact one_bytes _ v hv
/-- A slice of pieces, wherever it lies. -/
def PL (W : World) (a : Option Addr) (l : List Pc) : Prop :=
  0 < l.length → ∃ g o, a = some ⟨g, o, none⟩ ∧ g < W.heap.size ∧ ∀ (j : Nat) (x : Pc), l[j]? = some x → W.rangeAt g (o + j * 35) (pcL x)
theorem range_after {W W' : World} {g o : Nat} {cs : List Value} (h : W.rangeAt g o cs) (hg : g < W.heap.size) (hb : Below W.heap.size W W') : W'.rangeAt g o cs := fun j v hv => (hb.cell (p := ⟨g, o + j, none⟩) hg).trans (h j v hv)
theorem PL.after {W W' : World} {a : Option Addr} {l : List Pc} (h : PL W a l) (hb : Below W.heap.size W W') : PL W' a l := fun h0 => by
  obtain ⟨g, o, e, hg, hc⟩ := h h0
  exact ⟨g, o, e, Nat.lt_of_lt_of_le hg hb.size, fun j x hj => range_after (hc j x hj) hg hb⟩
theorem range_d {W : World} {g o : Nat} {x : Pc} (h : W.rangeAt g o (pcL x)) : W.rangeAt g (o + 3) (x.d.map byteVal) := fun j v hv => by
  have := h (j + 3) v hv
  rw [show o + (j + 3) = o + 3 + j by omega] at this
  exact this
theorem VRow.range {W : World} {B T : Nat} {vs : List Value} (h : VRow W B T vs) : W.rangeAt B 0 vs := fun j v hv => by rw [Nat.zero_add]; exact h.cell j v hv
theorem size35 : (Try.prog.info? 36).map (·.size) = some 35 := by kernel_rfl

/-- Whether pieces are too much; if not, they are few. -/
def GreatMade (n : Nat) (w : World) (e : Ending) (w' : World) : Prop := ∃ B : Bool, e = .returned (.bool B) ∧ w' = w ∧ (B = false → n ≤ 60)
set_option maxRecDepth 100000 in
set_option maxHeartbeats 1000000 in
theorem great_any (a : Option Addr) (cap : Nat) (l : List Pc) (hl : l.length ≤ 9223372036854775807) (w : World) (h : PL w a l) :
    Calls Try.prog 7 #[.slice a l.length cap] w (GreatMade l.length w) := by
  have HP := hide h
  clear h
  go_enter Try.func7, Try.ntmps7
  go_wp2_with fail
  go_loopw [3, 4] (fun n i wr => ∃ (t : Int) (k : Nat), k ≤ l.length ∧ k ≤ 60 ∧ n = .int .i64 t ∧ i = .int .i64 k ∧ wr = w) (fun _ i _ => l.length - (intOf i).toNat)
  case atStart => exact ⟨0, 0, Nat.zero_le _, Nat.zero_le _, rfl, rfl, rfl⟩
  case round =>
    obtain ⟨t, k, hk, hk60, rfl, rfl, rfl⟩ := hrel
    by_cases hlt : k < l.length
    · obtain ⟨x, hx⟩ : ∃ x, l[k]? = some x := ⟨_, List.getElem?_eq_getElem hlt⟩
      obtain ⟨g, o, rfl, hg, hc⟩ := unhide HP (by omega)
      have x2 : wr.cell? ⟨g, o + k * 35 + 2, none⟩ = some (.string x.s) := hc k x hx 2 _ rfl
      clear hc hx hg
      by_cases h60 : k < 60
      · obtain ⟨T, hT⟩ : ∃ T, IntKind.i64.wrap (t + (x.s.size : Int)) = T := ⟨_, rfl⟩
        by_cases hT7 : 70000 < T
        · have hd : decide ((70000 : Int) < T) = true := decide_eq_true hT7
          go_wp2_with fail
          all_goals try go_ret
          all_goals exact ⟨true, rfl, rfl, fun h => by cases h⟩
        · have hd : decide ((70000 : Int) < T) = false := decide_eq_false hT7
          go_wp2_with fail
          go_roundw
          case rel => exact ⟨T, k + 1, by omega, by omega, by rw [← hT], by go_num, by trivial⟩
          case measure => simp [intOf]; omega
      · go_wp2_with fail
        go_ret
        exact ⟨true, rfl, rfl, fun h => by cases h⟩
    · obtain rfl : k = l.length := by omega
      go_wp2_with fail
      go_ret
      exact ⟨false, rfl, rfl, fun _ => hk60⟩
end Go.Proofs.Ytcgjcpnpkjahdaa

/-
  The message that bytes are: what is kept on the document's way.
-/
import Derived.Test.YthecijjmgfempaaGreatX1
import Derived.Test.YthecijjmgfempaaGreatM3
namespace Go.Proofs.YthecijjmgfempaaGreat
open Go.RowKit

set_option maxRecDepth 100000 in
theorem mK_lit (k : Int) : mL { zeroM with kind := k } none 0 none 0 = [.int .i64 k, .int .i64 0, .int .i64 0, .int .i64 0, .bool false, .string ⟨#[]⟩, .int .u8 0, .int .u8 0, .int .u8 0, .int .u8 0, .int .u8 0, .int .u8 0, .int .u8 0, .int .u8 0, .int .u8 0, .int .u8 0, .int .u8 0, .int .u8 0, .int .u8 0, .int .u8 0, .int .u8 0, .int .u8 0, .int .u8 0, .int .u8 0, .int .u8 0, .int .u8 0, .int .u8 0, .int .u8 0, .int .u8 0, .int .u8 0, .int .u8 0, .int .u8 0, .int .u8 0, .int .u8 0, .int .u8 0, .int .u8 0, .int .u8 0, .int .u8 0, .slice none 0 0, .slice none 0 0, .string ⟨#[]⟩] := by rfl
structure US (n B : Nat) (w : World) (st : St) (m : Msg) (a : Option Addr) (c : Nat) (b : Option Addr) (d : Nat) (W : World) : Prop where
  res : VRow W n 28 mZ
  row : VRow W B 28 (mL m a c b d)
  doc : Doc W (n + 1) 51 st
  below : Below n w W
  hB : n + 2 ≤ B
section
variable {n B : Nat} {w W W' : World} {st st' : St} {m m' : Msg} {a b a' b' : Option Addr} {c d c' d' : Nat}
theorem US.made (h : US n B w st m a c b d W) {v : Value} {e : Ending} (hm : DocMade (n + 1) 51 W st' v e W') : e = .returned v ∧ US n B w st' m a c b d W' :=
  ⟨hm.1, h.res.beside hm.2.2 (by intro e; have e2 : n = n + 1 := e; omega), h.row.beside hm.2.2 (by intro e; have e2 : B = n + 1 := e; have := h.hB; omega), hm.2.1, h.below.trans (hm.2.2.below (Nat.le_of_lt h.res.lt) (by intro g e; have e2 : g = n + 1 := e; omega)), h.hB⟩
theorem US.call {f : Nat} {args : Array Value} {v : Value} (h : US n B w st m a c b d W) (K : Doc W (n + 1) 51 st → Calls Tryz.prog f args W (DocMade (n + 1) 51 W st' v)) :
    Calls Tryz.prog f args W fun e w' => e = .returned v ∧ US n B w st' m a c b d w' := (K h.doc).mono fun _ _ hm => h.made hm
theorem US.turn (h : US n B w st m a c b d W) (hr : VRow W' B 28 (mL m' a' c' b' d')) (hb : Beside (· = B) W W') : US n B w st m' a' c' b' d' W' :=
  ⟨h.res.beside hb (by intro e; have e2 : n = B := e; have := h.hB; omega), hr, VRow.beside h.doc hb (by intro e; have e2 : n + 1 = B := e; have := h.hB; omega), h.below.trans (hb.below (Nat.le_of_lt h.res.lt) (by intro g e; have e2 : g = B := e; have := h.hB; omega)), h.hB⟩
theorem US.set {k : Nat} {v : Value} (h : US n B w st m a c b d W) (hr : VRow (W.setCell ⟨B, k, none⟩ v) B 28 (mL m' a' c' b' d')) : US n B w st m' a' c' b' d' (W.setCell ⟨B, k, none⟩ v) := h.turn hr (beside_set B k W v)
theorem US.under (h : US n B w st m a c b d W) {x : Nat} (hx : B < x) (hb : Below x W W') : US n B w st m a c b d W' :=
  ⟨h.res.below hb (by have := h.hB; omega), h.row.below hb hx, VRow.below h.doc hb (by have := h.hB; omega), h.below.trans (hb.mono (by have := h.hB; omega)), h.hB⟩
theorem US.after (h : US n B w st m a c b d W) (hb : Below W.heap.size W W') : US n B w st m a c b d W' := h.under h.row.lt hb
end
theorem rNumber_err {st : St} {most : Int} (h : (rNumber st most).2.2 ≠ 0) : (rNumber st most).1 = 0 := by
  unfold rNumber at h ⊢
  split
  · rfl
  · rename_i h1
    rw [if_neg h1] at h
    split
    · rfl
    · rename_i h2
      rw [if_neg h2] at h
      split
      · rfl
      · rename_i h3
        rw [if_neg h3] at h
        exact absurd rfl h
theorem results_msg15 (tmps : Array Value) (w : World) (g : Nat) (vs : List Value) (v : Value) (hp : tmps.getD 2 undef = .pointer (some ⟨g, 0, none⟩)) (hq : tmps.getD 3 undef = v) (hr : VRow w g 28 vs) (hn : vs.length = 41) :
    (results Tryz.f22 tmps).run Tryz.prog w = .ok (.tuple #[.agg vs.toArray, v]) w := by
  have hp' : tmps[2]?.getD undef = .pointer (some ⟨g, 0, none⟩) := by simpa using hp
  have hq' : tmps[3]?.getD undef = v := by simpa using hq
  have hl := run_loadVar_row (P := Tryz.prog) w g 28 28 vs.toArray (0, 0) _ hr Tryz.underlying28 rfl (by rw [sizeM]; simp [hn])
  simp [results, hp', hq', asAddr, hl]
theorem rDone_bad {st : St} (h : st.2 ≠ 0) : rDone st ≠ 0 := by
  unfold rDone
  rw [if_neg (by intro hc; exact h hc.1)]
  exact h
theorem itR_stays (st : St) (k : Nat) (h : (itR k st).2.2 ≠ 0) : ∀ m, k ≤ m → (itR m st).2 = (itR k st).2 := by
  intro m hm
  induction m with
  | zero => obtain rfl : k = 0 := by omega
            rfl
  | succ m ih =>
    by_cases hk : k = m + 1
    · rw [hk]
    · have e := ih (by omega)
      show (rVec (itR m st).2).2 = _
      rw [e, rVec_bad h]
end Go.Proofs.YthecijjmgfempaaGreat

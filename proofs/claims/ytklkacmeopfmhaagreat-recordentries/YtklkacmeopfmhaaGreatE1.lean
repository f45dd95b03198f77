/-
  Entries that are put, the program's and the document's. Conditions: those that each theorem names.
-/
import Derived.Test.YtklkacmeopfmhaaGreatR6
import Derived.Test.YtklkacmeopfmhaaGreatR1
import Derived.Test.YtklkacmeopfmhaaGreatQName
import Derived.Test.YtklkacmeopfmhaaGreatQRefCmp
namespace Go.Proofs.YtklkacmeopfmhaaGreat
open Go.RowKit

/-- Why a text is no path. -/
def pchk (l : List UInt8) : Int := Pth.Pt.check l
def wEntry (st : St) (p : ByteArray) (l : List Vc.V) : St := wLeaf (wText (fail st (pchk p.data.toList)) p) l
theorem wEntry_len (st : St) (p : ByteArray) (l : List Vc.V) (hp : p.size ≤ 200) : (wEntry st p l).1.length ≤ st.1.length + 46300 := by
  have h1 := wLeaf_len (wText (fail st (pchk p.data.toList)) p) l
  have h2 := (wText_len (fail st (pchk p.data.toList)) p).2
  rw [fail_len] at h2
  unfold wEntry
  omega
theorem wText_few (st : St) (p : ByteArray) (hp : p.size ≤ 200) : (wText st p).1.length ≤ st.1.length + 205 := by
  have := (wText_len st p).2
  omega

set_option maxRecDepth 100000 in
set_option maxHeartbeats 400000 in
theorem putEntry_any {w : World} {p : Addr} {st : St} {own : Nat → Prop} (h : Wr w p st own) (hl : st.1.length ≤ 30000000) (w0 : World) (hb0 : Below w0.heap.size w0 w) (ho0 : ∀ g, own g → w0.heap.size ≤ g)
    (s : ByteArray) (hs : s.size ≤ 200) (a : Option Addr) (cap : Nat) (vs : List Vc.V) (hf : Few vs) (sv : SV w0 a vs) :
    Calls Tryz.prog 6 #[.pointer (some p), .agg #[.string s, .slice a vs.length cap]] w (Turned Wr own p w (wEntry st s vs) (.tuple #[])) := by
  have HB := hide (below_alloc' (w := w) (.cells #[.string s, .slice a vs.length cap] 34))
  have HW := hide (WS.start (wr_after h (unhide HB)))
  have R := VRow.new w 34 [.string s, .slice a vs.length cap]
  have HR := hide R
  have HN : Hid (¬ own w.heap.size) := hide fun ho => absurd (wr_lt h _ ho) (by omega)
  have KC := hide fun W => Pth.check_any s (by omega) W
  have HPC : Hid (Pth.Pt.check s.data.toList = pchk s.data.toList) := hide rfl
  have L1 := hide (show (fail st (pchk s.data.toList)).1.length ≤ 30000000 from by rw [fail_len]; exact hl)
  have L2 := hide (wText_few (fail st (pchk s.data.toList)) s hs)
  have HE : Hid (wLeaf (wText (fail st (pchk s.data.toList)) s) vs = wEntry st s vs) := hide rfl
  rw [unhide HPC] at KC
  generalize pchk s.data.toList = C at KC L1 L2 HE
  have HB0 := hide hb0
  have HO0 := hide ho0
  have HW0 := hide (Nat.le_trans hb0.size (unhide HB).size)
  have S := hide sv
  have HF := hide hf
  have a0 := R.cell 0 _ rfl
  clear h R hl sv hb0 ho0 HPC
  go_enter Tryz.func6, Tryz.ntmps6
  go_wp2_with fail
  refine (unhide KC _).mono ?_
  rintro e w1 ⟨rfl, hb⟩
  have HW1 := hide ((unhide HW).after hb)
  clear hb a0
  go_wp2_with fail
  refine ((unhide HW1).call fun own1 hx _ => wfail_any hx C).mono ?_
  rintro e w2 ⟨rfl, hs⟩
  have HS2 := hide hs
  have a0 := ((unhide HS2).row (unhide HR) (unhide HN)).cell 0 _ rfl
  clear hs
  go_wp2_with fail
  refine ((unhide HS2).call fun own1 hx _ => wtext_any hx (by have := unhide L1; omega) s).mono ?_
  rintro e w3 ⟨rfl, hs⟩
  have HS3 := hide hs
  have a1 := ((unhide HS3).row (unhide HR) (unhide HN)).cell 1 _ rfl
  clear hs a0
  go_wp2_with fail
  refine ((unhide HS3).call fun own1 hx ho => putLeaf_any hx (by have := unhide L1; have := unhide L2; omega) w0 (((unhide HB0).trans ((unhide HB).mono (unhide HB0).size)).trans ((unhide HS3).below (unhide HW0) (unhide HO0)))
    (fun g hg => by rcases ho g hg with h1 | h1; exact unhide HO0 g h1; exact Nat.le_trans (unhide HW0) h1) a cap vs (unhide HF) (unhide S)).mono ?_
  rw [unhide HE]
  rintro e w4 ⟨rfl, hs⟩
  have HS4 := hide hs
  clear hs a1
  go_wp2_with fail
  go_end0
  exact (unhide HS4).of (unhide HB)

set_option maxRecDepth 100000 in
set_option maxHeartbeats 400000 in
theorem refPutEntry_any {w : World} {q : Nat} {st : St} (h : Doc w q 31 st) (hl : st.1.length ≤ 30000000) (w0 : World) (hb0 : Below w0.heap.size w0 w) (hq0 : w0.heap.size ≤ q)
    (s : ByteArray) (hs : s.size ≤ 200) (a : Option Addr) (cap : Nat) (vs : List Vc.V) (hf : Few vs) (hdata : ∀ v ∈ vs, v.data.size ≤ 9223372036854775807) (sv : SV w0 a vs) :
    Calls Tryz.prog 7 #[.pointer (some ⟨q, 0, none⟩), .agg #[.string s, .slice a vs.length cap]] w (DocMade q 31 w (wEntry st s vs) (.tuple #[])) := by
  have HB := hide (below_alloc' (w := w) (.cells #[.string s, .slice a vs.length cap] 34))
  have HW := hide (DS.start (h.after (unhide HB)))
  have hq := h.lt
  have R := VRow.new w 34 [.string s, .slice a vs.length cap]
  have HR := hide R
  have KC := hide fun W => Pth.refCheck_any s (by omega) W
  have HPC : Hid (Pth.Pt.check s.data.toList = pchk s.data.toList) := hide rfl
  have L1 := hide (show (fail st (pchk s.data.toList)).1.length ≤ 30000000 from by rw [fail_len]; exact hl)
  have L2 := hide (wText_few (fail st (pchk s.data.toList)) s hs)
  have HE : Hid (wLeaf (wText (fail st (pchk s.data.toList)) s) vs = wEntry st s vs) := hide rfl
  rw [unhide HPC] at KC
  generalize pchk s.data.toList = C at KC L1 L2 HE
  have HB0 := hide hb0
  have HQ0 := hide hq0
  have HSS := hide hs
  have HW0 := hide (Nat.le_trans hb0.size (unhide HB).size)
  have S := hide sv
  have HF := hide hf
  have HDT := hide hdata
  have a0 := R.cell 0 _ rfl
  clear h R hl sv hb0 hq0 HPC hs hdata hf
  go_enter Tryz.func7, Tryz.ntmps7
  go_wp2_with fail
  refine (unhide KC _).mono ?_
  rintro e w1 ⟨rfl, hb⟩
  have HW1 := hide ((unhide HW).after hb)
  clear hb a0
  go_wp2_with fail
  refine ((unhide HW1).call fun hx => refFailW_any q st C _ hx).mono ?_
  rintro e w2 ⟨rfl, hs⟩
  have HS2 := hide hs
  have a0 := ((unhide HS2).row (unhide HR) (by omega)).cell 0 _ rfl
  clear hs
  go_wp2_with fail
  refine ((unhide HS2).call fun hx => refTextW_any q _ s (by have := unhide HSS; omega) (by have := unhide L1; omega) _ hx).mono ?_
  rintro e w3 ⟨rfl, hs⟩
  have HS3 := hide hs
  have a1 := ((unhide HS3).row (unhide HR) (by omega)).cell 1 _ rfl
  clear hs a0
  go_wp2_with fail
  refine ((unhide HS3).call fun hx => refPutLeaf_any hx (by have := unhide L1; have := unhide L2; omega) w0 (((unhide HB0).trans ((unhide HB).mono (unhide HB0).size)).trans ((unhide HS3).below (unhide HW0) (unhide HQ0))) (unhide HQ0) a cap vs (unhide HF) (unhide HDT) (unhide S)).mono ?_
  rw [unhide HE]
  rintro e w4 ⟨rfl, hs⟩
  have HS4 := hide hs
  clear hs a1
  go_wp2_with fail
  go_end0
  exact ((unhide HS4).of (unhide HB)).made _
end Go.Proofs.YtklkacmeopfmhaaGreat

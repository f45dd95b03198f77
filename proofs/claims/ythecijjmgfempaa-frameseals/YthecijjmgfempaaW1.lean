/-
  A message's bytes: the document's.
-/
import Derived.Test.YthecijjmgfempaaN3
import Derived.Test.YthecijjmgfempaaM3
namespace Go.Proofs.Ythecijjmgfempaa
open Go.RowKit

theorem wDigest_bad {st : St} (h : st.2 ≠ 0) (d : List UInt8) : wDigest st d = st := wput_bad h _ _
theorem wText_bad {st : St} (h : st.2 ≠ 0) (s : ByteArray) : wText st s = st := wput_bad h _ _
theorem wFlag_bad {st : St} (h : st.2 ≠ 0) (b : Bool) : wFlag st b = st := wput_bad h _ _
theorem wVecs_bad : ∀ (l : List (List Vc.D)) {st : St} (_ : st.2 ≠ 0), wVecs st l = st
  | [], _, _ => rfl
  | d :: l, st, h => by
    have e : wVecs st (d :: l) = wVecs (wVec st d) l := rfl
    rw [e, wVec_stays h]
    exact wVecs_bad l h
theorem wMsg_bad {st : St} (h : st.2 ≠ 0) (m : Msg) : wMsg st m = st := by
  have e : wHead st m = st := by unfold wHead; rw [wNumber_bad h, wNumber_bad h, wNumber_bad h, wNumber_bad h]
  unfold wMsg
  rw [e]
  split
  · rw [wDigest_bad h, wVec_stays h]
    unfold wRows
    rw [wNumber_bad h]
    exact wVecs_bad _ h
  · split
    · rw [wDigest_bad h, wText_bad h]
    · split
      · rw [wText_bad h, wText_bad h]
      · split
        · exact wFlag_bad h _
        · rfl
theorem bytesM_is (m : Msg) : bytesM m = (told (wMsg (fail ([], 0) (checkM m)) m), (wMsg (fail ([], 0) (checkM m)) m).2) := by
  unfold bytesM
  by_cases h : checkM m = 0
  · rw [if_neg (by simp [h]), h, fail_zero]
  · have hb := fail_bad (st := ([], 0)) h
    rw [if_pos h, wMsg_bad hb]
    have e : fail ([], 0) (checkM m) = ([], checkM m) := rfl
    rw [e]
    unfold told
    rw [if_pos h]

set_option maxRecDepth 100000 in
set_option maxHeartbeats 2000000 in
theorem refBytes_o (m : Msg) (a b : Option Addr) (c d : Nat) (w : World) (hf : FewM m) (hn : m.rows.length ≤ 70) (ht : m.text.size ≤ 70000) (s1 : Sl w a m.ctx) (s2 : RL w b m.rows) (k : Int) (hk : m.kind = k) (n2 : (k == 2) = false) (n3 : (k == 3) = false) (n4 : (k == 4) = false) (n6 : (k == 6) = false) :
    Calls Try.prog 11 #[.agg (mL m a c b d).toArray] w fun e w' => e = .returned (.tuple #[.string (str (told (wHead (fail ([], 0) (checkM m)) m))), .int .i64 (wHead (fail ([], 0) (checkM m)) m).2]) ∧ Below w.heap.size w w' := by
  have HR := hide ((VRow.new w 27 (mL m a c b d)).alloc (.cells #[.string ⟨#[]⟩, .int .i64 0] 53))
  have HB1 := hide (below_alloc' (w := w) (.cells (mL m a c b d).toArray 27))
  have HB := hide ((below_alloc' (w := w) (.cells (mL m a c b d).toArray 27)).alloc (by simp) (.cells #[.string ⟨#[]⟩, .int .i64 0] 53))
  have HL := hide (mL_len hf.root a c b d)
  have hz := doc_zero (w.alloc (.cells (mL m a c b d).toArray 27))
  have hsz : (w.alloc (.cells (mL m a c b d).toArray 27)).heap.size = w.heap.size + 1 := by simp
  rw [hsz] at hz
  have H0 := hide (DS.start hz)
  have HF := hide hf
  have HN := hide hn
  have HTX := hide ht
  have HS1 := hide s1
  have HS2 := hide s2
  have HS1' := hide (s1.after (unhide HB))
  have HS2' := hide (s2.after (unhide HB))
  have KC := hide (refCheckM_any m a b c d _ hf (unhide HS1') (unhide HS2'))
  have HSZ : Hid (w.heap.size + 1 = (w.alloc (.cells (mL m a c b d).toArray 27)).heap.size) := hide hsz.symm
  have HNE : Hid (w.heap.size ≠ w.heap.size + 1) := hide (by omega)
  have HC : Hid (∀ {st : St} {W : World}, DS (w.heap.size + 1) 53 ((w.alloc (.cells (mL m a c b d).toArray 27)).alloc (.cells #[.string ⟨#[]⟩, .int .i64 0] 53)) st W → VRow W w.heap.size 27 (mL m a c b d)) := hide fun h => h.row (unhide HR) (by omega)
  have HZ : Hid (∀ {st : St} {W : World}, DS (w.heap.size + 1) 53 ((w.alloc (.cells (mL m a c b d).toArray 27)).alloc (.cells #[.string ⟨#[]⟩, .int .i64 0] 53)) st W → Below w.heap.size w W) := hide fun h => (unhide HB).trans (h.below (unhide HB).size (by omega))
  have HK := hide hk
  clear hz hsz hf hn ht s1 s2 hk
  go_enter Try.func11, Try.ntmps11
  go_wp2_with ((with_reducible refine at27 ?_); (refine load_msg (by rfl) (.tmp 1) (by rfl) w.heap.size (by rfl) _ (unhide HR) (unhide HL) ?_))
  refine (unhide KC).mono ?_
  rintro e w1 ⟨rfl, hb⟩
  have H1 := hide ((unhide H0).after hb)
  clear hb
  go_wp2_with fail
  refine ((unhide H1).call fun hx => refFailW_any _ _ (checkM m) _ hx).mono ?_
  rintro e w2 ⟨rfl, hs⟩
  have H2 := hide hs
  have HL2 : Hid ((fail ([], 0) (checkM m)).1.length ≤ 0) := hide (by rw [fail_len]; exact Nat.le_refl _)
  clear hs
  have x0 := m0 (unhide HC (unhide H2))
  go_wp2_with fail
  refine ((unhide H2).call fun hx => refNumberW_any _ _ m.kind (by have := unhide HL2; omega) _ hx).mono ?_
  rintro e w3 ⟨rfl, hs⟩
  have H3 := hide hs
  have HL3 : Hid ((wNumber (fail ([], 0) (checkM m)) m.kind).1.length ≤ 5) := hide (by have h1 := unhide HL2; have h2 := wNumber_len (fail ([], 0) (checkM m)) m.kind; omega)
  clear hs x0
  have x1 := m1 (unhide HC (unhide H3))
  go_wp2_with fail
  refine ((unhide H3).call fun hx => refNumberW_any _ _ m.frm (by have := unhide HL3; omega) _ hx).mono ?_
  rintro e w4 ⟨rfl, hs⟩
  have H4 := hide hs
  have HL4 : Hid ((wNumber (wNumber (fail ([], 0) (checkM m)) m.kind) m.frm).1.length ≤ 10) := hide (by have h1 := unhide HL3; have h2 := wNumber_len (wNumber (fail ([], 0) (checkM m)) m.kind) m.frm; omega)
  clear hs x1
  have x2 := m2 (unhide HC (unhide H4))
  go_wp2_with fail
  refine ((unhide H4).call fun hx => refNumberW_any _ _ m.dst (by have := unhide HL4; omega) _ hx).mono ?_
  rintro e w5 ⟨rfl, hs⟩
  have H5 := hide hs
  have HL5 : Hid ((wNumber (wNumber (wNumber (fail ([], 0) (checkM m)) m.kind) m.frm) m.dst).1.length ≤ 15) := hide (by have h1 := unhide HL4; have h2 := wNumber_len (wNumber (wNumber (fail ([], 0) (checkM m)) m.kind) m.frm) m.dst; omega)
  clear hs x2
  have x3 := m3 (unhide HC (unhide H5))
  go_wp2_with fail
  refine ((unhide H5).call fun hx => refNumberW_any _ _ m.sid (by have := unhide HL5; omega) _ hx).mono ?_
  rintro e w6 ⟨rfl, hs⟩
  have H6 := hide hs
  have HL6 : Hid ((wNumber (wNumber (wNumber (wNumber (fail ([], 0) (checkM m)) m.kind) m.frm) m.dst) m.sid).1.length ≤ 20) := hide (by have h1 := unhide HL5; have h2 := wNumber_len (wNumber (wNumber (wNumber (fail ([], 0) (checkM m)) m.kind) m.frm) m.dst) m.sid; omega)
  clear hs x3
  have x0 := m0 (unhide HC (unhide H6))
  rw [unhide HK] at x0
  go_wp2_with fail
  refine (refDoneW_any _ _ _ (unhide H6).1).mono ?_
  rintro e w21 ⟨rfl, hb⟩
  have HB21 := hide (below_grow (unhide HZ (unhide H6)) (Nat.le_refl _) hb)
  clear hb
  go_wp2_with fail
  go_ret2
  exact ⟨rfl, unhide HB21⟩

set_option maxRecDepth 100000 in
set_option maxHeartbeats 2000000 in
theorem refBytes_2 (m : Msg) (a b : Option Addr) (c d : Nat) (w : World) (hf : FewM m) (hn : m.rows.length ≤ 70) (ht : m.text.size ≤ 70000) (s1 : Sl w a m.ctx) (s2 : RL w b m.rows) (hk : m.kind = 2) :
    Calls Try.prog 11 #[.agg (mL m a c b d).toArray] w fun e w' => e = .returned (.tuple #[.string (str (told (wRows (wVec (wDigest (wHead (fail ([], 0) (checkM m)) m) m.root) m.ctx) m.rows))), .int .i64 (wRows (wVec (wDigest (wHead (fail ([], 0) (checkM m)) m) m.root) m.ctx) m.rows).2]) ∧ Below w.heap.size w w' := by
  have HR := hide ((VRow.new w 27 (mL m a c b d)).alloc (.cells #[.string ⟨#[]⟩, .int .i64 0] 53))
  have HB1 := hide (below_alloc' (w := w) (.cells (mL m a c b d).toArray 27))
  have HB := hide ((below_alloc' (w := w) (.cells (mL m a c b d).toArray 27)).alloc (by simp) (.cells #[.string ⟨#[]⟩, .int .i64 0] 53))
  have HL := hide (mL_len hf.root a c b d)
  have hz := doc_zero (w.alloc (.cells (mL m a c b d).toArray 27))
  have hsz : (w.alloc (.cells (mL m a c b d).toArray 27)).heap.size = w.heap.size + 1 := by simp
  rw [hsz] at hz
  have H0 := hide (DS.start hz)
  have HF := hide hf
  have HN := hide hn
  have HTX := hide ht
  have HS1 := hide s1
  have HS2 := hide s2
  have HS1' := hide (s1.after (unhide HB))
  have HS2' := hide (s2.after (unhide HB))
  have KC := hide (refCheckM_any m a b c d _ hf (unhide HS1') (unhide HS2'))
  have HSZ : Hid (w.heap.size + 1 = (w.alloc (.cells (mL m a c b d).toArray 27)).heap.size) := hide hsz.symm
  have HNE : Hid (w.heap.size ≠ w.heap.size + 1) := hide (by omega)
  have HC : Hid (∀ {st : St} {W : World}, DS (w.heap.size + 1) 53 ((w.alloc (.cells (mL m a c b d).toArray 27)).alloc (.cells #[.string ⟨#[]⟩, .int .i64 0] 53)) st W → VRow W w.heap.size 27 (mL m a c b d)) := hide fun h => h.row (unhide HR) (by omega)
  have HZ : Hid (∀ {st : St} {W : World}, DS (w.heap.size + 1) 53 ((w.alloc (.cells (mL m a c b d).toArray 27)).alloc (.cells #[.string ⟨#[]⟩, .int .i64 0] 53)) st W → Below w.heap.size w W) := hide fun h => (unhide HB).trans (h.below (unhide HB).size (by omega))
  have HK := hide hk
  clear hz hsz hf hn ht s1 s2 hk
  go_enter Try.func11, Try.ntmps11
  go_wp2_with ((with_reducible refine at27 ?_); (refine load_msg (by rfl) (.tmp 1) (by rfl) w.heap.size (by rfl) _ (unhide HR) (unhide HL) ?_))
  refine (unhide KC).mono ?_
  rintro e w1 ⟨rfl, hb⟩
  have H1 := hide ((unhide H0).after hb)
  clear hb
  go_wp2_with fail
  refine ((unhide H1).call fun hx => refFailW_any _ _ (checkM m) _ hx).mono ?_
  rintro e w2 ⟨rfl, hs⟩
  have H2 := hide hs
  have HL2 : Hid ((fail ([], 0) (checkM m)).1.length ≤ 0) := hide (by rw [fail_len]; exact Nat.le_refl _)
  clear hs
  have x0 := m0 (unhide HC (unhide H2))
  go_wp2_with fail
  refine ((unhide H2).call fun hx => refNumberW_any _ _ m.kind (by have := unhide HL2; omega) _ hx).mono ?_
  rintro e w3 ⟨rfl, hs⟩
  have H3 := hide hs
  have HL3 : Hid ((wNumber (fail ([], 0) (checkM m)) m.kind).1.length ≤ 5) := hide (by have h1 := unhide HL2; have h2 := wNumber_len (fail ([], 0) (checkM m)) m.kind; omega)
  clear hs x0
  have x1 := m1 (unhide HC (unhide H3))
  go_wp2_with fail
  refine ((unhide H3).call fun hx => refNumberW_any _ _ m.frm (by have := unhide HL3; omega) _ hx).mono ?_
  rintro e w4 ⟨rfl, hs⟩
  have H4 := hide hs
  have HL4 : Hid ((wNumber (wNumber (fail ([], 0) (checkM m)) m.kind) m.frm).1.length ≤ 10) := hide (by have h1 := unhide HL3; have h2 := wNumber_len (wNumber (fail ([], 0) (checkM m)) m.kind) m.frm; omega)
  clear hs x1
  have x2 := m2 (unhide HC (unhide H4))
  go_wp2_with fail
  refine ((unhide H4).call fun hx => refNumberW_any _ _ m.dst (by have := unhide HL4; omega) _ hx).mono ?_
  rintro e w5 ⟨rfl, hs⟩
  have H5 := hide hs
  have HL5 : Hid ((wNumber (wNumber (wNumber (fail ([], 0) (checkM m)) m.kind) m.frm) m.dst).1.length ≤ 15) := hide (by have h1 := unhide HL4; have h2 := wNumber_len (wNumber (wNumber (fail ([], 0) (checkM m)) m.kind) m.frm) m.dst; omega)
  clear hs x2
  have x3 := m3 (unhide HC (unhide H5))
  go_wp2_with fail
  refine ((unhide H5).call fun hx => refNumberW_any _ _ m.sid (by have := unhide HL5; omega) _ hx).mono ?_
  rintro e w6 ⟨rfl, hs⟩
  have H6 := hide hs
  have HL6 : Hid ((wNumber (wNumber (wNumber (wNumber (fail ([], 0) (checkM m)) m.kind) m.frm) m.dst) m.sid).1.length ≤ 20) := hide (by have h1 := unhide HL5; have h2 := wNumber_len (wNumber (wNumber (wNumber (fail ([], 0) (checkM m)) m.kind) m.frm) m.dst) m.sid; omega)
  clear hs x3
  have x0 := m0 (unhide HC (unhide H6))
  rw [unhide HK] at x0
  go_wp2_with ((with_reducible refine at23 ?_); (refine load_root (by rfl) _ (by rfl) w.heap.size (by rfl) m.root (m6 (unhide HC (unhide H6))) (unhide HF).root ?_))
  refine ((unhide H6).call fun hx => refDigestW_any _ _ m.root (unhide HF).root (by have := unhide HL6; omega) _ hx).mono ?_
  rintro e w7 ⟨rfl, hs⟩
  have H7 := hide hs
  have HL7 : Hid ((wDigest (wNumber (wNumber (wNumber (wNumber (fail ([], 0) (checkM m)) m.kind) m.frm) m.dst) m.sid) m.root).1.length ≤ 52) := hide (by have h1 := unhide HL6; have h2 := wDigest_len (wNumber (wNumber (wNumber (wNumber (fail ([], 0) (checkM m)) m.kind) m.frm) m.dst) m.sid) (unhide HF).root; omega)
  clear hs
  have x38 := m38 (unhide HC (unhide H7)) (unhide HF).root
  go_wp2_with fail
  refine ((unhide H7).call fun hx => refPutVec_any hx (by have := unhide HL7; omega) w (unhide HZ (unhide H7)) (by omega) a c m.ctx (unhide HF).ctx (unhide HS1)).mono ?_
  rintro e w8 ⟨rfl, hs⟩
  have H8 := hide hs
  have HL8 : Hid ((wVec (wDigest (wNumber (wNumber (wNumber (wNumber (fail ([], 0) (checkM m)) m.kind) m.frm) m.dst) m.sid) m.root) m.ctx).1.length ≤ 697) := hide (by have h1 := unhide HL7; have h2 := wVec_len (wDigest (wNumber (wNumber (wNumber (wNumber (fail ([], 0) (checkM m)) m.kind) m.frm) m.dst) m.sid) m.root) m.ctx; omega)
  clear hs x38
  have x39 := m39 (unhide HC (unhide H8)) (unhide HF).root
  go_wp2_with fail
  refine ((unhide H8).call fun hx => refNumberW_any _ _ (m.rows.length : Int) (by have := unhide HL8; omega) _ hx).mono ?_
  rintro e w9 ⟨rfl, hs⟩
  have H9 := hide hs
  have HL9 : Hid ((wNumber (wVec (wDigest (wNumber (wNumber (wNumber (wNumber (fail ([], 0) (checkM m)) m.kind) m.frm) m.dst) m.sid) m.root) m.ctx) (m.rows.length : Int)).1.length ≤ 702) := hide (by have h1 := unhide HL8; have h2 := wNumber_len (wVec (wDigest (wNumber (wNumber (wNumber (wNumber (fail ([], 0) (checkM m)) m.kind) m.frm) m.dst) m.sid) m.root) m.ctx) (m.rows.length : Int); omega)
  clear hs x39
  have x39 := m39 (unhide HC (unhide H9)) (unhide HF).root
  go_wp2_with fail
  obtain ⟨S1, hS1⟩ : ∃ S1, (wNumber (wVec (wDigest (wNumber (wNumber (wNumber (wNumber (fail ([], 0) (checkM m)) m.kind) m.frm) m.dst) m.sid) m.root) m.ctx) (m.rows.length : Int)) = S1 := ⟨_, rfl⟩
  have HE : Hid (wVecs S1 m.rows = wRows (wVec (wDigest (wHead (fail ([], 0) (checkM m)) m) m.root) m.ctx) m.rows) := hide (by rw [← hS1]; rfl)
  have HLS : Hid (S1.1.length ≤ 702) := hide (by rw [← hS1]; exact unhide HL9)
  have HSS : Hid (DS (w.heap.size + 1) 53 ((w.alloc (.cells (mL m a c b d).toArray 27)).alloc (.cells #[.string ⟨#[]⟩, .int .i64 0] 53)) S1 w9) := hide (by rw [← hS1]; exact unhide H9)
  clear hS1 x0
  go_loopw [5] (fun i wr => ∃ j : Nat, j ≤ m.rows.length ∧ i = .int .i64 j ∧ Hid (DS (w.heap.size + 1) 53 ((w.alloc (.cells (mL m a c b d).toArray 27)).alloc (.cells #[.string ⟨#[]⟩, .int .i64 0] 53)) (wVecs S1 (m.rows.take j)) wr)) (fun i _ => m.rows.length - (intOf i).toNat)
  case atStart => exact ⟨0, Nat.zero_le _, rfl, HSS⟩
  case round =>
    obtain ⟨j, hj, rfl, HW⟩ := hrel
    clear x39
    have hn70 := unhide HN
    have x39 := m39 (unhide HC (unhide HW)) (unhide HF).root
    by_cases hlt : j < m.rows.length
    · obtain ⟨ds, hds⟩ : ∃ d, m.rows[j]? = some d := ⟨_, List.getElem?_eq_getElem hlt⟩
      have hsl := (unhide HS2).after (unhide HZ (unhide HW))
      obtain ⟨g, o, rfl, _, hcell⟩ := hsl (by omega)
      obtain ⟨g0, o0, e0, _, hcell0⟩ := unhide HS2 (by omega)
      obtain ⟨r, c2, z1, _, hsl2⟩ := hcell j ds hds
      obtain ⟨r0, c0, z2, _, hsl0⟩ := hcell0 j ds hds
      have er : r0 = r := by
        injection e0 with e0
        injection e0 with e1 e2
        subst e1
        subst e2
        have h9 := (unhide HZ (unhide HW)).cell (p := ⟨g, o + j, none⟩) (block_lt_of_cell z2)
        rw [z1, z2] at h9
        injection h9 with h9
        injection h9 with h9
        exact h9.symm
      subst er
      have HST := hide (wVecs_snoc S1 m.rows j ds hds)
      have HD := hide ((unhide HF).rows.at hds)
      have HSL := hide hsl0
      have HLL : Hid ((wVecs S1 (m.rows.take j)).1.length ≤ 48000000) := hide (by
        have h1 := wVecs_len (m.rows.take j) S1
        have h2 : (m.rows.take j).length ≤ 70 := by rw [List.length_take]; omega
        have := unhide HLS
        omega)
      clear hcell hcell0 hds hsl2 hsl0 e0 z2 hsl
      go_wp2_with fail
      refine ((unhide HW).call fun hx => refPutVec_any hx (by have := unhide HLL; omega) w (unhide HZ (unhide HW)) (by omega) _ c2 ds (unhide HD) (unhide HSL)).mono ?_
      rintro e w19 ⟨rfl, hs⟩
      have HS19 := hide hs
      clear hs z1 x39
      go_wp2_with fail
      go_roundw
      case rel => exact ⟨j + 1, by omega, by go_num, hide (by rw [unhide HST]; exact unhide HS19)⟩
      case measure => simp [intOf]; omega
    · obtain rfl : j = m.rows.length := by omega
      have HE2 := unhide HW
      rw [List.take_length, unhide HE] at HE2
      have H20 := hide HE2
      clear HE2
      go_wp2_with fail
      refine (refDoneW_any _ _ _ (unhide H20).1).mono ?_
      rintro e w21 ⟨rfl, hb⟩
      have HB21 := hide (below_grow (unhide HZ (unhide H20)) (Nat.le_refl _) hb)
      clear hb
      go_wp2_with fail
      go_ret2
      exact ⟨rfl, unhide HB21⟩

set_option maxRecDepth 100000 in
set_option maxHeartbeats 2000000 in
theorem refBytes_3 (m : Msg) (a b : Option Addr) (c d : Nat) (w : World) (hf : FewM m) (hn : m.rows.length ≤ 70) (ht : m.text.size ≤ 70000) (s1 : Sl w a m.ctx) (s2 : RL w b m.rows) (hk : m.kind = 3) :
    Calls Try.prog 11 #[.agg (mL m a c b d).toArray] w fun e w' => e = .returned (.tuple #[.string (str (told (wText (wDigest (wHead (fail ([], 0) (checkM m)) m) m.root) m.path))), .int .i64 (wText (wDigest (wHead (fail ([], 0) (checkM m)) m) m.root) m.path).2]) ∧ Below w.heap.size w w' := by
  have HR := hide ((VRow.new w 27 (mL m a c b d)).alloc (.cells #[.string ⟨#[]⟩, .int .i64 0] 53))
  have HB1 := hide (below_alloc' (w := w) (.cells (mL m a c b d).toArray 27))
  have HB := hide ((below_alloc' (w := w) (.cells (mL m a c b d).toArray 27)).alloc (by simp) (.cells #[.string ⟨#[]⟩, .int .i64 0] 53))
  have HL := hide (mL_len hf.root a c b d)
  have hz := doc_zero (w.alloc (.cells (mL m a c b d).toArray 27))
  have hsz : (w.alloc (.cells (mL m a c b d).toArray 27)).heap.size = w.heap.size + 1 := by simp
  rw [hsz] at hz
  have H0 := hide (DS.start hz)
  have HF := hide hf
  have HN := hide hn
  have HTX := hide ht
  have HS1 := hide s1
  have HS2 := hide s2
  have HS1' := hide (s1.after (unhide HB))
  have HS2' := hide (s2.after (unhide HB))
  have KC := hide (refCheckM_any m a b c d _ hf (unhide HS1') (unhide HS2'))
  have HSZ : Hid (w.heap.size + 1 = (w.alloc (.cells (mL m a c b d).toArray 27)).heap.size) := hide hsz.symm
  have HNE : Hid (w.heap.size ≠ w.heap.size + 1) := hide (by omega)
  have HC : Hid (∀ {st : St} {W : World}, DS (w.heap.size + 1) 53 ((w.alloc (.cells (mL m a c b d).toArray 27)).alloc (.cells #[.string ⟨#[]⟩, .int .i64 0] 53)) st W → VRow W w.heap.size 27 (mL m a c b d)) := hide fun h => h.row (unhide HR) (by omega)
  have HZ : Hid (∀ {st : St} {W : World}, DS (w.heap.size + 1) 53 ((w.alloc (.cells (mL m a c b d).toArray 27)).alloc (.cells #[.string ⟨#[]⟩, .int .i64 0] 53)) st W → Below w.heap.size w W) := hide fun h => (unhide HB).trans (h.below (unhide HB).size (by omega))
  have HK := hide hk
  clear hz hsz hf hn ht s1 s2 hk
  go_enter Try.func11, Try.ntmps11
  go_wp2_with ((with_reducible refine at27 ?_); (refine load_msg (by rfl) (.tmp 1) (by rfl) w.heap.size (by rfl) _ (unhide HR) (unhide HL) ?_))
  refine (unhide KC).mono ?_
  rintro e w1 ⟨rfl, hb⟩
  have H1 := hide ((unhide H0).after hb)
  clear hb
  go_wp2_with fail
  refine ((unhide H1).call fun hx => refFailW_any _ _ (checkM m) _ hx).mono ?_
  rintro e w2 ⟨rfl, hs⟩
  have H2 := hide hs
  have HL2 : Hid ((fail ([], 0) (checkM m)).1.length ≤ 0) := hide (by rw [fail_len]; exact Nat.le_refl _)
  clear hs
  have x0 := m0 (unhide HC (unhide H2))
  go_wp2_with fail
  refine ((unhide H2).call fun hx => refNumberW_any _ _ m.kind (by have := unhide HL2; omega) _ hx).mono ?_
  rintro e w3 ⟨rfl, hs⟩
  have H3 := hide hs
  have HL3 : Hid ((wNumber (fail ([], 0) (checkM m)) m.kind).1.length ≤ 5) := hide (by have h1 := unhide HL2; have h2 := wNumber_len (fail ([], 0) (checkM m)) m.kind; omega)
  clear hs x0
  have x1 := m1 (unhide HC (unhide H3))
  go_wp2_with fail
  refine ((unhide H3).call fun hx => refNumberW_any _ _ m.frm (by have := unhide HL3; omega) _ hx).mono ?_
  rintro e w4 ⟨rfl, hs⟩
  have H4 := hide hs
  have HL4 : Hid ((wNumber (wNumber (fail ([], 0) (checkM m)) m.kind) m.frm).1.length ≤ 10) := hide (by have h1 := unhide HL3; have h2 := wNumber_len (wNumber (fail ([], 0) (checkM m)) m.kind) m.frm; omega)
  clear hs x1
  have x2 := m2 (unhide HC (unhide H4))
  go_wp2_with fail
  refine ((unhide H4).call fun hx => refNumberW_any _ _ m.dst (by have := unhide HL4; omega) _ hx).mono ?_
  rintro e w5 ⟨rfl, hs⟩
  have H5 := hide hs
  have HL5 : Hid ((wNumber (wNumber (wNumber (fail ([], 0) (checkM m)) m.kind) m.frm) m.dst).1.length ≤ 15) := hide (by have h1 := unhide HL4; have h2 := wNumber_len (wNumber (wNumber (fail ([], 0) (checkM m)) m.kind) m.frm) m.dst; omega)
  clear hs x2
  have x3 := m3 (unhide HC (unhide H5))
  go_wp2_with fail
  refine ((unhide H5).call fun hx => refNumberW_any _ _ m.sid (by have := unhide HL5; omega) _ hx).mono ?_
  rintro e w6 ⟨rfl, hs⟩
  have H6 := hide hs
  have HL6 : Hid ((wNumber (wNumber (wNumber (wNumber (fail ([], 0) (checkM m)) m.kind) m.frm) m.dst) m.sid).1.length ≤ 20) := hide (by have h1 := unhide HL5; have h2 := wNumber_len (wNumber (wNumber (wNumber (fail ([], 0) (checkM m)) m.kind) m.frm) m.dst) m.sid; omega)
  clear hs x3
  have x0 := m0 (unhide HC (unhide H6))
  rw [unhide HK] at x0
  go_wp2_with ((with_reducible refine at23 ?_); (refine load_root (by rfl) _ (by rfl) w.heap.size (by rfl) m.root (m6 (unhide HC (unhide H6))) (unhide HF).root ?_))
  refine ((unhide H6).call fun hx => refDigestW_any _ _ m.root (unhide HF).root (by have := unhide HL6; omega) _ hx).mono ?_
  rintro e w7 ⟨rfl, hs⟩
  have H7 := hide hs
  have HL7 : Hid ((wDigest (wNumber (wNumber (wNumber (wNumber (fail ([], 0) (checkM m)) m.kind) m.frm) m.dst) m.sid) m.root).1.length ≤ 52) := hide (by have h1 := unhide HL6; have h2 := wDigest_len (wNumber (wNumber (wNumber (wNumber (fail ([], 0) (checkM m)) m.kind) m.frm) m.dst) m.sid) (unhide HF).root; omega)
  clear hs
  have x5 := m5 (unhide HC (unhide H7))
  go_wp2_with fail
  refine ((unhide H7).call fun hx => refTextW_any _ _ m.path (by have := (unhide HF).path; omega) (by have := unhide HL7; omega) _ hx).mono ?_
  rintro e w8 ⟨rfl, hs⟩
  have H8 := hide hs
  have HL8 : Hid ((wText (wDigest (wNumber (wNumber (wNumber (wNumber (fail ([], 0) (checkM m)) m.kind) m.frm) m.dst) m.sid) m.root) m.path).1.length ≤ 65593) := hide (by have h1 := unhide HL7; have h2 := (wText_len (wDigest (wNumber (wNumber (wNumber (wNumber (fail ([], 0) (checkM m)) m.kind) m.frm) m.dst) m.sid) m.root) m.path).1; omega)
  clear hs x5
  go_wp2_with fail
  refine (refDoneW_any _ _ _ (unhide H8).1).mono ?_
  rintro e w21 ⟨rfl, hb⟩
  have HB21 := hide (below_grow (unhide HZ (unhide H8)) (Nat.le_refl _) hb)
  clear hb
  go_wp2_with fail
  go_ret2
  exact ⟨rfl, unhide HB21⟩

set_option maxRecDepth 100000 in
set_option maxHeartbeats 2000000 in
theorem refBytes_4 (m : Msg) (a b : Option Addr) (c d : Nat) (w : World) (hf : FewM m) (hn : m.rows.length ≤ 70) (ht : m.text.size ≤ 70000) (s1 : Sl w a m.ctx) (s2 : RL w b m.rows) (hk : m.kind = 4) :
    Calls Try.prog 11 #[.agg (mL m a c b d).toArray] w fun e w' => e = .returned (.tuple #[.string (str (told (wText (wText (wHead (fail ([], 0) (checkM m)) m) m.path) m.text))), .int .i64 (wText (wText (wHead (fail ([], 0) (checkM m)) m) m.path) m.text).2]) ∧ Below w.heap.size w w' := by
  have HR := hide ((VRow.new w 27 (mL m a c b d)).alloc (.cells #[.string ⟨#[]⟩, .int .i64 0] 53))
  have HB1 := hide (below_alloc' (w := w) (.cells (mL m a c b d).toArray 27))
  have HB := hide ((below_alloc' (w := w) (.cells (mL m a c b d).toArray 27)).alloc (by simp) (.cells #[.string ⟨#[]⟩, .int .i64 0] 53))
  have HL := hide (mL_len hf.root a c b d)
  have hz := doc_zero (w.alloc (.cells (mL m a c b d).toArray 27))
  have hsz : (w.alloc (.cells (mL m a c b d).toArray 27)).heap.size = w.heap.size + 1 := by simp
  rw [hsz] at hz
  have H0 := hide (DS.start hz)
  have HF := hide hf
  have HN := hide hn
  have HTX := hide ht
  have HS1 := hide s1
  have HS2 := hide s2
  have HS1' := hide (s1.after (unhide HB))
  have HS2' := hide (s2.after (unhide HB))
  have KC := hide (refCheckM_any m a b c d _ hf (unhide HS1') (unhide HS2'))
  have HSZ : Hid (w.heap.size + 1 = (w.alloc (.cells (mL m a c b d).toArray 27)).heap.size) := hide hsz.symm
  have HNE : Hid (w.heap.size ≠ w.heap.size + 1) := hide (by omega)
  have HC : Hid (∀ {st : St} {W : World}, DS (w.heap.size + 1) 53 ((w.alloc (.cells (mL m a c b d).toArray 27)).alloc (.cells #[.string ⟨#[]⟩, .int .i64 0] 53)) st W → VRow W w.heap.size 27 (mL m a c b d)) := hide fun h => h.row (unhide HR) (by omega)
  have HZ : Hid (∀ {st : St} {W : World}, DS (w.heap.size + 1) 53 ((w.alloc (.cells (mL m a c b d).toArray 27)).alloc (.cells #[.string ⟨#[]⟩, .int .i64 0] 53)) st W → Below w.heap.size w W) := hide fun h => (unhide HB).trans (h.below (unhide HB).size (by omega))
  have HK := hide hk
  clear hz hsz hf hn ht s1 s2 hk
  go_enter Try.func11, Try.ntmps11
  go_wp2_with ((with_reducible refine at27 ?_); (refine load_msg (by rfl) (.tmp 1) (by rfl) w.heap.size (by rfl) _ (unhide HR) (unhide HL) ?_))
  refine (unhide KC).mono ?_
  rintro e w1 ⟨rfl, hb⟩
  have H1 := hide ((unhide H0).after hb)
  clear hb
  go_wp2_with fail
  refine ((unhide H1).call fun hx => refFailW_any _ _ (checkM m) _ hx).mono ?_
  rintro e w2 ⟨rfl, hs⟩
  have H2 := hide hs
  have HL2 : Hid ((fail ([], 0) (checkM m)).1.length ≤ 0) := hide (by rw [fail_len]; exact Nat.le_refl _)
  clear hs
  have x0 := m0 (unhide HC (unhide H2))
  go_wp2_with fail
  refine ((unhide H2).call fun hx => refNumberW_any _ _ m.kind (by have := unhide HL2; omega) _ hx).mono ?_
  rintro e w3 ⟨rfl, hs⟩
  have H3 := hide hs
  have HL3 : Hid ((wNumber (fail ([], 0) (checkM m)) m.kind).1.length ≤ 5) := hide (by have h1 := unhide HL2; have h2 := wNumber_len (fail ([], 0) (checkM m)) m.kind; omega)
  clear hs x0
  have x1 := m1 (unhide HC (unhide H3))
  go_wp2_with fail
  refine ((unhide H3).call fun hx => refNumberW_any _ _ m.frm (by have := unhide HL3; omega) _ hx).mono ?_
  rintro e w4 ⟨rfl, hs⟩
  have H4 := hide hs
  have HL4 : Hid ((wNumber (wNumber (fail ([], 0) (checkM m)) m.kind) m.frm).1.length ≤ 10) := hide (by have h1 := unhide HL3; have h2 := wNumber_len (wNumber (fail ([], 0) (checkM m)) m.kind) m.frm; omega)
  clear hs x1
  have x2 := m2 (unhide HC (unhide H4))
  go_wp2_with fail
  refine ((unhide H4).call fun hx => refNumberW_any _ _ m.dst (by have := unhide HL4; omega) _ hx).mono ?_
  rintro e w5 ⟨rfl, hs⟩
  have H5 := hide hs
  have HL5 : Hid ((wNumber (wNumber (wNumber (fail ([], 0) (checkM m)) m.kind) m.frm) m.dst).1.length ≤ 15) := hide (by have h1 := unhide HL4; have h2 := wNumber_len (wNumber (wNumber (fail ([], 0) (checkM m)) m.kind) m.frm) m.dst; omega)
  clear hs x2
  have x3 := m3 (unhide HC (unhide H5))
  go_wp2_with fail
  refine ((unhide H5).call fun hx => refNumberW_any _ _ m.sid (by have := unhide HL5; omega) _ hx).mono ?_
  rintro e w6 ⟨rfl, hs⟩
  have H6 := hide hs
  have HL6 : Hid ((wNumber (wNumber (wNumber (wNumber (fail ([], 0) (checkM m)) m.kind) m.frm) m.dst) m.sid).1.length ≤ 20) := hide (by have h1 := unhide HL5; have h2 := wNumber_len (wNumber (wNumber (wNumber (fail ([], 0) (checkM m)) m.kind) m.frm) m.dst) m.sid; omega)
  clear hs x3
  have x0 := m0 (unhide HC (unhide H6))
  rw [unhide HK] at x0
  have x5 := m5 (unhide HC (unhide H6))
  go_wp2_with fail
  refine ((unhide H6).call fun hx => refTextW_any _ _ m.path (by have := (unhide HF).path; omega) (by have := unhide HL6; omega) _ hx).mono ?_
  rintro e w7 ⟨rfl, hs⟩
  have H7 := hide hs
  have HL7 : Hid ((wText (wNumber (wNumber (wNumber (wNumber (fail ([], 0) (checkM m)) m.kind) m.frm) m.dst) m.sid) m.path).1.length ≤ 65561) := hide (by have h1 := unhide HL6; have h2 := (wText_len (wNumber (wNumber (wNumber (wNumber (fail ([], 0) (checkM m)) m.kind) m.frm) m.dst) m.sid) m.path).1; omega)
  clear hs x5
  have x40 := m40 (unhide HC (unhide H7)) (unhide HF).root
  go_wp2_with fail
  refine ((unhide H7).call fun hx => refTextW_any _ _ m.text (by have := unhide HTX; omega) (by have := unhide HL7; omega) _ hx).mono ?_
  rintro e w8 ⟨rfl, hs⟩
  have H8 := hide hs
  have HL8 : Hid ((wText (wText (wNumber (wNumber (wNumber (wNumber (fail ([], 0) (checkM m)) m.kind) m.frm) m.dst) m.sid) m.path) m.text).1.length ≤ 131102) := hide (by have h1 := unhide HL7; have h2 := (wText_len (wText (wNumber (wNumber (wNumber (wNumber (fail ([], 0) (checkM m)) m.kind) m.frm) m.dst) m.sid) m.path) m.text).1; omega)
  clear hs x40
  go_wp2_with fail
  refine (refDoneW_any _ _ _ (unhide H8).1).mono ?_
  rintro e w21 ⟨rfl, hb⟩
  have HB21 := hide (below_grow (unhide HZ (unhide H8)) (Nat.le_refl _) hb)
  clear hb
  go_wp2_with fail
  go_ret2
  exact ⟨rfl, unhide HB21⟩

set_option maxRecDepth 100000 in
set_option maxHeartbeats 2000000 in
theorem refBytes_6 (m : Msg) (a b : Option Addr) (c d : Nat) (w : World) (hf : FewM m) (hn : m.rows.length ≤ 70) (ht : m.text.size ≤ 70000) (s1 : Sl w a m.ctx) (s2 : RL w b m.rows) (hk : m.kind = 6) :
    Calls Try.prog 11 #[.agg (mL m a c b d).toArray] w fun e w' => e = .returned (.tuple #[.string (str (told (wFlag (wHead (fail ([], 0) (checkM m)) m) m.turn))), .int .i64 (wFlag (wHead (fail ([], 0) (checkM m)) m) m.turn).2]) ∧ Below w.heap.size w w' := by
  have HR := hide ((VRow.new w 27 (mL m a c b d)).alloc (.cells #[.string ⟨#[]⟩, .int .i64 0] 53))
  have HB1 := hide (below_alloc' (w := w) (.cells (mL m a c b d).toArray 27))
  have HB := hide ((below_alloc' (w := w) (.cells (mL m a c b d).toArray 27)).alloc (by simp) (.cells #[.string ⟨#[]⟩, .int .i64 0] 53))
  have HL := hide (mL_len hf.root a c b d)
  have hz := doc_zero (w.alloc (.cells (mL m a c b d).toArray 27))
  have hsz : (w.alloc (.cells (mL m a c b d).toArray 27)).heap.size = w.heap.size + 1 := by simp
  rw [hsz] at hz
  have H0 := hide (DS.start hz)
  have HF := hide hf
  have HN := hide hn
  have HTX := hide ht
  have HS1 := hide s1
  have HS2 := hide s2
  have HS1' := hide (s1.after (unhide HB))
  have HS2' := hide (s2.after (unhide HB))
  have KC := hide (refCheckM_any m a b c d _ hf (unhide HS1') (unhide HS2'))
  have HSZ : Hid (w.heap.size + 1 = (w.alloc (.cells (mL m a c b d).toArray 27)).heap.size) := hide hsz.symm
  have HNE : Hid (w.heap.size ≠ w.heap.size + 1) := hide (by omega)
  have HC : Hid (∀ {st : St} {W : World}, DS (w.heap.size + 1) 53 ((w.alloc (.cells (mL m a c b d).toArray 27)).alloc (.cells #[.string ⟨#[]⟩, .int .i64 0] 53)) st W → VRow W w.heap.size 27 (mL m a c b d)) := hide fun h => h.row (unhide HR) (by omega)
  have HZ : Hid (∀ {st : St} {W : World}, DS (w.heap.size + 1) 53 ((w.alloc (.cells (mL m a c b d).toArray 27)).alloc (.cells #[.string ⟨#[]⟩, .int .i64 0] 53)) st W → Below w.heap.size w W) := hide fun h => (unhide HB).trans (h.below (unhide HB).size (by omega))
  have HK := hide hk
  clear hz hsz hf hn ht s1 s2 hk
  go_enter Try.func11, Try.ntmps11
  go_wp2_with ((with_reducible refine at27 ?_); (refine load_msg (by rfl) (.tmp 1) (by rfl) w.heap.size (by rfl) _ (unhide HR) (unhide HL) ?_))
  refine (unhide KC).mono ?_
  rintro e w1 ⟨rfl, hb⟩
  have H1 := hide ((unhide H0).after hb)
  clear hb
  go_wp2_with fail
  refine ((unhide H1).call fun hx => refFailW_any _ _ (checkM m) _ hx).mono ?_
  rintro e w2 ⟨rfl, hs⟩
  have H2 := hide hs
  have HL2 : Hid ((fail ([], 0) (checkM m)).1.length ≤ 0) := hide (by rw [fail_len]; exact Nat.le_refl _)
  clear hs
  have x0 := m0 (unhide HC (unhide H2))
  go_wp2_with fail
  refine ((unhide H2).call fun hx => refNumberW_any _ _ m.kind (by have := unhide HL2; omega) _ hx).mono ?_
  rintro e w3 ⟨rfl, hs⟩
  have H3 := hide hs
  have HL3 : Hid ((wNumber (fail ([], 0) (checkM m)) m.kind).1.length ≤ 5) := hide (by have h1 := unhide HL2; have h2 := wNumber_len (fail ([], 0) (checkM m)) m.kind; omega)
  clear hs x0
  have x1 := m1 (unhide HC (unhide H3))
  go_wp2_with fail
  refine ((unhide H3).call fun hx => refNumberW_any _ _ m.frm (by have := unhide HL3; omega) _ hx).mono ?_
  rintro e w4 ⟨rfl, hs⟩
  have H4 := hide hs
  have HL4 : Hid ((wNumber (wNumber (fail ([], 0) (checkM m)) m.kind) m.frm).1.length ≤ 10) := hide (by have h1 := unhide HL3; have h2 := wNumber_len (wNumber (fail ([], 0) (checkM m)) m.kind) m.frm; omega)
  clear hs x1
  have x2 := m2 (unhide HC (unhide H4))
  go_wp2_with fail
  refine ((unhide H4).call fun hx => refNumberW_any _ _ m.dst (by have := unhide HL4; omega) _ hx).mono ?_
  rintro e w5 ⟨rfl, hs⟩
  have H5 := hide hs
  have HL5 : Hid ((wNumber (wNumber (wNumber (fail ([], 0) (checkM m)) m.kind) m.frm) m.dst).1.length ≤ 15) := hide (by have h1 := unhide HL4; have h2 := wNumber_len (wNumber (wNumber (fail ([], 0) (checkM m)) m.kind) m.frm) m.dst; omega)
  clear hs x2
  have x3 := m3 (unhide HC (unhide H5))
  go_wp2_with fail
  refine ((unhide H5).call fun hx => refNumberW_any _ _ m.sid (by have := unhide HL5; omega) _ hx).mono ?_
  rintro e w6 ⟨rfl, hs⟩
  have H6 := hide hs
  have HL6 : Hid ((wNumber (wNumber (wNumber (wNumber (fail ([], 0) (checkM m)) m.kind) m.frm) m.dst) m.sid).1.length ≤ 20) := hide (by have h1 := unhide HL5; have h2 := wNumber_len (wNumber (wNumber (wNumber (fail ([], 0) (checkM m)) m.kind) m.frm) m.dst) m.sid; omega)
  clear hs x3
  have x0 := m0 (unhide HC (unhide H6))
  rw [unhide HK] at x0
  have x4 := m4 (unhide HC (unhide H6))
  go_wp2_with fail
  refine ((unhide H6).call fun hx => refFlagW_any _ _ m.turn (by have := unhide HL6; omega) _ hx).mono ?_
  rintro e w7 ⟨rfl, hs⟩
  have H7 := hide hs
  have HL7 : Hid ((wFlag (wNumber (wNumber (wNumber (wNumber (fail ([], 0) (checkM m)) m.kind) m.frm) m.dst) m.sid) m.turn).1.length ≤ 21) := hide (by have h1 := unhide HL6; have h2 := wFlag_len (wNumber (wNumber (wNumber (wNumber (fail ([], 0) (checkM m)) m.kind) m.frm) m.dst) m.sid) m.turn; omega)
  clear hs x4
  go_wp2_with fail
  refine (refDoneW_any _ _ _ (unhide H7).1).mono ?_
  rintro e w21 ⟨rfl, hb⟩
  have HB21 := hide (below_grow (unhide HZ (unhide H7)) (Nat.le_refl _) hb)
  clear hb
  go_wp2_with fail
  go_ret2
  exact ⟨rfl, unhide HB21⟩

theorem refBytes_any (m : Msg) (a b : Option Addr) (c d : Nat) (w : World) (hf : FewM m) (hn : m.rows.length ≤ 70) (ht : m.text.size ≤ 70000) (s1 : Sl w a m.ctx) (s2 : RL w b m.rows) :
    Calls Try.prog 11 #[.agg (mL m a c b d).toArray] w fun e w' => e = .returned (.tuple #[.string (str (bytesM m).1), .int .i64 (bytesM m).2]) ∧ Below w.heap.size w w' := by
  rw [bytesM_is]
  dsimp only
  unfold wMsg
  by_cases h2 : m.kind = 2
  · rw [if_pos h2]; exact refBytes_2 m a b c d w hf hn ht s1 s2 h2
  rw [if_neg h2]
  by_cases h3 : m.kind = 3
  · rw [if_pos h3]; exact refBytes_3 m a b c d w hf hn ht s1 s2 h3
  rw [if_neg h3]
  by_cases h4 : m.kind = 4
  · rw [if_pos h4]; exact refBytes_4 m a b c d w hf hn ht s1 s2 h4
  rw [if_neg h4]
  by_cases h6 : m.kind = 6
  · rw [if_pos h6]; exact refBytes_6 m a b c d w hf hn ht s1 s2 h6
  rw [if_neg h6]
  exact refBytes_o m a b c d w hf hn ht s1 s2 m.kind rfl (by simpa using h2) (by simpa using h3) (by simpa using h4) (by simpa using h6)
end Go.Proofs.Ythecijjmgfempaa

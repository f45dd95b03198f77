/-
  A message put: through, told to the putter: Head.
-/
import Derived.Test.YthecijjmgfempaaT3o
namespace Go.Proofs.Ythecijjmgfempaa
open Go.RowKit

set_option maxRecDepth 100000 in
set_option maxHeartbeats 1000000 in
theorem throughP_2 {w : World} {p : Addr} {st : St} {own : Nat → Prop} {B : Nat} {m : Msg} {a b : Option Addr} {c d : Nat} (h : Wr w p st own) (hl : st.1.length ≤ 30000000) (w0 : World) (hb0 : Below w0.heap.size w0 w) (ho0 : ∀ g, own g → w0.heap.size ≤ g)
    (hB : ¬ own B) (hrow : VRow w B 27 (mL m a c b d)) (hf : FewM m) (hn : m.rows.length ≤ 64) (s1 : Sl w0 a m.ctx) (s2 : RL w0 b m.rows) (hk : m.kind = 2) (hk0 : kindErr 2 = 0) :
    Calls Try.prog 15 #[.pointer (some ⟨B, 0, none⟩), .iface 43 (.agg #[.pointer (some p)])] w (Turned Wr own p w (wRows (wVec (wDigest (wHead st m) m.root) m.ctx) m.rows) (.tuple #[])) := by
  have H0 := hide (WS.start h)
  have HBL := hide hrow.lt
  have HNB := hide hB
  have HL := hide hl
  have HF := hide hf
  have HNR := hide hn
  have HB0 := hide hb0
  have HO0 := hide ho0
  have HS1 := hide s1
  have HS2 := hide s2
  have HV : Hid (∀ {st' : St} {W : World}, WS own p w st' W → VRow W B 27 (mL m a c b d)) := hide fun h => h.row hrow hB
  have HC : Hid (∀ {st' : St} {W : World}, WS own p w st' W → W.cell? ⟨B, 0, none⟩ = some (.int .i64 2)) := hide fun h => by have h9 := m0 (h.row hrow hB); rw [hk] at h9; exact h9
  have HKF : Hid (∀ (own1 : Nat → Prop) (W : World) (st' : St), Wr W p st' own1 → Calls Try.prog 71 #[.pointer (some p), .int .i64 (kindErr 2)] W (Turned Wr own1 p W st' (.tuple #[]))) := hide fun own1 W st' hx => by
    have h9 := wfail_any hx (kindErr 2)
    have e : fail st' (kindErr 2) = st' := by rw [hk0, fail_zero]
    rw [e] at h9
    exact h9
  have hmf : ∀ (fn : Fn) (first cap : Array Value) (w : World), (Instr.makeFunc fn first cap).run Try.prog w = .ok (.func fn first cap) w := fun _ _ _ _ => rfl
  have hn_number : ∀ w, (nilAhead 220 43 (.agg #[.pointer (some p)]) "hearsay/message.number").run Try.prog w = .ok (some false) w := fun _ => by kernel_rfl
  have hm_number : ∀ w, (method 220 43 (.agg #[.pointer (some p)]) "hearsay/message.number").run Try.prog w = .ok (75, .agg #[.pointer (some p)]) w := fun _ => by kernel_rfl
  have hn_digest : ∀ w, (nilAhead 220 43 (.agg #[.pointer (some p)]) "hearsay/message.digest").run Try.prog w = .ok (some false) w := fun _ => by kernel_rfl
  have hm_digest : ∀ w, (method 220 43 (.agg #[.pointer (some p)]) "hearsay/message.digest").run Try.prog w = .ok (73, .agg #[.pointer (some p)]) w := fun _ => by kernel_rfl
  have hn_vector : ∀ w, (nilAhead 220 43 (.agg #[.pointer (some p)]) "hearsay/message.vector").run Try.prog w = .ok (some false) w := fun _ => by kernel_rfl
  have hm_vector : ∀ w, (method 220 43 (.agg #[.pointer (some p)]) "hearsay/message.vector").run Try.prog w = .ok (78, .agg #[.pointer (some p)]) w := fun _ => by kernel_rfl
  have hn_rows : ∀ w, (nilAhead 220 43 (.agg #[.pointer (some p)]) "hearsay/message.rows").run Try.prog w = .ok (some false) w := fun _ => by kernel_rfl
  have hm_rows : ∀ w, (method 220 43 (.agg #[.pointer (some p)]) "hearsay/message.rows").run Try.prog w = .ok (76, .agg #[.pointer (some p)]) w := fun _ => by kernel_rfl
  have hn_text : ∀ w, (nilAhead 220 43 (.agg #[.pointer (some p)]) "hearsay/message.text").run Try.prog w = .ok (some false) w := fun _ => by kernel_rfl
  have hm_text : ∀ w, (method 220 43 (.agg #[.pointer (some p)]) "hearsay/message.text").run Try.prog w = .ok (77, .agg #[.pointer (some p)]) w := fun _ => by kernel_rfl
  have hn_flag : ∀ w, (nilAhead 220 43 (.agg #[.pointer (some p)]) "hearsay/message.flag").run Try.prog w = .ok (some false) w := fun _ => by kernel_rfl
  have hm_flag : ∀ w, (method 220 43 (.agg #[.pointer (some p)]) "hearsay/message.flag").run Try.prog w = .ok (74, .agg #[.pointer (some p)]) w := fun _ => by kernel_rfl
  have hn_Fail : ∀ w, (nilAhead 220 43 (.agg #[.pointer (some p)]) "Fail").run Try.prog w = .ok (some false) w := fun _ => by kernel_rfl
  have hm_Fail : ∀ w, (method 220 43 (.agg #[.pointer (some p)]) "Fail").run Try.prog w = .ok (71, .pointer (some p)) w := fun _ => by kernel_rfl
  clear h hl hb0 ho0 hB hrow hf hn s1 s2 hk hk0
  go_enter Try.func15, Try.ntmps15
  go_wp2_with fail
  go_region_held3 (fun _ => True) (trivial)
    (first | (go_at_call 75; refine ((unhide H0).drew.call fun own1 hx ho => pnumber_any hx (by have := unhide HL; omega) (not_own (unhide HNB) (unhide HBL) ho) (m0 (unhide HV (unhide H0).drew)) 1073741824).mono ?_; rintro e w1 ⟨rfl, h1⟩))
  rename_i hHeld
  clear hHeld
  have H1 := hide h1
  clear h1
  go_wp2_with fail
  go_region_held3 (fun w' => w'.cell? ⟨B, 0, none⟩ = some (.int .i64 2)) (first | exact unhide HC (unhide H1).drew | exact unhide HC (by assumption) | assumption)
    (first | (go_at_call 29; refine (checkKind_any _ _).mono ?_; rintro e w2 ⟨rfl, rfl⟩) | (go_at_call 71; refine ((unhide H1).drew.call fun own1 hx _ => unhide HKF own1 _ _ hx).mono ?_; rintro e w2 ⟨rfl, h2⟩))
  all_goals
    rename_i hHeld
    clear hHeld
    have H2 := hide h2
    clear h2
    go_wp2_with fail
    go_region_held3 (fun _ => True) (trivial)
      (first | (go_at_call 75; refine ((unhide H2).drew.call fun own1 hx ho => pnumber_any hx (by have := unhide HL; have h20 := wNumber_len st m.kind; omega) (not_own (unhide HNB) (unhide HBL) ho) (m1 (unhide HV (unhide H2).drew)) 63).mono ?_; rintro e w3 ⟨rfl, h3⟩))
    rename_i hHeld
    clear hHeld
    have H3 := hide h3
    clear h3
    go_wp2_with fail
    go_region_held3 (fun _ => True) (trivial)
      (first | (go_at_call 75; refine ((unhide H3).drew.call fun own1 hx ho => pnumber_any hx (by have := unhide HL; have h20 := wNumber_len st m.kind; have h21 := wNumber_len (wNumber st m.kind) m.frm; omega) (not_own (unhide HNB) (unhide HBL) ho) (m2 (unhide HV (unhide H3).drew)) 63).mono ?_; rintro e w4 ⟨rfl, h4⟩))
    rename_i hHeld
    clear hHeld
    have H4 := hide h4
    clear h4
    go_wp2_with fail
    go_region_held3 (fun _ => True) (trivial)
      (first | (go_at_call 75; refine ((unhide H4).drew.call fun own1 hx ho => pnumber_any hx (by have := unhide HL; have h20 := wNumber_len st m.kind; have h21 := wNumber_len (wNumber st m.kind) m.frm; have h22 := wNumber_len (wNumber (wNumber st m.kind) m.frm) m.dst; omega) (not_own (unhide HNB) (unhide HBL) ho) (m3 (unhide HV (unhide H4).drew)) 1048576).mono ?_; rintro e w5 ⟨rfl, h5⟩))
    rename_i hHeld
    clear hHeld
    have H5 := hide h5
    clear h5
    have x0 := unhide HC (unhide H5)
    go_wp2_with fail
    go_region_held3 (fun _ => True) (trivial)
      (first | (go_at_call 73; refine ((unhide H5).drew.call fun own1 hx ho => pdigest_any hx (by have := unhide HL; have h20 := wNumber_len st m.kind; have h21 := wNumber_len (wNumber st m.kind) m.frm; have h22 := wNumber_len (wNumber (wNumber st m.kind) m.frm) m.dst; have h23 := wNumber_len (wNumber (wNumber (wNumber st m.kind) m.frm) m.dst) m.sid; omega) (not_own (unhide HNB) (unhide HBL) ho) (unhide HF).root (m6 (unhide HV (unhide H5).drew))).mono ?_; rintro e w6 ⟨rfl, h6⟩))
    rename_i hHeld
    clear hHeld
    have H6 := hide h6
    clear h6
    go_wp2_with fail
    go_region_held3 (fun _ => True) (trivial)
      (first | (go_at_call 78; refine ((unhide H6).drew.call fun own1 hx ho => pvector_any hx (by have := unhide HL; have h20 := wNumber_len st m.kind; have h21 := wNumber_len (wNumber st m.kind) m.frm; have h22 := wNumber_len (wNumber (wNumber st m.kind) m.frm) m.dst; have h23 := wNumber_len (wNumber (wNumber (wNumber st m.kind) m.frm) m.dst) m.sid; have h24 := wDigest_len (wNumber (wNumber (wNumber (wNumber st m.kind) m.frm) m.dst) m.sid) (unhide HF).root; omega) (not_own (unhide HNB) (unhide HBL) ho) w0 ((unhide HB0).trans ((unhide H6).drew.below (unhide HB0).size (unhide HO0))) (own_from (unhide HO0) (unhide HB0).size ho) a c (unhide HF).ctx (unhide HS1) (m38 (unhide HV (unhide H6).drew) (unhide HF).root)).mono ?_; rintro e w7 ⟨rfl, h7⟩))
    rename_i hHeld
    clear hHeld
    have H7 := hide h7
    clear h7
    go_wp2_with fail
    go_region_held3 (fun _ => True) (trivial)
      (first | (go_at_call 76; refine ((unhide H7).drew.call fun own1 hx ho => prows_any hx (by have := unhide HL; have h20 := wNumber_len st m.kind; have h21 := wNumber_len (wNumber st m.kind) m.frm; have h22 := wNumber_len (wNumber (wNumber st m.kind) m.frm) m.dst; have h23 := wNumber_len (wNumber (wNumber (wNumber st m.kind) m.frm) m.dst) m.sid; have h24 := wDigest_len (wNumber (wNumber (wNumber (wNumber st m.kind) m.frm) m.dst) m.sid) (unhide HF).root; have h25 := wVec_len (wDigest (wNumber (wNumber (wNumber (wNumber st m.kind) m.frm) m.dst) m.sid) m.root) m.ctx; omega) w0 ((unhide HB0).trans ((unhide H7).drew.below (unhide HB0).size (unhide HO0))) (own_from (unhide HO0) (unhide HB0).size ho) (not_own (unhide HNB) (unhide HBL) ho) b d m.rows (unhide HF).rows (unhide HNR) (unhide HS2) (m39 (unhide HV (unhide H7).drew) (unhide HF).root)).mono ?_; rintro e w8 ⟨rfl, h8⟩))
    rename_i hHeld
    clear hHeld
    have H8 := hide h8
    clear h8
    go_wp2_with fail
    go_end0
    exact unhide H8
end Go.Proofs.Ythecijjmgfempaa

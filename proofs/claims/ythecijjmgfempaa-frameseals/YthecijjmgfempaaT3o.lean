/-
  A message put: through, told to the putter: kinds that have no fields of their own.
-/
import Derived.Test.YthecijjmgfempaaT3
namespace Go.Proofs.Ythecijjmgfempaa
open Go.RowKit

def wHead (st : St) (m : Msg) : St := wNumber (wNumber (wNumber (wNumber st m.kind) m.frm) m.dst) m.sid
theorem wHead_len (st : St) (m : Msg) : (wHead st m).1.length ≤ st.1.length + 20 := by
  have h1 := wNumber_len st m.kind
  have h2 := wNumber_len (wNumber st m.kind) m.frm
  have h3 := wNumber_len (wNumber (wNumber st m.kind) m.frm) m.dst
  have h4 := wNumber_len (wNumber (wNumber (wNumber st m.kind) m.frm) m.dst) m.sid
  unfold wHead
  omega
theorem wDigest_len (st : St) {d : List UInt8} (hd : d.length = 32) : (wDigest st d).1.length ≤ st.1.length + 32 := by
  have h := wput_len st true d
  unfold wDigest
  simp only [if_true] at h
  omega
theorem WS.drew {own : Nat → Prop} {p : Addr} {w W : World} {st : St} (h : WS own p w st W) : WS own p w st W.drew := h.after (below_drew (Below.refl _ _))
theorem not_own {own own1 : Nat → Prop} {n B : Nat} (hB : ¬ own B) (hlt : B < n) (ho : ∀ g, own1 g → own g ∨ n ≤ g) : ¬ own1 B := fun h => by
  rcases ho B h with h1 | h1
  · exact hB h1
  · omega
theorem own_from {own own1 : Nat → Prop} {n k : Nat} (ho0 : ∀ g, own g → k ≤ g) (hk : k ≤ n) (ho : ∀ g, own1 g → own g ∨ n ≤ g) : ∀ g, own1 g → k ≤ g := fun g h => by
  rcases ho g h with h1 | h1
  · exact ho0 g h1
  · omega
/-- A message's bytes, behind what was put. -/
def wMsg (st : St) (m : Msg) : St :=
  if m.kind = 2 then wRows (wVec (wDigest (wHead st m) m.root) m.ctx) m.rows else if m.kind = 3 then wText (wDigest (wHead st m) m.root) m.path else if m.kind = 4 then wText (wText (wHead st m) m.path) m.text else if m.kind = 6 then wFlag (wHead st m) m.turn else wHead st m

set_option maxRecDepth 100000 in
set_option maxHeartbeats 1000000 in
theorem throughP_o {w : World} {p : Addr} {st : St} {own : Nat → Prop} {B : Nat} {m : Msg} {a b : Option Addr} {c d : Nat} {k : Int} (h : Wr w p st own) (hl : st.1.length ≤ 30000000) (w0 : World) (hb0 : Below w0.heap.size w0 w) (ho0 : ∀ g, own g → w0.heap.size ≤ g)
    (hB : ¬ own B) (hrow : VRow w B 27 (mL m a c b d)) (hf : FewM m) (hn : m.rows.length ≤ 64) (s1 : Sl w0 a m.ctx) (s2 : RL w0 b m.rows) (hk : m.kind = k) (hk0 : kindErr k = 0) (n2 : (k == 2) = false) (n3 : (k == 3) = false) (n4 : (k == 4) = false) (n6 : (k == 6) = false) :
    Calls Try.prog 15 #[.pointer (some ⟨B, 0, none⟩), .iface 43 (.agg #[.pointer (some p)])] w (Turned Wr own p w (wHead st m) (.tuple #[])) := by
  have H0 := hide (WS.start h)
  have HBL := hide hrow.lt
  have HNB := hide hB
  have HL := hide hl
  have HF := hide hf
  have HNR := hide hn
  have HB0 := hide hb0
  have HO0 := hide ho0
  have HS1 := hide s1
  have HS2 := hide s2
  have HV : Hid (∀ {st' : St} {W : World}, WS own p w st' W → VRow W B 27 (mL m a c b d)) := hide fun h => h.row hrow hB
  have HC : Hid (∀ {st' : St} {W : World}, WS own p w st' W → W.cell? ⟨B, 0, none⟩ = some (.int .i64 k)) := hide fun h => by have h9 := m0 (h.row hrow hB); rw [hk] at h9; exact h9
  have HKF : Hid (∀ (own1 : Nat → Prop) (W : World) (st' : St), Wr W p st' own1 → Calls Try.prog 71 #[.pointer (some p), .int .i64 (kindErr k)] W (Turned Wr own1 p W st' (.tuple #[]))) := hide fun own1 W st' hx => by
    have h9 := wfail_any hx (kindErr k)
    have e : fail st' (kindErr k) = st' := by rw [hk0, fail_zero]
    rw [e] at h9
    exact h9
  have hmf : ∀ (fn : Fn) (first cap : Array Value) (w : World), (Instr.makeFunc fn first cap).run Try.prog w = .ok (.func fn first cap) w := fun _ _ _ _ => rfl
  have hn_number : ∀ w, (nilAhead 220 43 (.agg #[.pointer (some p)]) "hearsay/message.number").run Try.prog w = .ok (some false) w := fun _ => by kernel_rfl
  have hm_number : ∀ w, (method 220 43 (.agg #[.pointer (some p)]) "hearsay/message.number").run Try.prog w = .ok (75, .agg #[.pointer (some p)]) w := fun _ => by kernel_rfl
  have hn_digest : ∀ w, (nilAhead 220 43 (.agg #[.pointer (some p)]) "hearsay/message.digest").run Try.prog w = .ok (some false) w := fun _ => by kernel_rfl
  have hm_digest : ∀ w, (method 220 43 (.agg #[.pointer (some p)]) "hearsay/message.digest").run Try.prog w = .ok (73, .agg #[.pointer (some p)]) w := fun _ => by kernel_rfl
  have hn_vector : ∀ w, (nilAhead 220 43 (.agg #[.pointer (some p)]) "hearsay/message.vector").run Try.prog w = .ok (some false) w := fun _ => by kernel_rfl
  have hm_vector : ∀ w, (method 220 43 (.agg #[.pointer (some p)]) "hearsay/message.vector").run Try.prog w = .ok (78, .agg #[.pointer (some p)]) w := fun _ => by kernel_rfl
  have hn_rows : ∀ w, (nilAhead 220 43 (.agg #[.pointer (some p)]) "hearsay/message.rows").run Try.prog w = .ok (some false) w := fun _ => by kernel_rfl
  have hm_rows : ∀ w, (method 220 43 (.agg #[.pointer (some p)]) "hearsay/message.rows").run Try.prog w = .ok (76, .agg #[.pointer (some p)]) w := fun _ => by kernel_rfl
  have hn_text : ∀ w, (nilAhead 220 43 (.agg #[.pointer (some p)]) "hearsay/message.text").run Try.prog w = .ok (some false) w := fun _ => by kernel_rfl
  have hm_text : ∀ w, (method 220 43 (.agg #[.pointer (some p)]) "hearsay/message.text").run Try.prog w = .ok (77, .agg #[.pointer (some p)]) w := fun _ => by kernel_rfl
  have hn_flag : ∀ w, (nilAhead 220 43 (.agg #[.pointer (some p)]) "hearsay/message.flag").run Try.prog w = .ok (some false) w := fun _ => by kernel_rfl
  have hm_flag : ∀ w, (method 220 43 (.agg #[.pointer (some p)]) "hearsay/message.flag").run Try.prog w = .ok (74, .agg #[.pointer (some p)]) w := fun _ => by kernel_rfl
  have hn_Fail : ∀ w, (nilAhead 220 43 (.agg #[.pointer (some p)]) "Fail").run Try.prog w = .ok (some false) w := fun _ => by kernel_rfl
  have hm_Fail : ∀ w, (method 220 43 (.agg #[.pointer (some p)]) "Fail").run Try.prog w = .ok (71, .pointer (some p)) w := fun _ => by kernel_rfl
  clear h hl hb0 ho0 hB hrow hf hn s1 s2 hk hk0
  go_enter Try.func15, Try.ntmps15
  go_wp2_with fail
  go_region_held3 (fun _ => True) (trivial)
    (first | (go_at_call 75; refine ((unhide H0).drew.call fun own1 hx ho => pnumber_any hx (by have := unhide HL; omega) (not_own (unhide HNB) (unhide HBL) ho) (m0 (unhide HV (unhide H0).drew)) 1073741824).mono ?_; rintro e w1 ⟨rfl, h1⟩))
  rename_i hHeld
  clear hHeld
  have H1 := hide h1
  clear h1
  go_wp2_with fail
  go_region_held3 (fun w' => w'.cell? ⟨B, 0, none⟩ = some (.int .i64 k)) (first | exact unhide HC (unhide H1).drew | exact unhide HC (by assumption) | assumption)
    (first | (go_at_call 29; refine (checkKind_any _ _).mono ?_; rintro e w2 ⟨rfl, rfl⟩) | (go_at_call 71; refine ((unhide H1).drew.call fun own1 hx _ => unhide HKF own1 _ _ hx).mono ?_; rintro e w2 ⟨rfl, h2⟩))
  all_goals
    rename_i hHeld
    clear hHeld
    have H2 := hide h2
    clear h2
    go_wp2_with fail
    go_region_held3 (fun _ => True) (trivial)
      (first | (go_at_call 75; refine ((unhide H2).drew.call fun own1 hx ho => pnumber_any hx (by have := unhide HL; have h20 := wNumber_len st m.kind; omega) (not_own (unhide HNB) (unhide HBL) ho) (m1 (unhide HV (unhide H2).drew)) 63).mono ?_; rintro e w3 ⟨rfl, h3⟩))
    rename_i hHeld
    clear hHeld
    have H3 := hide h3
    clear h3
    go_wp2_with fail
    go_region_held3 (fun _ => True) (trivial)
      (first | (go_at_call 75; refine ((unhide H3).drew.call fun own1 hx ho => pnumber_any hx (by have := unhide HL; have h20 := wNumber_len st m.kind; have h21 := wNumber_len (wNumber st m.kind) m.frm; omega) (not_own (unhide HNB) (unhide HBL) ho) (m2 (unhide HV (unhide H3).drew)) 63).mono ?_; rintro e w4 ⟨rfl, h4⟩))
    rename_i hHeld
    clear hHeld
    have H4 := hide h4
    clear h4
    go_wp2_with fail
    go_region_held3 (fun _ => True) (trivial)
      (first | (go_at_call 75; refine ((unhide H4).drew.call fun own1 hx ho => pnumber_any hx (by have := unhide HL; have h20 := wNumber_len st m.kind; have h21 := wNumber_len (wNumber st m.kind) m.frm; have h22 := wNumber_len (wNumber (wNumber st m.kind) m.frm) m.dst; omega) (not_own (unhide HNB) (unhide HBL) ho) (m3 (unhide HV (unhide H4).drew)) 1048576).mono ?_; rintro e w5 ⟨rfl, h5⟩))
    rename_i hHeld
    clear hHeld
    have H5 := hide h5
    clear h5
    have x0 := unhide HC (unhide H5)
    go_wp2_with fail
    go_end0
    exact unhide H5
end Go.Proofs.Ythecijjmgfempaa

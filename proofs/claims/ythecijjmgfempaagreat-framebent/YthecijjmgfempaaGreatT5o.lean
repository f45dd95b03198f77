/-
  A message taken: through, told to the taker: kinds that have no fields of their own.
-/
import Derived.Test.YthecijjmgfempaaGreatT4r
namespace Go.Proofs.YthecijjmgfempaaGreat
open Go.RowKit

/-- What all messages have, behind the kind. -/
def rHS (k : Int) (S : St) : St := (rNumber (rNumber (rNumber (fail S (kindErr k)) 63).2 63).2 1048576).2
def rH (k : Int) (S : St) : Msg := { zeroM with kind := k, frm := (rNumber (fail S (kindErr k)) 63).1, dst := (rNumber (rNumber (fail S (kindErr k)) 63).2 63).1, sid := (rNumber (rNumber (rNumber (fail S (kindErr k)) 63).2 63).2 1048576).1 }
def rBody (k : Int) (S : St) : Msg × St :=
  if k = 2 then ({ rH k S with root := (rDigest (rHS k S)).1, ctx := (rVec (rDigest (rHS k S)).2).1, rows := (rRows (rVec (rDigest (rHS k S)).2).2).1 }, (rRows (rVec (rDigest (rHS k S)).2).2).2)
  else if k = 3 then ({ rH k S with root := (rDigest (rHS k S)).1, path := str (rText (rDigest (rHS k S)).2 51).1 }, (rText (rDigest (rHS k S)).2 51).2)
  else if k = 4 then ({ rH k S with path := str (rText (rHS k S) 51).1, text := str (rText (rText (rHS k S) 51).2 65536).1 }, (rText (rText (rHS k S) 51).2 65536).2)
  else if k = 6 then ({ rH k S with turn := (rFlag (rHS k S)).1 }, (rFlag (rHS k S)).2)
  else (rH k S, rHS k S)
/-- The message that bytes are, and what is left of them. -/
def rMsg (st : St) : Msg × St := rBody (rNumber st 1073741824).1 (rNumber st 1073741824).2
/-- A message that lies at B, made of bytes; its lists are of the call's own. -/
def TMsg (B q : Nat) (w : World) (x : Msg × St) (e : Ending) (w' : World) : Prop :=
  e = .returned (.tuple #[]) ∧ ∃ a c b d, TS B q w x.2 x.1 a c b d w' ∧ x.1.ctx.length ≤ c ∧ x.1.rows.length ≤ d ∧ Sl w' a x.1.ctx ∧ Fresh w.heap.size a x.1.ctx ∧ RL w' b x.1.rows ∧ RProv (fun g => w.heap.size ≤ g) w' b x.1.rows
theorem Sl.besideO {own : Nat → Prop} {w w' : World} {a : Option Addr} {ds : List Vc.D} (h : Sl w a ds) (hb : Beside own w w') (hn : ∀ ad, a = some ad → 0 < ds.length → ¬ own ad.block) : Sl w' a ds := fun h0 => by
  obtain ⟨g, o, rfl, hg, hc⟩ := h h0
  have hg' : ¬ own g := hn _ rfl h0
  refine ⟨g, o, rfl, Nat.lt_of_lt_of_le hg hb.size, fun j d hj => ?_⟩
  exact ⟨cell_beside (q := ⟨g, o + j * 2, Option.none⟩) hb hg' (hc j d hj).1, cell_beside (q := ⟨g, o + j * 2 + 1, Option.none⟩) hb hg' (hc j d hj).2⟩
theorem fresh_two {q B n : Nat} {a : Option Addr} {ds : List Vc.D} (h : Fresh n a ds) (hq : q < n) (hB : B < n) : ∀ ad, a = some ad → 0 < ds.length → ¬ two q B ad.block := fun ad e h0 h1 => by
  have h2 := h ad e h0
  rcases h1 with h1 | h1 <;> omega
theorem tmsg_plain {B q : Nat} {w w' : World} {st : St} {m : Msg} {a b : Option Addr} {c d : Nat} (h : TS B q w st m a c b d w') (hc : m.ctx = []) (hr : m.rows = []) : TMsg B q w (m, st) (.returned (.tuple #[])) w' :=
  ⟨rfl, a, c, b, d, h, by rw [hc]; exact Nat.zero_le _, by rw [hr]; exact Nat.zero_le _, by rw [hc]; exact Sl.none _ _, by rw [hc]; exact fun _ _ h0 => absurd h0 (Nat.lt_irrefl _), by rw [hr]; exact RL.none _ _, by rw [hr]; exact RProv.none _ _ _⟩

set_option maxRecDepth 100000 in
set_option maxHeartbeats 2000000 in
theorem throughT_o {w : World} {B q : Nat} {st S : St} {k : Int} (hr : VRow w B 28 mZ) (h : Doc w q 82 st) (hs : st.1.length ≤ 50000000) (hne : B ≠ q) (hx : rNumber st 1073741824 = (k, S)) (n2 : (k == 2) = false) (n3 : (k == 3) = false) (n4 : (k == 4) = false) (n6 : (k == 6) = false) :
    Calls Tryz.prog 42 #[.pointer (some ⟨B, 0, none⟩), .iface 89 (.agg #[.pointer (some ⟨q, 0, none⟩)])] w (TMsg B q w (rH k S, (rHS k S))) := by
  have H0 : Hid (TS B q w st zeroM none 0 none 0 w) := hide (TS.start hr h)
  have HBL := hide hr.lt
  have HQL := hide h.lt
  have HNE := hide hne
  have HL0 := hide hs
  have hl1 := rNumber_len st 1073741824
  rw [hx] at hl1
  have HL1 : Hid (S.1.length ≤ 50000000) := hide (Nat.le_trans hl1 hs)
  have K0 := hide fun W (hr : VRow W B 28 (mL zeroM none 0 none 0)) (hd : Doc W q 82 st) => tnumber0_any hr hd hs hne zeroM_root 1073741824
  rw [hx] at K0
  have hmf : ∀ (fn : Fn) (first cap : Array Value) (w : World), (Instr.makeFunc fn first cap).run Tryz.prog w = .ok (.func fn first cap) w := fun _ _ _ _ => rfl
  have hn_number : ∀ w, (nilAhead 262 89 (.agg #[.pointer (some ⟨q, 0, none⟩)]) "hearsay/message.number").run Tryz.prog w = .ok (some false) w := fun _ => by kernel_rfl
  have hm_number : ∀ w, (method 262 89 (.agg #[.pointer (some ⟨q, 0, none⟩)]) "hearsay/message.number").run Tryz.prog w = .ok (123, .agg #[.pointer (some ⟨q, 0, none⟩)]) w := fun _ => by kernel_rfl
  have hn_digest : ∀ w, (nilAhead 262 89 (.agg #[.pointer (some ⟨q, 0, none⟩)]) "hearsay/message.digest").run Tryz.prog w = .ok (some false) w := fun _ => by kernel_rfl
  have hm_digest : ∀ w, (method 262 89 (.agg #[.pointer (some ⟨q, 0, none⟩)]) "hearsay/message.digest").run Tryz.prog w = .ok (121, .agg #[.pointer (some ⟨q, 0, none⟩)]) w := fun _ => by kernel_rfl
  have hn_vector : ∀ w, (nilAhead 262 89 (.agg #[.pointer (some ⟨q, 0, none⟩)]) "hearsay/message.vector").run Tryz.prog w = .ok (some false) w := fun _ => by kernel_rfl
  have hm_vector : ∀ w, (method 262 89 (.agg #[.pointer (some ⟨q, 0, none⟩)]) "hearsay/message.vector").run Tryz.prog w = .ok (126, .agg #[.pointer (some ⟨q, 0, none⟩)]) w := fun _ => by kernel_rfl
  have hn_rows : ∀ w, (nilAhead 262 89 (.agg #[.pointer (some ⟨q, 0, none⟩)]) "hearsay/message.rows").run Tryz.prog w = .ok (some false) w := fun _ => by kernel_rfl
  have hm_rows : ∀ w, (method 262 89 (.agg #[.pointer (some ⟨q, 0, none⟩)]) "hearsay/message.rows").run Tryz.prog w = .ok (124, .agg #[.pointer (some ⟨q, 0, none⟩)]) w := fun _ => by kernel_rfl
  have hn_text : ∀ w, (nilAhead 262 89 (.agg #[.pointer (some ⟨q, 0, none⟩)]) "hearsay/message.text").run Tryz.prog w = .ok (some false) w := fun _ => by kernel_rfl
  have hm_text : ∀ w, (method 262 89 (.agg #[.pointer (some ⟨q, 0, none⟩)]) "hearsay/message.text").run Tryz.prog w = .ok (125, .agg #[.pointer (some ⟨q, 0, none⟩)]) w := fun _ => by kernel_rfl
  have hn_flag : ∀ w, (nilAhead 262 89 (.agg #[.pointer (some ⟨q, 0, none⟩)]) "hearsay/message.flag").run Tryz.prog w = .ok (some false) w := fun _ => by kernel_rfl
  have hm_flag : ∀ w, (method 262 89 (.agg #[.pointer (some ⟨q, 0, none⟩)]) "hearsay/message.flag").run Tryz.prog w = .ok (122, .agg #[.pointer (some ⟨q, 0, none⟩)]) w := fun _ => by kernel_rfl
  have hn_Fail : ∀ w, (nilAhead 262 89 (.agg #[.pointer (some ⟨q, 0, none⟩)]) "Fail").run Tryz.prog w = .ok (some false) w := fun _ => by kernel_rfl
  have hm_Fail : ∀ w, (method 262 89 (.agg #[.pointer (some ⟨q, 0, none⟩)]) "Fail").run Tryz.prog w = .ok (67, .pointer (some ⟨q, 0, none⟩)) w := fun _ => by kernel_rfl
  clear h hr hs hne hx hl1
  go_enter Tryz.func42, Tryz.ntmps42
  go_wp2_with fail
  go_region_held3 (fun _ => True) (trivial)
    (first | (go_at_call 123; refine ((unhide H0).drew.call fun hr hd => unhide K0 _ hr hd).mono ?_; rintro e w1 ⟨rfl, h1⟩))
  rename_i hHeld
  clear hHeld
  have H1 := hide h1
  clear h1
  go_wp2_with fail
  have c0 := m0 (unhide H1).drew.row
  dsimp only at c0
  have C0 := hide c0
  clear c0
  go_region_held3 (fun w' => w'.cell? ⟨B, 0, none⟩ = some (.int .i64 k)) (first | exact unhide C0 | exact m0 (TS.row (by assumption)) | assumption)
    (first | (go_at_call 58; refine (checkKind_any _ _).mono ?_; rintro e w2 ⟨rfl, rfl⟩) | (go_at_call 67; refine ((unhide H1).drew.call fun hr hd => tfail_any hr hd (unhide HNE) (kindErr k)).mono ?_; rintro e w2 ⟨rfl, h2⟩))
  all_goals
    rename_i hHeld
    clear hHeld
    have H2 := hide h2
    clear h2
    have HL2 : Hid ((fail S (kindErr k)).1.length ≤ 50000000) := hide (Nat.le_trans (Nat.le_of_eq (fail_len _ _)) (unhide HL1))
    go_wp2_with fail
    go_region_held3 (fun _ => True) (trivial)
      (first | (go_at_call 123; refine ((unhide H2).drew.call fun hr hd => tnumber1_any hr hd (unhide HL2) (unhide HNE) rfl 63).mono ?_; rintro e w3 ⟨rfl, h3⟩))
    rename_i hHeld
    clear hHeld
    have H3 := hide h3
    clear h3
    have HL3 : Hid ((rNumber (fail S (kindErr k)) 63).2.1.length ≤ 50000000) := hide (Nat.le_trans (rNumber_len _ _) (unhide HL2))
    go_wp2_with fail
    go_region_held3 (fun _ => True) (trivial)
      (first | (go_at_call 123; refine ((unhide H3).drew.call fun hr hd => tnumber2_any hr hd (unhide HL3) (unhide HNE) rfl 63).mono ?_; rintro e w4 ⟨rfl, h4⟩))
    rename_i hHeld
    clear hHeld
    have H4 := hide h4
    clear h4
    have HL4 : Hid ((rNumber (rNumber (fail S (kindErr k)) 63).2 63).2.1.length ≤ 50000000) := hide (Nat.le_trans (rNumber_len _ _) (unhide HL3))
    go_wp2_with fail
    go_region_held3 (fun _ => True) (trivial)
      (first | (go_at_call 123; refine ((unhide H4).drew.call fun hr hd => tnumber3_any hr hd (unhide HL4) (unhide HNE) rfl 1048576).mono ?_; rintro e w5 ⟨rfl, h5⟩))
    rename_i hHeld
    clear hHeld
    have H5 := hide h5
    clear h5
    have HL5 : Hid ((rNumber (rNumber (rNumber (fail S (kindErr k)) 63).2 63).2 1048576).2.1.length ≤ 50000000) := hide (Nat.le_trans (rNumber_len _ _) (unhide HL4))
    have x0 := m0 (unhide H5).row
    dsimp only at x0
    go_wp2_with fail
    go_end0
    exact tmsg_plain (unhide H5) rfl rfl
end Go.Proofs.YthecijjmgfempaaGreat

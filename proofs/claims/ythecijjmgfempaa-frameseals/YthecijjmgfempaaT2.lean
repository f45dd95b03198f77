/-
  A message's own fields made zero: through, told to the blanker.
-/
import Derived.Test.YthecijjmgfempaaT1
import Derived.Deep.RegionHeld3
namespace Go.Proofs.Ythecijjmgfempaa
open Go.RowKit

def kindErr (k : Int) : Int := if k < 1 ∨ 6 < k then 15 else 0
set_option maxRecDepth 100000 in
set_option maxHeartbeats 400000 in
theorem checkKind_any (k : Int) (w : World) : Calls Try.prog 29 #[.int .i64 k] w fun e w' => e = .returned (.int .i64 (kindErr k)) ∧ w' = w := by
  unfold kindErr
  by_cases h1 : k < 1
  · rw [if_pos (Or.inl h1)]
    go_enter Try.func29, Try.ntmps29
    go_wp2_with fail
    go_ret
    exact ⟨rfl, rfl⟩
  by_cases h2 : 6 < k
  · rw [if_pos (Or.inr h2)]
    go_enter Try.func29, Try.ntmps29
    go_wp2_with fail
    go_ret
    exact ⟨rfl, rfl⟩
  rw [if_neg (by omega)]
  go_enter Try.func29, Try.ntmps29
  go_wp2_with fail
  go_ret
  exact ⟨rfl, rfl⟩

/-- What has come of a message that lies at B. -/
def BS (B : Nat) (w : World) (m : Msg) (a : Option Addr) (c : Nat) (b : Option Addr) (d : Nat) (W : World) : Prop := VRow W B 27 (mL m a c b d) ∧ Beside (· = B) w W
theorem BS.call {B : Nat} {w W : World} {m m' : Msg} {a b a' b' : Option Addr} {c d c' d' f : Nat} {args : Array Value} (h : BS B w m a c b d W) (K : VRow W B 27 (mL m a c b d) → Calls Try.prog f args W (Made B W m' a' c' b' d')) :
    Calls Try.prog f args W fun e w' => e = .returned (.tuple #[]) ∧ BS B w m' a' c' b' d' w' := (K h.1).mono fun _ _ hm => ⟨hm.1, hm.2.1, h.2.trans hm.2.2⟩
theorem BS.drew {B : Nat} {w W : World} {m : Msg} {a b : Option Addr} {c d : Nat} (h : BS B w m a c b d W) : BS B w m a c b d W.drew := ⟨h.1, h.2.trans (beside_of (below_drew (Below.refl _ _)))⟩
theorem BS.cell0 {B : Nat} {w W : World} {m : Msg} {a b : Option Addr} {c d : Nat} (h : BS B w m a c b d W) {k : Int} (hk : m.kind = k) : W.cell? ⟨B, 0, none⟩ = some (.int .i64 k) := by subst hk; exact m0 h.1
def blankM (m : Msg) : Msg :=
  if m.kind = 2 then { m with root := zero32, ctx := [], rows := [] } else if m.kind = 3 then { m with root := zero32, path := ⟨#[]⟩ } else if m.kind = 4 then { m with path := ⟨#[]⟩, text := ⟨#[]⟩ } else if m.kind = 6 then { m with turn := false } else m

set_option maxRecDepth 100000 in
set_option maxHeartbeats 1000000 in
theorem throughB_2 (w : World) (B : Nat) (m : Msg) (a b : Option Addr) (c d : Nat) (hr : m.root.length = 32) (hk : m.kind = 2) (h : VRow w B 27 (mL m a c b d)) :
    Calls Try.prog 15 #[.pointer (some ⟨B, 0, none⟩), .iface 88 (.agg #[])] w (Made B w { m with root := zero32, ctx := [], rows := [] } none 0 none 0) := by
  have H0 : Hid (BS B w m a c b d w) := hide ⟨h, Beside.refl _ _⟩
  have HK := hide hk
  have HRT := hide hr
  have hmf : ∀ (fn : Fn) (first cap : Array Value) (w : World), (Instr.makeFunc fn first cap).run Try.prog w = .ok (.func fn first cap) w := fun _ _ _ _ => rfl
  have hn_number : ∀ w, (nilAhead 220 88 (.agg #[]) "hearsay/message.number").run Try.prog w = .ok (some false) w := fun _ => by kernel_rfl
  have hm_number : ∀ w, (method 220 88 (.agg #[]) "hearsay/message.number").run Try.prog w = .ok (89, .agg #[]) w := fun _ => by kernel_rfl
  have hn_Fail : ∀ w, (nilAhead 220 88 (.agg #[]) "Fail").run Try.prog w = .ok (some false) w := fun _ => by kernel_rfl
  have hm_Fail : ∀ w, (method 220 88 (.agg #[]) "Fail").run Try.prog w = .ok (86, .agg #[]) w := fun _ => by kernel_rfl
  have hn_digest : ∀ w, (nilAhead 220 88 (.agg #[]) "hearsay/message.digest").run Try.prog w = .ok (some false) w := fun _ => by kernel_rfl
  have hm_digest : ∀ w, (method 220 88 (.agg #[]) "hearsay/message.digest").run Try.prog w = .ok (87, .agg #[]) w := fun _ => by kernel_rfl
  have hn_vector : ∀ w, (nilAhead 220 88 (.agg #[]) "hearsay/message.vector").run Try.prog w = .ok (some false) w := fun _ => by kernel_rfl
  have hm_vector : ∀ w, (method 220 88 (.agg #[]) "hearsay/message.vector").run Try.prog w = .ok (92, .agg #[]) w := fun _ => by kernel_rfl
  have hn_rows : ∀ w, (nilAhead 220 88 (.agg #[]) "hearsay/message.rows").run Try.prog w = .ok (some false) w := fun _ => by kernel_rfl
  have hm_rows : ∀ w, (method 220 88 (.agg #[]) "hearsay/message.rows").run Try.prog w = .ok (90, .agg #[]) w := fun _ => by kernel_rfl
  have hn_text : ∀ w, (nilAhead 220 88 (.agg #[]) "hearsay/message.text").run Try.prog w = .ok (some false) w := fun _ => by kernel_rfl
  have hm_text : ∀ w, (method 220 88 (.agg #[]) "hearsay/message.text").run Try.prog w = .ok (91, .agg #[]) w := fun _ => by kernel_rfl
  have hn_flag : ∀ w, (nilAhead 220 88 (.agg #[]) "hearsay/message.flag").run Try.prog w = .ok (some false) w := fun _ => by kernel_rfl
  have hm_flag : ∀ w, (method 220 88 (.agg #[]) "hearsay/message.flag").run Try.prog w = .ok (88, .agg #[]) w := fun _ => by kernel_rfl
  clear h hk hr
  go_enter Try.func15, Try.ntmps15
  go_wp2_with fail
  go_region_held3 (fun _ => True) (trivial)
    (first | (go_at_call 89; refine ((unhide H0).drew.call fun h => bnumber_any h 0 1073741824).mono ?_; rintro e w1 ⟨rfl, h1⟩))
  rename_i hHeld
  clear hHeld
  have H1 := hide h1
  clear h1
  go_wp2_with fail
  have HC : Hid (∀ {W : World}, BS B w m a c b d W → W.cell? ⟨B, 0, none⟩ = some (.int .i64 2)) := hide fun h => h.cell0 (unhide HK)
  go_region_held3 (fun w' => w'.cell? ⟨B, 0, none⟩ = some (.int .i64 2)) (first | exact unhide HC (unhide H1).drew | exact unhide HC (by assumption) | assumption)
    (first | (go_at_call 29; refine (checkKind_any _ _).mono ?_; rintro e w2 ⟨rfl, rfl⟩) | (go_at_call 86; refine ((unhide H1).drew.call fun h => bfail_any h _).mono ?_; rintro e w2 ⟨rfl, h2⟩))
  all_goals
    rename_i hHeld
    clear hHeld
    have H2 := hide h2
    clear h2
    go_wp2_with fail
    go_region_held3 (fun _ => True) (trivial)
      (first | (go_at_call 89; refine ((unhide H2).drew.call fun h => bnumber_any h 1 63).mono ?_; rintro e w3 ⟨rfl, h3⟩))
    rename_i hHeld
    clear hHeld
    have H3 := hide h3
    clear h3
    go_wp2_with fail
    go_region_held3 (fun _ => True) (trivial)
      (first | (go_at_call 89; refine ((unhide H3).drew.call fun h => bnumber_any h 2 63).mono ?_; rintro e w4 ⟨rfl, h4⟩))
    rename_i hHeld
    clear hHeld
    have H4 := hide h4
    clear h4
    go_wp2_with fail
    go_region_held3 (fun _ => True) (trivial)
      (first | (go_at_call 89; refine ((unhide H4).drew.call fun h => bnumber_any h 3 1048576).mono ?_; rintro e w5 ⟨rfl, h5⟩))
    rename_i hHeld
    clear hHeld
    have H5 := hide h5
    clear h5
    have x0 := (unhide H5).cell0 (unhide HK)
    go_wp2_with fail
    go_region_held3 (fun _ => True) (trivial)
      (first | (go_at_call 87; refine ((unhide H5).drew.call fun h => bdigest_any h (unhide HRT)).mono ?_; rintro e w6 ⟨rfl, h6⟩))
    rename_i hHeld
    clear hHeld
    have H6 := hide h6
    clear h6
    go_wp2_with fail
    go_region_held3 (fun _ => True) (trivial)
      (first | (go_at_call 92; refine ((unhide H6).drew.call fun h => bvector_any h rfl).mono ?_; rintro e w7 ⟨rfl, h7⟩))
    rename_i hHeld
    clear hHeld
    have H7 := hide h7
    clear h7
    go_wp2_with fail
    go_region_held3 (fun _ => True) (trivial)
      (first | (go_at_call 90; refine ((unhide H7).drew.call fun h => brows_any h rfl).mono ?_; rintro e w8 ⟨rfl, h8⟩))
    rename_i hHeld
    clear hHeld
    have H8 := hide h8
    clear h8
    go_wp2_with fail
    go_end0
    exact ⟨rfl, unhide H8⟩

set_option maxRecDepth 100000 in
set_option maxHeartbeats 1000000 in
theorem throughB_3 (w : World) (B : Nat) (m : Msg) (a b : Option Addr) (c d : Nat) (hr : m.root.length = 32) (hk : m.kind = 3) (h : VRow w B 27 (mL m a c b d)) :
    Calls Try.prog 15 #[.pointer (some ⟨B, 0, none⟩), .iface 88 (.agg #[])] w (Made B w { m with root := zero32, path := ⟨#[]⟩ } a c b d) := by
  have H0 : Hid (BS B w m a c b d w) := hide ⟨h, Beside.refl _ _⟩
  have HK := hide hk
  have HRT := hide hr
  have hmf : ∀ (fn : Fn) (first cap : Array Value) (w : World), (Instr.makeFunc fn first cap).run Try.prog w = .ok (.func fn first cap) w := fun _ _ _ _ => rfl
  have hn_number : ∀ w, (nilAhead 220 88 (.agg #[]) "hearsay/message.number").run Try.prog w = .ok (some false) w := fun _ => by kernel_rfl
  have hm_number : ∀ w, (method 220 88 (.agg #[]) "hearsay/message.number").run Try.prog w = .ok (89, .agg #[]) w := fun _ => by kernel_rfl
  have hn_Fail : ∀ w, (nilAhead 220 88 (.agg #[]) "Fail").run Try.prog w = .ok (some false) w := fun _ => by kernel_rfl
  have hm_Fail : ∀ w, (method 220 88 (.agg #[]) "Fail").run Try.prog w = .ok (86, .agg #[]) w := fun _ => by kernel_rfl
  have hn_digest : ∀ w, (nilAhead 220 88 (.agg #[]) "hearsay/message.digest").run Try.prog w = .ok (some false) w := fun _ => by kernel_rfl
  have hm_digest : ∀ w, (method 220 88 (.agg #[]) "hearsay/message.digest").run Try.prog w = .ok (87, .agg #[]) w := fun _ => by kernel_rfl
  have hn_vector : ∀ w, (nilAhead 220 88 (.agg #[]) "hearsay/message.vector").run Try.prog w = .ok (some false) w := fun _ => by kernel_rfl
  have hm_vector : ∀ w, (method 220 88 (.agg #[]) "hearsay/message.vector").run Try.prog w = .ok (92, .agg #[]) w := fun _ => by kernel_rfl
  have hn_rows : ∀ w, (nilAhead 220 88 (.agg #[]) "hearsay/message.rows").run Try.prog w = .ok (some false) w := fun _ => by kernel_rfl
  have hm_rows : ∀ w, (method 220 88 (.agg #[]) "hearsay/message.rows").run Try.prog w = .ok (90, .agg #[]) w := fun _ => by kernel_rfl
  have hn_text : ∀ w, (nilAhead 220 88 (.agg #[]) "hearsay/message.text").run Try.prog w = .ok (some false) w := fun _ => by kernel_rfl
  have hm_text : ∀ w, (method 220 88 (.agg #[]) "hearsay/message.text").run Try.prog w = .ok (91, .agg #[]) w := fun _ => by kernel_rfl
  have hn_flag : ∀ w, (nilAhead 220 88 (.agg #[]) "hearsay/message.flag").run Try.prog w = .ok (some false) w := fun _ => by kernel_rfl
  have hm_flag : ∀ w, (method 220 88 (.agg #[]) "hearsay/message.flag").run Try.prog w = .ok (88, .agg #[]) w := fun _ => by kernel_rfl
  clear h hk hr
  go_enter Try.func15, Try.ntmps15
  go_wp2_with fail
  go_region_held3 (fun _ => True) (trivial)
    (first | (go_at_call 89; refine ((unhide H0).drew.call fun h => bnumber_any h 0 1073741824).mono ?_; rintro e w1 ⟨rfl, h1⟩))
  rename_i hHeld
  clear hHeld
  have H1 := hide h1
  clear h1
  go_wp2_with fail
  have HC : Hid (∀ {W : World}, BS B w m a c b d W → W.cell? ⟨B, 0, none⟩ = some (.int .i64 3)) := hide fun h => h.cell0 (unhide HK)
  go_region_held3 (fun w' => w'.cell? ⟨B, 0, none⟩ = some (.int .i64 3)) (first | exact unhide HC (unhide H1).drew | exact unhide HC (by assumption) | assumption)
    (first | (go_at_call 29; refine (checkKind_any _ _).mono ?_; rintro e w2 ⟨rfl, rfl⟩) | (go_at_call 86; refine ((unhide H1).drew.call fun h => bfail_any h _).mono ?_; rintro e w2 ⟨rfl, h2⟩))
  all_goals
    rename_i hHeld
    clear hHeld
    have H2 := hide h2
    clear h2
    go_wp2_with fail
    go_region_held3 (fun _ => True) (trivial)
      (first | (go_at_call 89; refine ((unhide H2).drew.call fun h => bnumber_any h 1 63).mono ?_; rintro e w3 ⟨rfl, h3⟩))
    rename_i hHeld
    clear hHeld
    have H3 := hide h3
    clear h3
    go_wp2_with fail
    go_region_held3 (fun _ => True) (trivial)
      (first | (go_at_call 89; refine ((unhide H3).drew.call fun h => bnumber_any h 2 63).mono ?_; rintro e w4 ⟨rfl, h4⟩))
    rename_i hHeld
    clear hHeld
    have H4 := hide h4
    clear h4
    go_wp2_with fail
    go_region_held3 (fun _ => True) (trivial)
      (first | (go_at_call 89; refine ((unhide H4).drew.call fun h => bnumber_any h 3 1048576).mono ?_; rintro e w5 ⟨rfl, h5⟩))
    rename_i hHeld
    clear hHeld
    have H5 := hide h5
    clear h5
    have x0 := (unhide H5).cell0 (unhide HK)
    go_wp2_with fail
    go_region_held3 (fun _ => True) (trivial)
      (first | (go_at_call 87; refine ((unhide H5).drew.call fun h => bdigest_any h (unhide HRT)).mono ?_; rintro e w6 ⟨rfl, h6⟩))
    rename_i hHeld
    clear hHeld
    have H6 := hide h6
    clear h6
    go_wp2_with fail
    go_region_held3 (fun _ => True) (trivial)
      (first | (go_at_call 91; refine ((unhide H6).drew.call fun h => btext5_any h 51).mono ?_; rintro e w7 ⟨rfl, h7⟩))
    rename_i hHeld
    clear hHeld
    have H7 := hide h7
    clear h7
    go_wp2_with fail
    go_end0
    exact ⟨rfl, unhide H7⟩

set_option maxRecDepth 100000 in
set_option maxHeartbeats 1000000 in
theorem throughB_4 (w : World) (B : Nat) (m : Msg) (a b : Option Addr) (c d : Nat) (hr : m.root.length = 32) (hk : m.kind = 4) (h : VRow w B 27 (mL m a c b d)) :
    Calls Try.prog 15 #[.pointer (some ⟨B, 0, none⟩), .iface 88 (.agg #[])] w (Made B w { m with path := ⟨#[]⟩, text := ⟨#[]⟩ } a c b d) := by
  have H0 : Hid (BS B w m a c b d w) := hide ⟨h, Beside.refl _ _⟩
  have HK := hide hk
  have HRT := hide hr
  have hmf : ∀ (fn : Fn) (first cap : Array Value) (w : World), (Instr.makeFunc fn first cap).run Try.prog w = .ok (.func fn first cap) w := fun _ _ _ _ => rfl
  have hn_number : ∀ w, (nilAhead 220 88 (.agg #[]) "hearsay/message.number").run Try.prog w = .ok (some false) w := fun _ => by kernel_rfl
  have hm_number : ∀ w, (method 220 88 (.agg #[]) "hearsay/message.number").run Try.prog w = .ok (89, .agg #[]) w := fun _ => by kernel_rfl
  have hn_Fail : ∀ w, (nilAhead 220 88 (.agg #[]) "Fail").run Try.prog w = .ok (some false) w := fun _ => by kernel_rfl
  have hm_Fail : ∀ w, (method 220 88 (.agg #[]) "Fail").run Try.prog w = .ok (86, .agg #[]) w := fun _ => by kernel_rfl
  have hn_digest : ∀ w, (nilAhead 220 88 (.agg #[]) "hearsay/message.digest").run Try.prog w = .ok (some false) w := fun _ => by kernel_rfl
  have hm_digest : ∀ w, (method 220 88 (.agg #[]) "hearsay/message.digest").run Try.prog w = .ok (87, .agg #[]) w := fun _ => by kernel_rfl
  have hn_vector : ∀ w, (nilAhead 220 88 (.agg #[]) "hearsay/message.vector").run Try.prog w = .ok (some false) w := fun _ => by kernel_rfl
  have hm_vector : ∀ w, (method 220 88 (.agg #[]) "hearsay/message.vector").run Try.prog w = .ok (92, .agg #[]) w := fun _ => by kernel_rfl
  have hn_rows : ∀ w, (nilAhead 220 88 (.agg #[]) "hearsay/message.rows").run Try.prog w = .ok (some false) w := fun _ => by kernel_rfl
  have hm_rows : ∀ w, (method 220 88 (.agg #[]) "hearsay/message.rows").run Try.prog w = .ok (90, .agg #[]) w := fun _ => by kernel_rfl
  have hn_text : ∀ w, (nilAhead 220 88 (.agg #[]) "hearsay/message.text").run Try.prog w = .ok (some false) w := fun _ => by kernel_rfl
  have hm_text : ∀ w, (method 220 88 (.agg #[]) "hearsay/message.text").run Try.prog w = .ok (91, .agg #[]) w := fun _ => by kernel_rfl
  have hn_flag : ∀ w, (nilAhead 220 88 (.agg #[]) "hearsay/message.flag").run Try.prog w = .ok (some false) w := fun _ => by kernel_rfl
  have hm_flag : ∀ w, (method 220 88 (.agg #[]) "hearsay/message.flag").run Try.prog w = .ok (88, .agg #[]) w := fun _ => by kernel_rfl
  clear h hk hr
  go_enter Try.func15, Try.ntmps15
  go_wp2_with fail
  go_region_held3 (fun _ => True) (trivial)
    (first | (go_at_call 89; refine ((unhide H0).drew.call fun h => bnumber_any h 0 1073741824).mono ?_; rintro e w1 ⟨rfl, h1⟩))
  rename_i hHeld
  clear hHeld
  have H1 := hide h1
  clear h1
  go_wp2_with fail
  have HC : Hid (∀ {W : World}, BS B w m a c b d W → W.cell? ⟨B, 0, none⟩ = some (.int .i64 4)) := hide fun h => h.cell0 (unhide HK)
  go_region_held3 (fun w' => w'.cell? ⟨B, 0, none⟩ = some (.int .i64 4)) (first | exact unhide HC (unhide H1).drew | exact unhide HC (by assumption) | assumption)
    (first | (go_at_call 29; refine (checkKind_any _ _).mono ?_; rintro e w2 ⟨rfl, rfl⟩) | (go_at_call 86; refine ((unhide H1).drew.call fun h => bfail_any h _).mono ?_; rintro e w2 ⟨rfl, h2⟩))
  all_goals
    rename_i hHeld
    clear hHeld
    have H2 := hide h2
    clear h2
    go_wp2_with fail
    go_region_held3 (fun _ => True) (trivial)
      (first | (go_at_call 89; refine ((unhide H2).drew.call fun h => bnumber_any h 1 63).mono ?_; rintro e w3 ⟨rfl, h3⟩))
    rename_i hHeld
    clear hHeld
    have H3 := hide h3
    clear h3
    go_wp2_with fail
    go_region_held3 (fun _ => True) (trivial)
      (first | (go_at_call 89; refine ((unhide H3).drew.call fun h => bnumber_any h 2 63).mono ?_; rintro e w4 ⟨rfl, h4⟩))
    rename_i hHeld
    clear hHeld
    have H4 := hide h4
    clear h4
    go_wp2_with fail
    go_region_held3 (fun _ => True) (trivial)
      (first | (go_at_call 89; refine ((unhide H4).drew.call fun h => bnumber_any h 3 1048576).mono ?_; rintro e w5 ⟨rfl, h5⟩))
    rename_i hHeld
    clear hHeld
    have H5 := hide h5
    clear h5
    have x0 := (unhide H5).cell0 (unhide HK)
    go_wp2_with fail
    go_region_held3 (fun _ => True) (trivial)
      (first | (go_at_call 91; refine ((unhide H5).drew.call fun h => btext5_any h 51).mono ?_; rintro e w6 ⟨rfl, h6⟩))
    rename_i hHeld
    clear hHeld
    have H6 := hide h6
    clear h6
    go_wp2_with fail
    go_region_held3 (fun _ => True) (trivial)
      (first | (go_at_call 91; refine ((unhide H6).drew.call fun h => btext40_any h (unhide HRT) 65536).mono ?_; rintro e w7 ⟨rfl, h7⟩))
    rename_i hHeld
    clear hHeld
    have H7 := hide h7
    clear h7
    go_wp2_with fail
    go_end0
    exact ⟨rfl, unhide H7⟩

set_option maxRecDepth 100000 in
set_option maxHeartbeats 1000000 in
theorem throughB_6 (w : World) (B : Nat) (m : Msg) (a b : Option Addr) (c d : Nat) (hr : m.root.length = 32) (hk : m.kind = 6) (h : VRow w B 27 (mL m a c b d)) :
    Calls Try.prog 15 #[.pointer (some ⟨B, 0, none⟩), .iface 88 (.agg #[])] w (Made B w { m with turn := false } a c b d) := by
  have H0 : Hid (BS B w m a c b d w) := hide ⟨h, Beside.refl _ _⟩
  have HK := hide hk
  have HRT := hide hr
  have hmf : ∀ (fn : Fn) (first cap : Array Value) (w : World), (Instr.makeFunc fn first cap).run Try.prog w = .ok (.func fn first cap) w := fun _ _ _ _ => rfl
  have hn_number : ∀ w, (nilAhead 220 88 (.agg #[]) "hearsay/message.number").run Try.prog w = .ok (some false) w := fun _ => by kernel_rfl
  have hm_number : ∀ w, (method 220 88 (.agg #[]) "hearsay/message.number").run Try.prog w = .ok (89, .agg #[]) w := fun _ => by kernel_rfl
  have hn_Fail : ∀ w, (nilAhead 220 88 (.agg #[]) "Fail").run Try.prog w = .ok (some false) w := fun _ => by kernel_rfl
  have hm_Fail : ∀ w, (method 220 88 (.agg #[]) "Fail").run Try.prog w = .ok (86, .agg #[]) w := fun _ => by kernel_rfl
  have hn_digest : ∀ w, (nilAhead 220 88 (.agg #[]) "hearsay/message.digest").run Try.prog w = .ok (some false) w := fun _ => by kernel_rfl
  have hm_digest : ∀ w, (method 220 88 (.agg #[]) "hearsay/message.digest").run Try.prog w = .ok (87, .agg #[]) w := fun _ => by kernel_rfl
  have hn_vector : ∀ w, (nilAhead 220 88 (.agg #[]) "hearsay/message.vector").run Try.prog w = .ok (some false) w := fun _ => by kernel_rfl
  have hm_vector : ∀ w, (method 220 88 (.agg #[]) "hearsay/message.vector").run Try.prog w = .ok (92, .agg #[]) w := fun _ => by kernel_rfl
  have hn_rows : ∀ w, (nilAhead 220 88 (.agg #[]) "hearsay/message.rows").run Try.prog w = .ok (some false) w := fun _ => by kernel_rfl
  have hm_rows : ∀ w, (method 220 88 (.agg #[]) "hearsay/message.rows").run Try.prog w = .ok (90, .agg #[]) w := fun _ => by kernel_rfl
  have hn_text : ∀ w, (nilAhead 220 88 (.agg #[]) "hearsay/message.text").run Try.prog w = .ok (some false) w := fun _ => by kernel_rfl
  have hm_text : ∀ w, (method 220 88 (.agg #[]) "hearsay/message.text").run Try.prog w = .ok (91, .agg #[]) w := fun _ => by kernel_rfl
  have hn_flag : ∀ w, (nilAhead 220 88 (.agg #[]) "hearsay/message.flag").run Try.prog w = .ok (some false) w := fun _ => by kernel_rfl
  have hm_flag : ∀ w, (method 220 88 (.agg #[]) "hearsay/message.flag").run Try.prog w = .ok (88, .agg #[]) w := fun _ => by kernel_rfl
  clear h hk hr
  go_enter Try.func15, Try.ntmps15
  go_wp2_with fail
  go_region_held3 (fun _ => True) (trivial)
    (first | (go_at_call 89; refine ((unhide H0).drew.call fun h => bnumber_any h 0 1073741824).mono ?_; rintro e w1 ⟨rfl, h1⟩))
  rename_i hHeld
  clear hHeld
  have H1 := hide h1
  clear h1
  go_wp2_with fail
  have HC : Hid (∀ {W : World}, BS B w m a c b d W → W.cell? ⟨B, 0, none⟩ = some (.int .i64 6)) := hide fun h => h.cell0 (unhide HK)
  go_region_held3 (fun w' => w'.cell? ⟨B, 0, none⟩ = some (.int .i64 6)) (first | exact unhide HC (unhide H1).drew | exact unhide HC (by assumption) | assumption)
    (first | (go_at_call 29; refine (checkKind_any _ _).mono ?_; rintro e w2 ⟨rfl, rfl⟩) | (go_at_call 86; refine ((unhide H1).drew.call fun h => bfail_any h _).mono ?_; rintro e w2 ⟨rfl, h2⟩))
  all_goals
    rename_i hHeld
    clear hHeld
    have H2 := hide h2
    clear h2
    go_wp2_with fail
    go_region_held3 (fun _ => True) (trivial)
      (first | (go_at_call 89; refine ((unhide H2).drew.call fun h => bnumber_any h 1 63).mono ?_; rintro e w3 ⟨rfl, h3⟩))
    rename_i hHeld
    clear hHeld
    have H3 := hide h3
    clear h3
    go_wp2_with fail
    go_region_held3 (fun _ => True) (trivial)
      (first | (go_at_call 89; refine ((unhide H3).drew.call fun h => bnumber_any h 2 63).mono ?_; rintro e w4 ⟨rfl, h4⟩))
    rename_i hHeld
    clear hHeld
    have H4 := hide h4
    clear h4
    go_wp2_with fail
    go_region_held3 (fun _ => True) (trivial)
      (first | (go_at_call 89; refine ((unhide H4).drew.call fun h => bnumber_any h 3 1048576).mono ?_; rintro e w5 ⟨rfl, h5⟩))
    rename_i hHeld
    clear hHeld
    have H5 := hide h5
    clear h5
    have x0 := (unhide H5).cell0 (unhide HK)
    go_wp2_with fail
    go_region_held3 (fun _ => True) (trivial)
      (first | (go_at_call 88; refine ((unhide H5).drew.call fun h => bflag_any h).mono ?_; rintro e w6 ⟨rfl, h6⟩))
    rename_i hHeld
    clear hHeld
    have H6 := hide h6
    clear h6
    go_wp2_with fail
    go_end0
    exact ⟨rfl, unhide H6⟩

set_option maxRecDepth 100000 in
set_option maxHeartbeats 1000000 in
theorem throughB_o (w : World) (B : Nat) (m : Msg) (a b : Option Addr) (c d : Nat) (k : Int) (hr : m.root.length = 32) (hk : m.kind = k) (n2 : (k == 2) = false) (n3 : (k == 3) = false) (n4 : (k == 4) = false) (n6 : (k == 6) = false) (h : VRow w B 27 (mL m a c b d)) :
    Calls Try.prog 15 #[.pointer (some ⟨B, 0, none⟩), .iface 88 (.agg #[])] w (Made B w m a c b d) := by
  have H0 : Hid (BS B w m a c b d w) := hide ⟨h, Beside.refl _ _⟩
  have HK := hide hk
  have HRT := hide hr
  have hmf : ∀ (fn : Fn) (first cap : Array Value) (w : World), (Instr.makeFunc fn first cap).run Try.prog w = .ok (.func fn first cap) w := fun _ _ _ _ => rfl
  have hn_number : ∀ w, (nilAhead 220 88 (.agg #[]) "hearsay/message.number").run Try.prog w = .ok (some false) w := fun _ => by kernel_rfl
  have hm_number : ∀ w, (method 220 88 (.agg #[]) "hearsay/message.number").run Try.prog w = .ok (89, .agg #[]) w := fun _ => by kernel_rfl
  have hn_Fail : ∀ w, (nilAhead 220 88 (.agg #[]) "Fail").run Try.prog w = .ok (some false) w := fun _ => by kernel_rfl
  have hm_Fail : ∀ w, (method 220 88 (.agg #[]) "Fail").run Try.prog w = .ok (86, .agg #[]) w := fun _ => by kernel_rfl
  have hn_digest : ∀ w, (nilAhead 220 88 (.agg #[]) "hearsay/message.digest").run Try.prog w = .ok (some false) w := fun _ => by kernel_rfl
  have hm_digest : ∀ w, (method 220 88 (.agg #[]) "hearsay/message.digest").run Try.prog w = .ok (87, .agg #[]) w := fun _ => by kernel_rfl
  have hn_vector : ∀ w, (nilAhead 220 88 (.agg #[]) "hearsay/message.vector").run Try.prog w = .ok (some false) w := fun _ => by kernel_rfl
  have hm_vector : ∀ w, (method 220 88 (.agg #[]) "hearsay/message.vector").run Try.prog w = .ok (92, .agg #[]) w := fun _ => by kernel_rfl
  have hn_rows : ∀ w, (nilAhead 220 88 (.agg #[]) "hearsay/message.rows").run Try.prog w = .ok (some false) w := fun _ => by kernel_rfl
  have hm_rows : ∀ w, (method 220 88 (.agg #[]) "hearsay/message.rows").run Try.prog w = .ok (90, .agg #[]) w := fun _ => by kernel_rfl
  have hn_text : ∀ w, (nilAhead 220 88 (.agg #[]) "hearsay/message.text").run Try.prog w = .ok (some false) w := fun _ => by kernel_rfl
  have hm_text : ∀ w, (method 220 88 (.agg #[]) "hearsay/message.text").run Try.prog w = .ok (91, .agg #[]) w := fun _ => by kernel_rfl
  have hn_flag : ∀ w, (nilAhead 220 88 (.agg #[]) "hearsay/message.flag").run Try.prog w = .ok (some false) w := fun _ => by kernel_rfl
  have hm_flag : ∀ w, (method 220 88 (.agg #[]) "hearsay/message.flag").run Try.prog w = .ok (88, .agg #[]) w := fun _ => by kernel_rfl
  clear h hk hr
  go_enter Try.func15, Try.ntmps15
  go_wp2_with fail
  go_region_held3 (fun _ => True) (trivial)
    (first | (go_at_call 89; refine ((unhide H0).drew.call fun h => bnumber_any h 0 1073741824).mono ?_; rintro e w1 ⟨rfl, h1⟩))
  rename_i hHeld
  clear hHeld
  have H1 := hide h1
  clear h1
  go_wp2_with fail
  have HC : Hid (∀ {W : World}, BS B w m a c b d W → W.cell? ⟨B, 0, none⟩ = some (.int .i64 k)) := hide fun h => h.cell0 (unhide HK)
  go_region_held3 (fun w' => w'.cell? ⟨B, 0, none⟩ = some (.int .i64 k)) (first | exact unhide HC (unhide H1).drew | exact unhide HC (by assumption) | assumption)
    (first | (go_at_call 29; refine (checkKind_any _ _).mono ?_; rintro e w2 ⟨rfl, rfl⟩) | (go_at_call 86; refine ((unhide H1).drew.call fun h => bfail_any h _).mono ?_; rintro e w2 ⟨rfl, h2⟩))
  all_goals
    rename_i hHeld
    clear hHeld
    have H2 := hide h2
    clear h2
    go_wp2_with fail
    go_region_held3 (fun _ => True) (trivial)
      (first | (go_at_call 89; refine ((unhide H2).drew.call fun h => bnumber_any h 1 63).mono ?_; rintro e w3 ⟨rfl, h3⟩))
    rename_i hHeld
    clear hHeld
    have H3 := hide h3
    clear h3
    go_wp2_with fail
    go_region_held3 (fun _ => True) (trivial)
      (first | (go_at_call 89; refine ((unhide H3).drew.call fun h => bnumber_any h 2 63).mono ?_; rintro e w4 ⟨rfl, h4⟩))
    rename_i hHeld
    clear hHeld
    have H4 := hide h4
    clear h4
    go_wp2_with fail
    go_region_held3 (fun _ => True) (trivial)
      (first | (go_at_call 89; refine ((unhide H4).drew.call fun h => bnumber_any h 3 1048576).mono ?_; rintro e w5 ⟨rfl, h5⟩))
    rename_i hHeld
    clear hHeld
    have H5 := hide h5
    clear h5
    have x0 := (unhide H5).cell0 (unhide HK)
    go_wp2_with fail
    go_end0
    exact ⟨rfl, unhide H5⟩

theorem throughB_any (w : World) (B : Nat) (m : Msg) (a b : Option Addr) (c d : Nat) (hr : m.root.length = 32) (h : VRow w B 27 (mL m a c b d)) :
    Calls Try.prog 15 #[.pointer (some ⟨B, 0, none⟩), .iface 88 (.agg #[])] w (Made B w (blankM m) (if m.kind = 2 then none else a) (if m.kind = 2 then 0 else c) (if m.kind = 2 then none else b) (if m.kind = 2 then 0 else d)) := by
  unfold blankM
  by_cases h2 : m.kind = 2
  · simp only [if_pos h2]; exact throughB_2 w B m a b c d hr h2 h
  simp only [if_neg h2]
  by_cases h3 : m.kind = 3
  · simp only [if_pos h3]; exact throughB_3 w B m a b c d hr h3 h
  simp only [if_neg h3]
  by_cases h4 : m.kind = 4
  · simp only [if_pos h4]; exact throughB_4 w B m a b c d hr h4 h
  simp only [if_neg h4]
  by_cases h6 : m.kind = 6
  · simp only [if_pos h6]; exact throughB_6 w B m a b c d hr h6 h
  simp only [if_neg h6]
  exact throughB_o w B m a b c d m.kind hr rfl (by simpa using h2) (by simpa using h3) (by simpa using h4) (by simpa using h6) h
end Go.Proofs.Ythecijjmgfempaa

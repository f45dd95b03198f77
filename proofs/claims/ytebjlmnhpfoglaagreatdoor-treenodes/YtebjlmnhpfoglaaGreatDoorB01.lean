/-
  Plain facts on digests of 32 bytes (the common SHA-256) over rows of bytes, and on digests in signs: definitions, bounds, rows that are put together. No Go, no world.
-/
import Derived.Test.YtebjlmnhpfoglaaGreatDoorRows
import Derived.WalkKit
import Derived.WalkSpells
import Derived.WalkLawsBesides
import Derived.Laws.BitsAllLaws
import Derived.Outline
import Derived.Deep.MidRow
import Derived.Deep.WholeRow
import Derived.BigRegion
import Derived.BigQuiet
import Derived.RegionTactic
import Derived.OwnWalk
import Derived.Deep.RegionWith

namespace Go.Proofs.YtebjlmnhpfoglaaGreatDoor.Hsh.Sha

def keys : List Nat := [1116352408, 1899447441, 3049323471, 3921009573, 961987163, 1508970993, 2453635748, 2870763221, 3624381080, 310598401, 607225278, 1426881987, 1925078388, 2162078206, 2614888103, 3248222580, 3835390401, 4022224774, 264347078, 604807628, 770255983, 1249150122, 1555081692, 1996064986, 2554220882, 2821834349, 2952996808, 3210313671, 3336571891, 3584528711, 113926993, 338241895, 666307205, 773529912, 1294757372, 1396182291, 1695183700, 1986661051, 2177026350, 2456956037, 2730485921, 2820302411, 3259730800, 3345764771, 3516065817, 3600352804, 4094571909, 275423344, 430227734, 506948616, 659060556, 883997877, 958139571, 1322822218, 1537002063, 1747873779, 1955562222, 2024104815, 2227730452, 2361852424, 2428436474, 2756734187, 3204031479, 3329325298]
def start : List Nat := [1779033703, 3144134277, 1013904242, 2773480762, 1359893119, 2600822924, 528734635, 1541459225]

def rotr (x n : Nat) : Nat := x / 2 ^ n ||| x * 2 ^ (32 - n) % 4294967296
def s0 (x : Nat) : Nat := rotr x 7 ^^^ rotr x 18 ^^^ x / 8
def s1 (x : Nat) : Nat := rotr x 17 ^^^ rotr x 19 ^^^ x / 1024
def S0 (a : Nat) : Nat := rotr a 2 ^^^ rotr a 13 ^^^ rotr a 22
def S1 (e : Nat) : Nat := rotr e 6 ^^^ rotr e 11 ^^^ rotr e 25
def ch (e f g : Nat) : Nat := (e &&& f) ||| ((4294967295 - e) &&& g)
def maj (a b c : Nat) : Nat := (a &&& b) ||| (a &&& c) ||| (b &&& c)
def t1 (e f g h k : Nat) : Nat := (h + S1 e + ch e f g + k) % 4294967296
def t2 (a b c : Nat) : Nat := (S0 a + maj a b c) % 4294967296
def step : List Nat → Nat → List Nat
  | [a, b, c, d, e, f, g, h], k => [(t1 e f g h k + t2 a b c) % 4294967296, a, b, c, (d + t1 e f g h k) % 4294967296, e, f, g]
  | ws, _ => ws
def add (a b : Nat) : Nat := (a + b) % 4294967296

def word (l : List UInt8) : Nat := l.foldl (fun v b => v * 256 + b.toNat) 0
def wordAt (bs : List UInt8) (i : Nat) : Nat := word ((bs.drop (4 * i)).take 4)
def next (l : List Nat) : Nat := (l.getD (l.length - 16) 0 + s0 (l.getD (l.length - 15) 0) + l.getD (l.length - 7) 0 + s1 (l.getD (l.length - 2) 0)) % 4294967296
def firsts (bs : List UInt8) (n : Nat) : List Nat := (List.range n).map (wordAt bs)
def wide (bs : List UInt8) : Nat → List Nat
  | 0 => firsts bs 16
  | n + 1 => wide bs n ++ [next (wide bs n)]
def run (ws w : List Nat) : Nat → List Nat
  | 0 => ws
  | i + 1 => step (run ws w i) (keys.getD i 0 + w.getD i 0)
def block (ws : List Nat) (bs : List UInt8) : List Nat := List.zipWith add ws (run ws (wide bs 48) 64)
def hashN (m : List UInt8) : Nat → List Nat
  | 0 => start
  | n + 1 => block (hashN m n) ((m.drop (64 * n)).take 64)
def be8 (v : Nat) : List UInt8 := (List.range 8).map fun i => UInt8.ofNat (v / 2 ^ (56 - 8 * i) % 256)
def pad (n : Nat) : List UInt8 := 128 :: (List.replicate ((119 - n % 64) % 64) 0 ++ be8 (n * 8))
def digest (ws : List Nat) : List UInt8 := (List.range 32).map fun i => UInt8.ofNat (ws.getD (i / 4) 0 / 2 ^ (24 - 8 * (i % 4)) % 256)
def full (m : List UInt8) : List UInt8 := m ++ pad m.length
def sha (m : List UInt8) : List UInt8 := digest (hashN (full m) ((full m).length / 64))

def zero8 : List Nat := [0, 0, 0, 0, 0, 0, 0, 0]

/-! bounds -/
def Ok (n : Nat) (ws : List Nat) : Prop := ws.length = n ∧ ∀ x ∈ ws, x < 4294967296

theorem rotr_lt (x n : Nat) (h : x < 4294967296) : rotr x n < 4294967296 :=
  Nat.or_lt_two_pow (n := 32) (Nat.lt_of_le_of_lt (Nat.div_le_self _ _) h) (Nat.mod_lt _ (by decide))
theorem S1_lt (x : Nat) (h : x < 4294967296) : S1 x < 4294967296 :=
  Nat.xor_lt_two_pow (n := 32) (Nat.xor_lt_two_pow (n := 32) (rotr_lt _ _ h) (rotr_lt _ _ h)) (rotr_lt _ _ h)
theorem S0_lt (x : Nat) (h : x < 4294967296) : S0 x < 4294967296 :=
  Nat.xor_lt_two_pow (n := 32) (Nat.xor_lt_two_pow (n := 32) (rotr_lt _ _ h) (rotr_lt _ _ h)) (rotr_lt _ _ h)
theorem s1_lt (x : Nat) (h : x < 4294967296) : s1 x < 4294967296 :=
  Nat.xor_lt_two_pow (n := 32) (Nat.xor_lt_two_pow (n := 32) (rotr_lt _ _ h) (rotr_lt _ _ h)) (Nat.lt_of_le_of_lt (Nat.div_le_self _ _) h)
theorem s0_lt (x : Nat) (h : x < 4294967296) : s0 x < 4294967296 :=
  Nat.xor_lt_two_pow (n := 32) (Nat.xor_lt_two_pow (n := 32) (rotr_lt _ _ h) (rotr_lt _ _ h)) (Nat.lt_of_le_of_lt (Nat.div_le_self _ _) h)
theorem and_lt (a b : Nat) (h : b < 4294967296) : a &&& b < 4294967296 := Nat.lt_of_le_of_lt Nat.and_le_right h
theorem ch_lt (e f g : Nat) (hf : f < 4294967296) (hg : g < 4294967296) : ch e f g < 4294967296 := Nat.or_lt_two_pow (n := 32) (and_lt _ _ hf) (and_lt _ _ hg)
theorem maj_lt (a b c : Nat) (hb : b < 4294967296) (hc : c < 4294967296) : maj a b c < 4294967296 :=
  Nat.or_lt_two_pow (n := 32) (Nat.or_lt_two_pow (n := 32) (and_lt _ _ hb) (and_lt _ _ hc)) (and_lt _ _ hc)
theorem t1_lt (e f g h k : Nat) : t1 e f g h k < 4294967296 := Nat.mod_lt _ (by decide)
theorem t2_lt (a b c : Nat) : t2 a b c < 4294967296 := Nat.mod_lt _ (by decide)

theorem Ok.eight {ws : List Nat} (h : Ok 8 ws) : ∃ a b c d e f g i : Nat, ws = [a, b, c, d, e, f, g, i] ∧ a < 4294967296 ∧ b < 4294967296 ∧ c < 4294967296 ∧ d < 4294967296 ∧ e < 4294967296 ∧ f < 4294967296 ∧ g < 4294967296 ∧ i < 4294967296 := by
  obtain ⟨hl, hx⟩ := h
  match ws, hl with
  | [a, b, c, d, e, f, g, i], _ => exact ⟨a, b, c, d, e, f, g, i, rfl, hx _ (by simp), hx _ (by simp), hx _ (by simp), hx _ (by simp), hx _ (by simp), hx _ (by simp), hx _ (by simp), hx _ (by simp)⟩

theorem Ok.step {ws : List Nat} (h : Ok 8 ws) (k : Nat) : Ok 8 (step ws k) := by
  obtain ⟨a, b, c, d, e, f, g, i, rfl, ha, hb, hc, hd, he, hf, hg, hi⟩ := h.eight
  refine ⟨rfl, fun x hx => ?_⟩
  simp only [Sha.step, List.mem_cons, List.not_mem_nil, or_false] at hx
  rcases hx with rfl | rfl | rfl | rfl | rfl | rfl | rfl | rfl <;> first | assumption | exact Nat.mod_lt _ (by decide)

theorem Ok.run {ws : List Nat} (h : Ok 8 ws) (w : List Nat) (i : Nat) : Ok 8 (run ws w i) := by
  induction i with
  | zero => exact h
  | succ i ih => exact ih.step _

theorem Ok.block {ws : List Nat} (h : Ok 8 ws) (bs : List UInt8) : Ok 8 (block ws bs) := by
  have h2 := h.run (wide bs 48) 64
  refine ⟨by simp [Sha.block, h.1, h2.1], fun x hx => ?_⟩
  simp only [Sha.block, List.mem_iff_getElem, List.getElem_zipWith] at hx
  obtain ⟨j, _, rfl⟩ := hx
  exact Nat.mod_lt _ (by decide)

theorem ok_start : Ok 8 start := ⟨rfl, by decide⟩
theorem ok_hashN (m : List UInt8) (n : Nat) : Ok 8 (hashN m n) := by
  induction n with
  | zero => exact ok_start
  | succ n ih => exact ih.block _

theorem word4 (a b c d : UInt8) : word [a, b, c, d] = ((a.toNat * 256 + b.toNat) * 256 + c.toNat) * 256 + d.toNat := by simp [word]

theorem wordAt_four (bs : List UInt8) (i : Nat) (h : 4 * i + 3 < bs.length) : wordAt bs i = ((bs[4 * i].toNat * 256 + bs[4 * i + 1].toNat) * 256 + bs[4 * i + 2].toNat) * 256 + bs[4 * i + 3].toNat := by
  have e : (bs.drop (4 * i)).take 4 = [bs[4 * i], bs[4 * i + 1], bs[4 * i + 2], bs[4 * i + 3]] := by
    apply List.ext_getElem
    · simp; omega
    · intro j h1 h2
      simp at h2
      rw [List.getElem_take, List.getElem_drop]
      rcases j with _ | _ | _ | _ | j <;> first | rfl | omega
  rw [wordAt, e, word4]

theorem or4 (a b c d : Nat) (hb : b < 256) (hc : c < 256) (hd : d < 256) :
    a * 16777216 ||| b * 65536 ||| c * 256 ||| d = ((a * 256 + b) * 256 + c) * 256 + d := by
  have e1 : a * 16777216 ||| b * 65536 = (a * 256 + b) * 65536 := by
    have h := Nat.shiftLeft_add_eq_or_of_lt (a := a) (i := 24) (b := b * 65536) (by omega)
    rw [Nat.shiftLeft_eq, show (2 : Nat) ^ 24 = 16777216 from rfl] at h
    rw [← h]; omega
  have e2 : (a * 256 + b) * 65536 ||| c * 256 = ((a * 256 + b) * 256 + c) * 256 := by
    have h := Nat.shiftLeft_add_eq_or_of_lt (a := a * 256 + b) (i := 16) (b := c * 256) (by omega)
    rw [Nat.shiftLeft_eq, show (2 : Nat) ^ 16 = 65536 from rfl] at h
    rw [← h]; omega
  have e3 : ((a * 256 + b) * 256 + c) * 256 ||| d = ((a * 256 + b) * 256 + c) * 256 + d := by
    have h := Nat.shiftLeft_add_eq_or_of_lt (a := (a * 256 + b) * 256 + c) (i := 8) (b := d) (by omega)
    rw [Nat.shiftLeft_eq, show (2 : Nat) ^ 8 = 256 from rfl] at h
    rw [← h]
  rw [e1, e2, e3]

theorem word_lt (bs : List UInt8) (i : Nat) (h : 4 * i + 3 < bs.length) : wordAt bs i < 4294967296 := by
  rw [wordAt_four bs i h]
  have := bs[4 * i].toNat_lt
  have := bs[4 * i + 1].toNat_lt
  have := bs[4 * i + 2].toNat_lt
  have := bs[4 * i + 3].toNat_lt
  omega

theorem ok_firsts (bs : List UInt8) (n : Nat) (h : 4 * n ≤ bs.length) : Ok n (firsts bs n) := by
  refine ⟨by simp [firsts], fun x hx => ?_⟩
  simp only [firsts, List.mem_map, List.mem_range] at hx
  obtain ⟨j, hj, rfl⟩ := hx
  exact word_lt _ _ (by omega)

theorem firsts_succ (bs : List UInt8) (n : Nat) : firsts bs (n + 1) = firsts bs n ++ [wordAt bs n] := by simp [firsts, List.range_succ]

theorem Ok.append {n : Nat} {ws : List Nat} (h : Ok n ws) (x : Nat) (hx : x < 4294967296) : Ok (n + 1) (ws ++ [x]) := by
  refine ⟨by simp [h.1], fun y hy => ?_⟩
  simp only [List.mem_append, List.mem_singleton] at hy
  rcases hy with hy | rfl
  · exact h.2 _ hy
  · exact hx

theorem ok_wide (bs : List UInt8) (h : bs.length = 64) (n : Nat) : Ok (16 + n) (wide bs n) := by
  induction n with
  | zero => exact ok_firsts bs 16 (by omega)
  | succ n ih => exact ih.append _ (Nat.mod_lt _ (by decide))

theorem Ok.get {n : Nat} {ws : List Nat} (h : Ok n ws) (i : Nat) (hi : i < n) : ws.getD i 0 < 4294967296 := by
  have hl : i < ws.length := by rw [h.1]; exact hi
  have e : ws.getD i 0 = ws[i] := by simp [List.getD, hl]
  rw [e]
  exact h.2 _ (List.getElem_mem _)

theorem keys_lt (i : Nat) (h : i < 64) : keys.getD i 0 < 4294967296 := (show Ok 64 keys from ⟨rfl, by decide⟩).get i h

theorem hashN_append (m t : List UInt8) (n : Nat) (h : 64 * n ≤ m.length) : hashN (m ++ t) n = hashN m n := by
  induction n with
  | zero => rfl
  | succ n ih =>
    have e : ((m ++ t).drop (64 * n)).take 64 = (m.drop (64 * n)).take 64 := by
      rw [List.drop_append_of_le_length (by omega), List.take_append_of_le_length (by simp; omega)]
    rw [hashN, hashN, ih (by omega), e]

theorem be8_len (v : Nat) : (be8 v).length = 8 := by simp [be8]
theorem pad_len (n : Nat) : (pad n).length = (119 - n % 64) % 64 + 9 := by simp [pad, be8_len]
theorem full_len (m : List UInt8) : (full m).length % 64 = 0 := by
  simp only [full, List.length_append, pad_len]
  omega
theorem digest_len (ws : List Nat) : (digest ws).length = 32 := by simp [digest]
theorem sha_len (m : List UInt8) : (sha m).length = 32 := digest_len _

/-! signs -/
def sign (n : Nat) : UInt8 := if n < 10 then UInt8.ofNat (48 + n) else UInt8.ofNat (87 + n)
def two (b : UInt8) : List UInt8 := [sign (b.toNat / 16), sign (b.toNat % 16)]
def hex (d : List UInt8) : List UInt8 := d.flatMap two
def num (c : UInt8) : Option Nat := if 48 ≤ c.toNat ∧ c.toNat ≤ 57 then some (c.toNat - 48) else if 97 ≤ c.toNat ∧ c.toNat ≤ 102 then some (c.toNat - 87) else none
def val (s : List UInt8) (i : Nat) : Nat := (num (s.getD i 0)).getD 0
def part (s : List UInt8) (i : Nat) : List UInt8 := (List.range 32).map fun j => if 2 * j + 1 < i then UInt8.ofNat (val s (2 * j) * 16 + val s (2 * j + 1)) else if 2 * j < i then UInt8.ofNat (val s (2 * j)) else 0
def zeros : List UInt8 := List.replicate 32 0
def bad (s : List UInt8) : Bool := (s.take 64).any fun c => (num c).isNone
def unhex (s : List UInt8) : List UInt8 × Nat := if bad s then (zeros, 7) else if s.length < 64 then (zeros, 5) else if 64 < s.length then (zeros, 6) else (part s 64, 0)

set_option maxRecDepth 100000 in
theorem shaAbc : hex (sha [97, 98, 99]) = [98, 97, 55, 56, 49, 54, 98, 102, 56, 102, 48, 49, 99, 102, 101, 97, 52, 49, 52, 49, 52, 48, 100, 101, 53, 100, 97, 101, 50, 50, 50, 51, 98, 48, 48, 51, 54, 49, 97, 51, 57, 54, 49, 55, 55, 97, 57, 99, 98, 52, 49, 48, 102, 102, 54, 49, 102, 50, 48, 48, 49, 53, 97, 100] := by decide +kernel
set_option maxRecDepth 100000 in
theorem shaNil : (hex (sha [])).take 8 = [101, 51, 98, 48, 99, 52, 52, 50] := by decide +kernel
end Go.Proofs.YtebjlmnhpfoglaaGreatDoor.Hsh.Sha

/-
  What the leaves answer: a word turned.
-/

namespace Go.Proofs.YtebjlmnhpfoglaaGreatDoor.Hsh
open Go.RowKit

theorem hide {p : Prop} (h : p) : Hid p := h
theorem unhide {p : Prop} (h : Hid p) : p := h
theorem ret_int {k : IntKind} {a b : Int} (h : a = b) : Ending.returned (.int k a) = .returned (.int k b) := by rw [h]

theorem rot_or (x n : Nat) (hx : x < 4294967296) : bits .or .u32 ((x : Int) / 2 ^ n) ((x : Int) * 2 ^ (32 - n) % 4294967296) = ((Sha.rotr x n : Nat) : Int) := by
  have h := u32_or_nat (x / 2 ^ n) (x * 2 ^ (32 - n) % 4294967296) (Nat.lt_of_le_of_lt (Nat.div_le_self _ _) hx) (Nat.mod_lt _ (by decide))
  simpa [Sha.rotr] using h
theorem rot_or' (x n : Nat) (hx : x < 4294967296) : bits .or .u32 ((x : Int) * 2 ^ (32 - n) % 4294967296) ((x : Int) / 2 ^ n) = ((Sha.rotr x n : Nat) : Int) := by
  have h := u32_or_nat (x * 2 ^ (32 - n) % 4294967296) (x / 2 ^ n) (Nat.mod_lt _ (by decide)) (Nat.lt_of_le_of_lt (Nat.div_le_self _ _) hx)
  rw [Nat.or_comm] at h
  simpa [Sha.rotr] using h

theorem low5 (n : Nat) (h1 : 1 ≤ n) (h2 : n ≤ 31) : bits .and .u64 (IntKind.u64.wrap (-(n : Int))) 31 = ((32 - n : Nat) : Int) := by
  have e : IntKind.u64.wrap (-(n : Int)) = ((18446744073709551616 - n : Nat) : Int) := by
    simp only [IntKind.wrap, show IntKind.u64.bits = 64 from rfl, show IntKind.u64.signed = false from rfl]
    simp
    omega
  rw [e]
  have h := u64_and_nat (18446744073709551616 - n) 31 (by omega) (by decide)
  refine Eq.trans h ?_
  rw [show (31 : Nat) = 2 ^ 5 - 1 from rfl, Nat.and_two_pow_sub_one_eq_mod]
  omega

set_option maxRecDepth 100000 in
set_option maxHeartbeats 400000 in
theorem turned_any (x : Nat) (hx : x < 4294967296) (n : Nat) (h1 : 1 ≤ n) (h2 : n ≤ 31) (w : World) :
    Calls Tryz.prog 178 #[.int .u32 (x : Int), .int .i64 (n : Int)] w fun e w' => e = .returned (.int .u32 (Sha.rotr x n : Nat)) ∧ w' = w := by
  have e0 := low5 n h1 h2
  obtain ⟨m, hm⟩ : ∃ m, 32 - n = m := ⟨_, rfl⟩
  rw [hm] at e0
  have hm1 : 1 ≤ m := by omega
  have hm2 : m ≤ 31 := by omega
  have hr := rot_or' x n hx
  rw [hm] at hr
  have hn : n = 32 - m := by omega
  subst hn
  clear hm h1 h2
  go_enter Tryz.func178, Tryz.ntmps178
  go_wp2
  go_ret
  exact ⟨rfl, rfl⟩

theorem refTurn_any (x : Nat) (hx : x < 4294967296) (n : Nat) (h1 : 1 ≤ n) (h2 : n ≤ 31) (w : World) :
    Calls Tryz.prog 59 #[.int .u32 (x : Int), .int .u64 (n : Int)] w fun e w' => e = .returned (.int .u32 (Sha.rotr x n : Nat)) ∧ w' = w := by
  have hr := rot_or x n hx
  go_enter Tryz.func59, Tryz.ntmps59
  go_wp2
  go_ret
  exact ⟨rfl, rfl⟩
end Go.Proofs.YtebjlmnhpfoglaaGreatDoor.Hsh

/-
  Rows of values in a block: their cells, a store into one, what stays as it was.
-/

namespace Go.Proofs.YtebjlmnhpfoglaaGreatDoor.Hsh
open Go.RowKit

def u (n : Nat) : Value := .int .u32 (n : Int)
def byteVal (b : UInt8) : Value := .int .u8 (b.toNat : Int)
def VRow (W : World) (B T : Nat) (vs : List Value) : Prop := W.heap[B]? = some (.cells vs.toArray T (0, 0))

theorem VRow.cell {W : World} {B T : Nat} {vs : List Value} (h : VRow W B T vs) (k : Nat) (v : Value) (hv : vs[k]? = some v) : W.cell? ⟨B, k, none⟩ = some v := by
  rw [cell_of_row W B k vs.toArray T (0, 0) h]
  simpa using hv
theorem VRow.word {W : World} {B T : Nat} {ws : List Nat} (h : VRow W B T (ws.map u)) (k x : Nat) (hx : ws[k]? = some x) : W.cell? ⟨B, k, none⟩ = some (.int .u32 (x : Int)) :=
  h.cell k _ (by simp [hx, u])
theorem VRow.byte {W : World} {B T : Nat} {bs : List UInt8} (h : VRow W B T (bs.map byteVal)) (k : Nat) (hk : k < bs.length) : W.cell? ⟨B, k, none⟩ = some (.int .u8 (bs[k].toNat : Int)) :=
  h.cell k _ (by simp [hk, byteVal])
theorem VRow.frozen {W : World} {B T : Nat} {vs : List Value} (h : VRow W B T vs) (k : Nat) : W.frozen? ⟨B, k, none⟩ = false := frozen_of_row W B k vs.toArray T h
theorem VRow.set {W : World} {B T : Nat} {vs : List Value} (h : VRow W B T vs) (k : Nat) (v : Value) : VRow (W.setCell ⟨B, k, none⟩ v) B T (vs.set k v) := by
  have := heap_setCell_same W B k vs.toArray T v h
  simpa [VRow] using this
theorem VRow.setWord {W : World} {B T : Nat} {ws : List Nat} (h : VRow W B T (ws.map u)) (k x : Nat) : VRow (W.setCell ⟨B, k, none⟩ (.int .u32 (x : Int))) B T ((ws.set k x).map u) := by
  rw [List.map_set]; exact h.set k _
theorem VRow.setByte {W : World} {B T : Nat} {bs : List UInt8} (h : VRow W B T (bs.map byteVal)) (k : Nat) (b : UInt8) : VRow (W.setCell ⟨B, k, none⟩ (.int .u8 (b.toNat : Int))) B T ((bs.set k b).map byteVal) := by
  rw [List.map_set]; exact h.set k _
theorem VRow.setOther {W : World} {B T : Nat} {vs : List Value} (h : VRow W B T vs) (a : Addr) (hne : B ≠ a.block) (v : Value) : VRow (W.setCell a v) B T vs :=
  (heap_setCell_other W a B v hne).trans h
theorem VRow.below {W W' : World} {n B T : Nat} {vs : List Value} (h : VRow W B T vs) (hb : Below n W W') (hn : B < n) : VRow W' B T vs := (hb.block B hn).trans h
theorem VRow.drew {W : World} {B T : Nat} {vs : List Value} (h : VRow W B T vs) : VRow W.drew B T vs := h
theorem VRow.lt {W : World} {B T : Nat} {vs : List Value} (h : VRow W B T vs) : B < W.heap.size := (Array.getElem?_eq_some_iff.1 h).1
theorem VRow.new (W : World) (T : Nat) (vs : List Value) : VRow (W.alloc (.cells vs.toArray T)) W.heap.size T vs := heap_alloc_new W _
theorem VRow.alloc {W : World} {B T : Nat} {vs : List Value} (h : VRow W B T vs) (o : Obj) : VRow (W.alloc o) B T vs := (Below.heap_alloc W o B h.lt).trans h

theorem VRow.drewN {W : World} {B T : Nat} {vs : List Value} (h : VRow W B T vs) (n : Nat) : VRow (W.drewN n) B T vs := h

/-- Nothing turns but block B. -/
structure Only (B : Nat) (w w' : World) : Prop where
  os : w'.os = w.os
  tape : w'.tape = w.tape
  output : w'.output = w.output
  size : w'.heap.size = w.heap.size
  block : ∀ j, j ≠ B → w'.heap[j]? = w.heap[j]?
theorem Only.refl (B : Nat) (w : World) : Only B w w := ⟨rfl, rfl, rfl, rfl, fun _ _ => rfl⟩
theorem Only.drewN {B : Nat} {w w' : World} (h : Only B w w') (n : Nat) : Only B w (w'.drewN n) := ⟨h.os, h.tape, h.output, h.size, h.block⟩
theorem Only.drew {B : Nat} {w w' : World} (h : Only B w w') : Only B w w'.drew := ⟨h.os, h.tape, h.output, h.size, h.block⟩
theorem Only.setCell {B : Nat} {w w' : World} (h : Only B w w') (k : Nat) (v : Value) : Only B w (w'.setCell ⟨B, k, none⟩ v) :=
  ⟨h.os, h.tape, h.output, by rw [World.size_setCell]; exact h.size, fun j hj => (heap_setCell_other w' ⟨B, k, none⟩ j v hj).trans (h.block j hj)⟩
theorem Only.trans {B : Nat} {a b c : World} (h : Only B a b) (k : Only B b c) : Only B a c :=
  ⟨k.os.trans h.os, k.tape.trans h.tape, k.output.trans h.output, k.size.trans h.size, fun j hj => (k.block j hj).trans (h.block j hj)⟩
theorem Only.below {B n : Nat} {w w' : World} (h : Only B w w') (hn : n ≤ B) : Below n w w' := ⟨h.os, h.tape, h.output, Nat.le_of_eq h.size.symm, fun k hk => h.block k (by omega)⟩
theorem VRow.only {W W' : World} {A B T : Nat} {vs : List Value} (h : VRow W A T vs) (ho : Only B W W') (hne : A ≠ B) : VRow W' A T vs := (ho.block A hne).trans h

theorem not_u32 (v : Nat) (h : v < 4294967296) : bits .xor .u32 IntKind.u32.max (v : Int) = ((4294967295 - v : Nat) : Int) := by
  have h1 : bits .xor .u32 ((4294967295 : Nat) : Int) (v : Int) = ((4294967295 ^^^ v : Nat) : Int) := u32_xor_nat 4294967295 v (by decide) h
  have h2 : (4294967295 : Nat) ^^^ v = 4294967295 - v := by
    have hs : 4294967295 - v = 2 ^ 32 - (v + 1) := by omega
    rw [hs]
    apply Nat.eq_of_testBit_eq
    intro i
    rw [Nat.testBit_two_pow_sub_succ h, Nat.testBit_xor, show (4294967295 : Nat) = 2 ^ 32 - 1 from rfl, Nat.testBit_two_pow_sub_one]
    by_cases hi : i < 32
    · simp [hi]
    · have : v.testBit i = false := Nat.testBit_lt_two_pow (Nat.lt_of_lt_of_le h (Nat.pow_le_pow_right (n := 2) (by decide) (show 32 ≤ i by omega)))
      simp [hi, this]
  rw [h2] at h1
  exact h1

theorem ch_bits (e f g : Nat) (he : e < 4294967296) (hf : f < 4294967296) (hg : g < 4294967296) :
    bits .or .u32 (bits .and .u32 (e : Int) (f : Int)) (bits .and .u32 (bits .xor .u32 IntKind.u32.max (e : Int)) (g : Int)) = ((Sha.ch e f g : Nat) : Int) := by
  rw [not_u32 e he, u32_and_nat e f he hf, u32_and_nat _ g (by omega) hg, u32_or_nat _ _ (Sha.and_lt _ _ hf) (Sha.and_lt _ _ hg)]; rfl
theorem maj_bits (a b c : Nat) (ha : a < 4294967296) (hb : b < 4294967296) (hc : c < 4294967296) :
    bits .or .u32 (bits .or .u32 (bits .and .u32 (a : Int) (b : Int)) (bits .and .u32 (a : Int) (c : Int))) (bits .and .u32 (b : Int) (c : Int)) = ((Sha.maj a b c : Nat) : Int) := by
  rw [u32_and_nat a b ha hb, u32_and_nat a c ha hc, u32_and_nat b c hb hc, u32_or_nat _ _ (Sha.and_lt _ _ hb) (Sha.and_lt _ _ hc),
    u32_or_nat _ _ (Nat.or_lt_two_pow (n := 32) (Sha.and_lt _ _ hb) (Sha.and_lt _ _ hc)) (Sha.and_lt _ _ hc)]; rfl
theorem xor3_bits (x p q r : Nat) (hx : x < 4294967296) :
    bits .xor .u32 (bits .xor .u32 (Sha.rotr x p : Int) (Sha.rotr x q : Int)) (Sha.rotr x r : Int) = ((Sha.rotr x p ^^^ Sha.rotr x q ^^^ Sha.rotr x r : Nat) : Int) := by
  rw [u32_xor_nat _ _ (Sha.rotr_lt _ _ hx) (Sha.rotr_lt _ _ hx), u32_xor_nat _ _ (Nat.xor_lt_two_pow (n := 32) (Sha.rotr_lt _ _ hx) (Sha.rotr_lt _ _ hx)) (Sha.rotr_lt _ _ hx)]

set_option maxRecDepth 100000 in
set_option maxHeartbeats 1000000 in
theorem turn_any (B a b c d e f g i k : Nat) (ha : a < 4294967296) (hb : b < 4294967296) (hc : c < 4294967296) (he : e < 4294967296) (hf : f < 4294967296) (hg : g < 4294967296) (w : World)
    (hr : VRow w B 95 ([a, b, c, d, e, f, g, i].map u)) :
    Calls Tryz.prog 173 #[.pointer (some ⟨B, 0, none⟩), .int .u32 (k : Int)] w fun x w' => x = .returned (.tuple #[]) ∧ VRow w' B 95 ((Sha.step [a, b, c, d, e, f, g, i] k).map u) ∧ Only B w w' := by
  have HR := hide hr
  have c0 := hr.word 0 a rfl
  have c1 := hr.word 1 b rfl
  have c2 := hr.word 2 c rfl
  have c3 := hr.word 3 d rfl
  have c4 := hr.word 4 e rfl
  have c5 := hr.word 5 f rfl
  have c6 := hr.word 6 g rfl
  have c7 := hr.word 7 i rfl
  clear hr
  have hch := ch_bits e f g he hf hg
  have hmj := maj_bits a b c ha hb hc
  have hS1 : bits .xor .u32 (bits .xor .u32 (Sha.rotr e 6 : Int) (Sha.rotr e 11 : Int)) (Sha.rotr e 25 : Int) = ((Sha.S1 e : Nat) : Int) := xor3_bits e 6 11 25 he
  have hS0 : bits .xor .u32 (bits .xor .u32 (Sha.rotr a 2 : Int) (Sha.rotr a 13 : Int)) (Sha.rotr a 22 : Int) = ((Sha.S0 a : Nat) : Int) := xor3_bits a 2 13 22 ha
  have hT1 : ((i : Int) + (Sha.S1 e : Int) + (Sha.ch e f g : Int) + (k : Int)) % 4294967296 = ((Sha.t1 e f g i k : Nat) : Int) := by simp [Sha.t1]
  have hT2 : ((Sha.S0 a : Int) + (Sha.maj a b c : Int)) % 4294967296 = ((Sha.t2 a b c : Nat) : Int) := by simp [Sha.t2]
  have hA : ((Sha.t1 e f g i k : Int) + (Sha.t2 a b c : Int)) % 4294967296 = (((Sha.t1 e f g i k + Sha.t2 a b c) % 4294967296 : Nat) : Int) := by simp
  have hE : ((d : Int) + (Sha.t1 e f g i k : Int)) % 4294967296 = (((d + Sha.t1 e f g i k) % 4294967296 : Nat) : Int) := by simp
  obtain ⟨A, eA⟩ : ∃ A, (Sha.t1 e f g i k + Sha.t2 a b c) % 4294967296 = A := ⟨_, rfl⟩
  obtain ⟨E, eE⟩ : ∃ E, (d + Sha.t1 e f g i k) % 4294967296 = E := ⟨_, rfl⟩
  rw [eA] at hA
  rw [eE] at hE
  have HS : Hid (Sha.step [a, b, c, d, e, f, g, i] k = [A, a, b, c, E, e, f, g]) := by rw [← eA, ← eE]; exact hide rfl
  clear eA eE
  go_enter Tryz.func173, Tryz.ntmps173
  go_wp2_with fail
  go_quiet (fail)
  go_wp2_with fail
  go_quiet (fail)
  clear c0 c1 c2 c3 c4 c5 c6 c7
  go_wp2_with (first | (go_at_call 178; refine (turned_any _ ?_ _ ?_ ?_ _).mono ?_ <;> first | assumption | decide | rintro x w1 ⟨rfl, rfl⟩))
  clear hch hmj hS1 hS0 hT1 hT2
  rename_i nq1 _ _
  have HO1 : Hid (Only B w (w.drewN (nq1 + nq))) := hide ((Only.refl B w).drewN _)
  have HR1 : Hid (VRow (w.drewN (nq1 + nq)) B 95 ([a, b, c, d, e, f, g, i].map u)) := (unhide HR).drewN _
  generalize w.drewN (nq1 + nq) = w1 at HO1 HR1 ⊢
  have c0 := (unhide HR1).word 0 a rfl
  have c1 := (unhide HR1).word 1 b rfl
  have c2 := (unhide HR1).word 2 c rfl
  have c3 := (unhide HR1).word 3 d rfl
  have f0 := (unhide HR1).frozen 0
  have f1 := (unhide HR1).frozen 1
  have f2 := (unhide HR1).frozen 2
  have f3 := (unhide HR1).frozen 3
  go_region
  clear c0 c1 c2 c3 f0 f1 f2 f3 hA
  have HR2 : Hid (VRow ((((w1.setCell ⟨B, 0, none⟩ (.int .u32 (A : Int))).setCell ⟨B, 1, none⟩ (.int .u32 (a : Int))).setCell ⟨B, 2, none⟩ (.int .u32 (b : Int))).setCell ⟨B, 3, none⟩ (.int .u32 (c : Int))).drew B 95 ([A, a, b, c, e, f, g, i].map u)) :=
    (((((unhide HR1).setWord 0 A).setWord 1 a).setWord 2 b).setWord 3 c).drew
  have HO2 : Hid (Only B w ((((w1.setCell ⟨B, 0, none⟩ (.int .u32 (A : Int))).setCell ⟨B, 1, none⟩ (.int .u32 (a : Int))).setCell ⟨B, 2, none⟩ (.int .u32 (b : Int))).setCell ⟨B, 3, none⟩ (.int .u32 (c : Int))).drew) :=
    (((((unhide HO1).setCell 0 _).setCell 1 _).setCell 2 _).setCell 3 _).drew
  generalize ((((w1.setCell ⟨B, 0, none⟩ (.int .u32 (A : Int))).setCell ⟨B, 1, none⟩ (.int .u32 (a : Int))).setCell ⟨B, 2, none⟩ (.int .u32 (b : Int))).setCell ⟨B, 3, none⟩ (.int .u32 (c : Int))).drew = w2 at HO2 HR2 ⊢
  have c4 := (unhide HR2).word 4 e rfl
  have c5 := (unhide HR2).word 5 f rfl
  have c6 := (unhide HR2).word 6 g rfl
  have c7 := (unhide HR2).word 7 i rfl
  have f4 := (unhide HR2).frozen 4
  have f5 := (unhide HR2).frozen 5
  have f6 := (unhide HR2).frozen 6
  have f7 := (unhide HR2).frozen 7
  go_wp2_with fail
  go_region
  clear c4 c5 c6 c7 f4 f5 f6 f7
  go_wp2
  go_end0
  refine ⟨rfl, ?_, (((((unhide HO2).setCell 4 _).setCell 5 _).setCell 6 _).setCell 7 _).drew⟩
  rw [unhide HS]
  exact (((((unhide HR2).setWord 4 E).setWord 5 e).setWord 6 f).setWord 7 g).drew

theorem turn_list (B k : Nat) (ws : List Nat) (hw : Sha.Ok 8 ws) (w : World) (hr : VRow w B 95 (ws.map u)) :
    Calls Tryz.prog 173 #[.pointer (some ⟨B, 0, none⟩), .int .u32 (k : Int)] w fun x w' => x = .returned (.tuple #[]) ∧ VRow w' B 95 ((Sha.step ws k).map u) ∧ Only B w w' := by
  obtain ⟨a, b, c, d, e, f, g, i, rfl, ha, hb, hc, hd, he, hf, hg, hi⟩ := hw.eight
  exact turn_any B a b c d e f g i k ha hb hc he hf hg w hr
end Go.Proofs.YtebjlmnhpfoglaaGreatDoor.Hsh

/-
  Plain facts on rows that are filled from the first on. No Go, no world.
-/

namespace Go.Proofs.YtebjlmnhpfoglaaGreatDoor.Hsh.Sha

/-! rows that are filled from the first on -/
theorem mid_set {α : Type} (L S : List α) (k : Nat) (hL : k < L.length) (hS : k < S.length) : (L.take k ++ S.drop k).set k L[k] = L.take (k + 1) ++ S.drop (k + 1) := by
  rw [List.set_append_right _ _ (by simp; omega), List.take_succ_eq_append_getElem hL, List.length_take, Nat.min_eq_left (by omega), Nat.sub_self]
  rw [List.drop_eq_getElem_cons hS, List.set_cons_zero, List.append_assoc, List.singleton_append]
theorem mid_get {α : Type} (L S : List α) (k : Nat) (hL : k ≤ L.length) : (L.take k ++ S.drop k)[k]? = S[k]? := by
  rw [List.getElem?_append_right (by simp; omega)]
  simp [Nat.min_eq_left hL]
theorem mid_all {α : Type} (L S : List α) (k : Nat) (hL : L.length ≤ k) (hS : S.length ≤ k) : L.take k ++ S.drop k = L := by
  rw [List.take_of_length_le hL, List.drop_of_length_le hS, List.append_nil]

end Go.Proofs.YtebjlmnhpfoglaaGreatDoor.Hsh.Sha

/-
  What the Sum's words and a digest out of words are.
-/

namespace Go.Proofs.YtebjlmnhpfoglaaGreatDoor.Hsh
open Go.RowKit

theorem size30 : (Tryz.prog.info? 95).map (·.size) = some 8 := by kernel_rfl
theorem size46 : (Tryz.prog.info? 97).map (·.size) = some 64 := by kernel_rfl
theorem size31 : (Tryz.prog.info? 154).map (·.size) = some 64 := by kernel_rfl
theorem size24 : (Tryz.prog.info? 46).map (·.size) = some 32 := by kernel_rfl
theorem size34 : (Tryz.prog.info? 156).map (·.size) = some 73 := by kernel_rfl

/-- What the package's variables start and added hold. -/
structure Glob (w : World) : Prop where
  start : ∀ (j x : Nat), Sha.start[j]? = some x → w.cell? ⟨3, j, none⟩ = some (.int .u32 (x : Int))
  added : ∀ (j x : Nat), Sha.keys[j]? = some x → w.cell? ⟨2, j, none⟩ = some (.int .u32 (x : Int))
theorem Glob.lt2 {w : World} (h : Glob w) : 3 < w.heap.size := block_lt_of_cell (h.start 0 _ rfl)
theorem Glob.below {w w' : World} {n : Nat} (h : Glob w) (hb : Below n w w') (hn : 3 < n) : Glob w' :=
  ⟨fun j x hx => (hb.cell (p := ⟨3, j, none⟩) hn).trans (h.start j x hx), fun j x hx => (hb.cell (p := ⟨2, j, none⟩) (by show 2 < n; omega)).trans (h.added j x hx)⟩
theorem Glob.same {w w' : World} (h : Glob w) (hc : w'.heap = w.heap) : Glob w' := by
  have e : ∀ a, w'.cell? a = w.cell? a := fun a => by simp [World.cell?, hc]
  exact ⟨fun j x hx => (e _).trans (h.start j x hx), fun j x hx => (e _).trans (h.added j x hx)⟩

theorem VRow.newAt {W : World} {T n : Nat} {vs : List Value} (hn : n = W.heap.size) : VRow (W.alloc (.cells vs.toArray T)) n T vs := by subst hn; exact VRow.new W T vs

theorem load_row {ops : Array Oper} {rest : List Oper} {o : Oper} {a : Act} {w : World} {Q : Exit → Act → World → Prop} (hgd : o.guard = none) (T : TypeId) (x : Operand) (ho : o.op = .load T x)
    (B : Nat) (hx : a.eval x = .pointer (some ⟨B, 0, none⟩)) (T' : TypeId) (vs : List Value) (hr : VRow w B T' vs) (n m : Nat) (e : TypeId) (hu : Tryz.prog.underlying T = some (.array m e))
    (hi : (Tryz.prog.info? T).map (·.size) = some n) (hn : vs.length = n)
    (h : wpList Tryz.prog ops Q rest (a.put o.dst (.agg vs.toArray)) w) : wpList Tryz.prog ops Q (o :: rest) a w :=
  wpList_load_row hgd T x ho B hx T' vs.toArray (0, 0) _ hr hu rfl (by rw [hi]; simp [hn]) h

theorem store_row {ops : Array Oper} {rest : List Oper} {o : Oper} {a : Act} {w : World} {Q : Exit → Act → World → Prop} (hgd : o.guard = none) (T : TypeId) (x y : Operand) (ho : o.op = .store T x y)
    (B : Nat) (vs : List Value) (hx : a.eval x = .pointer (some ⟨B, 0, none⟩)) (hy : a.eval y = .agg vs.toArray) (T' : TypeId) (olds : List Value) (hr : VRow w B T' olds) (n : Nat)
    (hi : (Tryz.prog.info? T).map (·.size) = some n) (hn : vs.length = n) (ho' : olds.length = n) (h1 : ∀ v ∈ vs, v.oneCell' = true)
    (h : ∀ w', Only B w w' → VRow w' B T' vs → wpList Tryz.prog ops Q rest (a.put o.dst undef) w') : wpList Tryz.prog ops Q (o :: rest) a w := by
  refine wpList_store_row hgd T x y ho B vs.toArray hx hy T' olds.toArray hr (by rw [hi]; simp [hn]) (by simp [hn, ho']) (all_oneCell_toArray h1) (h _ ?_ ?_)
  · exact ⟨rfl, rfl, rfl, by simp, fun j hj => setRow_other w B j _ hj⟩
  · exact setRow_heap w B olds.toArray _ T' (0, 0) hr

theorem one_words (ws : List Nat) : ∀ v ∈ ws.map u, v.oneCell' = true := by
  intro v hv
  obtain ⟨x, _, rfl⟩ := List.mem_map.1 hv
  rfl
theorem one_bytes (bs : List UInt8) : ∀ v ∈ bs.map byteVal, v.oneCell' = true := by
  intro v hv
  obtain ⟨x, _, rfl⟩ := List.mem_map.1 hv
  rfl

set_option maxRecDepth 100000 in
set_option maxHeartbeats 1000000 in
theorem words_any (B : Nat) (gain : List Nat) (hg : Sha.Ok 8 gain) (rest : List Value) (w : World) (hs : VRow w B 156 (gain.map u ++ rest)) (hG : Glob w) :
    Calls Tryz.prog 157 #[.pointer (some ⟨B, 0, none⟩)] w fun e w' => e = .returned (.agg ((List.zipWith Sha.add Sha.start gain).map u).toArray) ∧ Below w.heap.size w w' := by
  have HS := hide hs
  have HG := hide hG
  clear hs hG
  have HST : Hid (w.rangeAt 3 0 (Sha.start.map u)) := hide fun j v hv => by
    simp only [List.getElem?_map, Option.map_eq_some_iff] at hv
    obtain ⟨x, hx, rfl⟩ := hv
    rw [Nat.zero_add]
    exact (unhide HG).start j x hx
  have h2 := (unhide HG).lt2
  go_enter Tryz.func157, Tryz.ntmps157
  go_wp2_with (first
    | (refine wpList_load_mid (by rfl) 95 _ (by rfl) 3 0 (by rfl) (Sha.start.map u) _ (World.rangeAt_alloc (unhide HST) _) Tryz.underlying95 rfl size30 ?_)
    | (refine store_row (by rfl) 95 _ _ (by rfl) (w.heap.size + 1) (Sha.start.map u) (by rfl) (by rfl) 95 (Sha.zero8.map u) (VRow.newAt (by simp)) 8 size30 rfl rfl (one_words _) ?_; intro w1 ho1 hr1; have HO1 := hide ho1; have HR1 := hide hr1; clear ho1 hr1))
  have HB1 : Hid (Below w.heap.size w w1) := (((Below.refl _ _).alloc (Nat.le_refl _) _).alloc (by simp) _).trans ((unhide HO1).below (by omega))
  have HZ1 : Hid (VRow w1 w.heap.size 95 (Sha.zero8.map u)) := ((VRow.new w 95 (Sha.zero8.map u)).alloc _).only (unhide HO1) (by omega)
  clear HO1 HST
  go_loopw [6] (fun i wr => ∃ k : Nat, k ≤ 8 ∧ i = .int .i64 k ∧ VRow wr (w.heap.size + 1) 95 (((List.zipWith Sha.add Sha.start gain).take k ++ Sha.start.drop k).map u) ∧ VRow wr w.heap.size 95 (Sha.zero8.map u) ∧ Below w.heap.size w wr) (fun i _ => 8 - (intOf i).toNat)
  case atStart => exact ⟨0, Nat.zero_le _, rfl, unhide HR1, unhide HZ1, unhide HB1⟩
  case round =>
    obtain ⟨k, hk, rfl, hrow, hz, hbl⟩ := hrel
    have HR := hide hrow
    have HZ := hide hz
    have HB := hide hbl
    by_cases hlt : k < 8
    · obtain ⟨x, hx⟩ : ∃ x, Sha.start[k]? = some x := ⟨_, List.getElem?_eq_getElem (by simpa [Sha.start] using hlt)⟩
      obtain ⟨y, hy⟩ : ∃ y, gain[k]? = some y := ⟨_, List.getElem?_eq_getElem (by rw [hg.1]; exact hlt)⟩
      have c1 := hrow.word k x (by rw [Sha.mid_get _ _ _ (by simp [hg.1, Sha.start]; omega)]; exact hx)
      have f1 := hrow.frozen k
      have c2 : wr.cell? ⟨B, k, none⟩ = some (.int .u32 (y : Int)) := (hbl.cell (p := ⟨B, k, none⟩) (unhide HS).lt).trans ((unhide HS).cell k _ (by rw [List.getElem?_append_left (by simp [hg.1]; exact hlt)]; simp [hy, u]))
      have hA : ((x : Int) + (y : Int)) % 4294967296 = ((Sha.add x y : Nat) : Int) := by simp [Sha.add]
      have HN : Hid (((List.zipWith Sha.add Sha.start gain).take k ++ Sha.start.drop k).set k (Sha.add x y) = (List.zipWith Sha.add Sha.start gain).take (k + 1) ++ Sha.start.drop (k + 1)) := by
        have hl : k < (List.zipWith Sha.add Sha.start gain).length := by simp [hg.1, Sha.start]; exact hlt
        have e : (List.zipWith Sha.add Sha.start gain)[k] = Sha.add x y := by
          rw [List.getElem_zipWith]
          rw [List.getElem?_eq_some_iff] at hx hy
          obtain ⟨_, rfl⟩ := hx
          obtain ⟨_, rfl⟩ := hy
          rfl
        rw [← e]
        exact hide (Sha.mid_set _ _ k hl (by simpa [Sha.start] using hlt))
      generalize Sha.add x y = A at hA HN
      clear hrow hz hbl hx hy
      go_wp2_with fail
      go_region
      go_wp2_with fail
      go_roundw
      case rel =>
        refine ⟨k + 1, by omega, by go_num, ?_, ((unhide HZ).setOther _ (by simp) _).drew, ((unhide HB).setCell (p := ⟨w.heap.size + 1, k, none⟩) (by simp) _).drew⟩
        rw [← unhide HN]
        exact ((unhide HR).setWord k A).drew
      case measure => simp [intOf]; omega
    · obtain rfl : k = 8 := by omega
      rw [Sha.mid_all _ _ 8 (by simp [Sha.start]; omega) (by simp [Sha.start])] at HR
      clear hrow hz hbl
      go_wp2_with (first
        | (refine load_row (by rfl) 95 _ (by rfl) (w.heap.size + 1) (by rfl) 95 _ (unhide HR) 8 8 94 Tryz.underlying95 size30 (by simp [hg.1, Sha.start]) ?_)
        | (refine store_row (by rfl) 95 _ _ (by rfl) w.heap.size _ (by rfl) (by rfl) 95 (Sha.zero8.map u) (unhide HZ) 8 size30 (by simp [hg.1, Sha.start]) rfl (one_words _) ?_; intro w2 ho2 hr2; have HO2 := hide ho2; have HR2 := hide hr2; clear ho2 hr2))
      refine bodyPost_ret (v := .agg ((List.zipWith Sha.add Sha.start gain).map u).toArray) ?_ rfl ⟨rfl, ?_⟩
      · exact results_cell_row rfl _ _ w.heap.size 95 _ (0, 0) _ rfl (unhide HR2) Tryz.underlying95 rfl (by rw [size30]; simp [hg.1, Sha.start])
      · exact (unhide HB).trans ((unhide HO2).below (Nat.le_refl _))
end Go.Proofs.YtebjlmnhpfoglaaGreatDoor.Hsh

/-
  What rowOf answers: the row of words that a block comes to.
-/

namespace Go.Proofs.YtebjlmnhpfoglaaGreatDoor.Hsh
open Go.RowKit

def zero64 : List Nat := List.replicate 64 0

theorem below_drewN {B : Nat} {a w : World} (h : Below B a w) (q : Nat) : Below B a (w.drewN q) := ⟨h.os, h.tape, h.output, h.size, h.block⟩

theorem or4_bits (a b c d : Nat) (ha : a < 256) (hb : b < 256) (hc : c < 256) (hd : d < 256) :
    bits .or .u32 (bits .or .u32 (bits .or .u32 ((a : Int) * 16777216) ((b : Int) * 65536)) ((c : Int) * 256)) (d : Int) = ((((a * 256 + b) * 256 + c) * 256 + d : Nat) : Int) := by
  have e1 : (a : Int) * 16777216 = ((a * 16777216 : Nat) : Int) := by omega
  have e2 : (b : Int) * 65536 = ((b * 65536 : Nat) : Int) := by omega
  have e3 : (c : Int) * 256 = ((c * 256 : Nat) : Int) := by omega
  have h1 : a * 16777216 ||| b * 65536 < 4294967296 := Nat.or_lt_two_pow (n := 32) (by omega) (by omega)
  have h2 : a * 16777216 ||| b * 65536 ||| c * 256 < 4294967296 := Nat.or_lt_two_pow (n := 32) h1 (by omega)
  rw [e1, e2, e3, u32_or_nat _ _ (by omega) (by omega), u32_or_nat _ _ h1 (by omega), u32_or_nat _ _ h2 (by omega), Sha.or4 a b c d hb hc hd]

theorem s0_bits (x : Nat) (hx : x < 4294967296) : bits .xor .u32 (bits .xor .u32 (Sha.rotr x 7 : Int) (Sha.rotr x 18 : Int)) ((x : Int) / 8) = ((Sha.s0 x : Nat) : Int) := by
  have e : (x : Int) / 8 = ((x / 8 : Nat) : Int) := by omega
  rw [e, u32_xor_nat _ _ (Sha.rotr_lt _ _ hx) (Sha.rotr_lt _ _ hx), u32_xor_nat _ _ (Nat.xor_lt_two_pow (n := 32) (Sha.rotr_lt _ _ hx) (Sha.rotr_lt _ _ hx)) (by omega)]; rfl
theorem s1_bits (x : Nat) (hx : x < 4294967296) : bits .xor .u32 (bits .xor .u32 (Sha.rotr x 17 : Int) (Sha.rotr x 19 : Int)) ((x : Int) / 1024) = ((Sha.s1 x : Nat) : Int) := by
  have e : (x : Int) / 1024 = ((x / 1024 : Nat) : Int) := by omega
  rw [e, u32_xor_nat _ _ (Sha.rotr_lt _ _ hx) (Sha.rotr_lt _ _ hx), u32_xor_nat _ _ (Nat.xor_lt_two_pow (n := 32) (Sha.rotr_lt _ _ hx) (Sha.rotr_lt _ _ hx)) (by omega)]; rfl

theorem wide_set (bs : List UInt8) (hb : bs.length = 64) (j : Nat) (h1 : 16 ≤ j) (h2 : j < 64) :
    (Sha.wide bs (j - 16) ++ zero64.drop j).set j (Sha.next (Sha.wide bs (j - 16))) = Sha.wide bs (j + 1 - 16) ++ zero64.drop (j + 1) := by
  have hl := (Sha.ok_wide bs hb (j - 16)).1
  rw [show j + 1 - 16 = (j - 16) + 1 by omega, Sha.wide, List.set_append_right _ _ (by omega), hl, show j - (16 + (j - 16)) = 0 by omega,
    List.drop_eq_getElem_cons (show j < zero64.length by simpa [zero64] using h2), List.set_cons_zero, List.append_assoc, List.singleton_append]

theorem wide_get (bs : List UInt8) (hb : bs.length = 64) (j : Nat) (h1 : 16 ≤ j) (i : Nat) (hi : i < j) :
    (Sha.wide bs (j - 16) ++ zero64.drop j)[i]? = some ((Sha.wide bs (j - 16)).getD i 0) ∧ (Sha.wide bs (j - 16)).getD i 0 < 4294967296 := by
  have hk := Sha.ok_wide bs hb (j - 16)
  refine ⟨?_, hk.get i (by omega)⟩
  have hl : i < (Sha.wide bs (j - 16)).length := by rw [hk.1]; omega
  rw [List.getElem?_append_left hl, List.getElem?_eq_getElem hl]
  simp [List.getD, hl]

set_option maxRecDepth 100000 in
set_option maxHeartbeats 1000000 in
theorem rowOf_any (bs : List UInt8) (hb : bs.length = 64) (w : World) :
    Calls Tryz.prog 172 #[.agg (bs.map byteVal).toArray] w fun e w' => e = .returned (.agg ((Sha.wide bs 48).map u).toArray) ∧ Below w.heap.size w w' := by
  obtain ⟨vs, hvs⟩ : ∃ vs, bs.map byteVal = vs := ⟨_, rfl⟩
  rw [hvs]
  have HV := hide hvs
  clear hvs
  go_enter Tryz.func172, Tryz.ntmps172
  go_wp2_with fail
  go_loopw [10] (fun i wr => ∃ k : Nat, k ≤ 16 ∧ i = .int .i64 k ∧ VRow wr w.heap.size 154 vs ∧ VRow wr (w.heap.size + 1) 97 (zero64.map u) ∧ VRow wr (w.heap.size + 2) 97 (((Sha.firsts bs 16).take k ++ zero64.drop k).map u) ∧ Below w.heap.size w wr) (fun i _ => 16 - (intOf i).toNat)
  case atStart => exact ⟨0, Nat.zero_le _, rfl, ((VRow.newAt rfl).alloc _).alloc _, VRow.alloc (VRow.newAt (by simp)) _, VRow.newAt (by simp), (((Below.refl _ _).alloc (Nat.le_refl _) _).alloc (by simp) _).alloc (by simp; omega) _⟩
  case round =>
    obtain ⟨k, hk, rfl, hws, hz, hrow, hbl⟩ := hrel
    have HW := hide hws
    have HR := hide hrow
    have HZ := hide hz
    have HB := hide hbl
    by_cases hlt : k < 16
    · rw [← unhide HV] at hws
      have c0 := hws.byte (4 * k) (by omega)
      have c1 := hws.byte (4 * k + 1) (by omega)
      have c2 := hws.byte (4 * k + 2) (by omega)
      have c3 := hws.byte (4 * k + 3) (by omega)
      have b0 := bs[4 * k].toNat_lt
      have b1 := bs[4 * k + 1].toNat_lt
      have b2 := bs[4 * k + 2].toNat_lt
      have b3 := bs[4 * k + 3].toNat_lt
      have eW : Sha.wordAt bs k = ((bs[4 * k].toNat * 256 + bs[4 * k + 1].toNat) * 256 + bs[4 * k + 2].toNat) * 256 + bs[4 * k + 3].toNat := Sha.wordAt_four bs k (by omega)
      have HN : Hid (((Sha.firsts bs 16).take k ++ zero64.drop k).set k (Sha.wordAt bs k) = (Sha.firsts bs 16).take (k + 1) ++ zero64.drop (k + 1)) := by
        have hl : k < (Sha.firsts bs 16).length := by simpa [Sha.firsts] using hlt
        have e : (Sha.firsts bs 16)[k] = Sha.wordAt bs k := by simp [Sha.firsts]
        rw [← e]
        exact hide (Sha.mid_set _ _ k hl (by simp [zero64]; omega))
      generalize bs[4 * k].toNat = a0 at c0 b0 eW
      generalize bs[4 * k + 1].toNat = a1 at c1 b1 eW
      generalize bs[4 * k + 2].toNat = a2 at c2 b2 eW
      generalize bs[4 * k + 3].toNat = a3 at c3 b3 eW
      have hor := or4_bits a0 a1 a2 a3 b0 b1 b2 b3
      rw [← eW] at hor
      generalize Sha.wordAt bs k = X at hor HN
      clear eW
      have c4 : ∃ v, wr.cell? ⟨w.heap.size + 2, k, none⟩ = some v := ⟨_, hrow.cell k ((((Sha.firsts bs 16).take k ++ zero64.drop k).map u)[k]'(by simp [Sha.firsts, zero64]; omega)) (List.getElem?_eq_getElem _)⟩
      obtain ⟨v0, c4⟩ := c4
      have f4 := hrow.frozen k
      clear hws hz hrow hbl
      go_wp2_with fail
      go_region
      go_wp2_with fail
      go_roundw
      case rel =>
        refine ⟨k + 1, by omega, by go_num, ((unhide HW).setOther _ (by simp; omega) _).drew, ((unhide HZ).setOther _ (by simp) _).drew, ?_, ((unhide HB).setCell (p := ⟨w.heap.size + 2, k, none⟩) (by simp) _).drew⟩
        rw [← unhide HN]
        exact ((unhide HR).setWord k X).drew
      case measure => simp [intOf]; omega
    · obtain rfl : k = 16 := by omega
      have HR1 : Hid (VRow wr (w.heap.size + 2) 97 ((Sha.wide bs (16 - 16) ++ zero64.drop 16).map u)) := by
        rw [List.take_of_length_le (by simp [Sha.firsts])] at hrow
        exact hide hrow
      clear hws hz hrow hbl HR HW
      go_wp2_with fail
      go_loopw [5] (fun i wr => ∃ k : Nat, 16 ≤ k ∧ k ≤ 64 ∧ i = .int .i64 k ∧ VRow wr (w.heap.size + 1) 97 (zero64.map u) ∧ VRow wr (w.heap.size + 2) 97 ((Sha.wide bs (k - 16) ++ zero64.drop k).map u) ∧ Below w.heap.size w wr) (fun i _ => 64 - (intOf i).toNat)
      case atStart => exact ⟨16, Nat.le_refl _, by decide, rfl, unhide HZ, unhide HR1, unhide HB⟩
      case round =>
        clear HR1 HZ HB
        obtain ⟨k, hk, hk2, rfl, hz, hrow, hbl⟩ := hrel
        have HR := hide hrow
        have HZ := hide hz
        have HB := hide hbl
        by_cases hlt : k < 64
        · have HN := hide (wide_set bs hb k hk hlt)
          obtain ⟨g2, l2⟩ := wide_get bs hb k hk (k - 2) (by omega)
          obtain ⟨g15, l15⟩ := wide_get bs hb k hk (k - 15) (by omega)
          obtain ⟨g16, l16⟩ := wide_get bs hb k hk (k - 16) (by omega)
          obtain ⟨g7, l7⟩ := wide_get bs hb k hk (k - 7) (by omega)
          have c2 := hrow.word (k - 2) _ g2
          have c15 := hrow.word (k - 15) _ g15
          have c16 := hrow.word (k - 16) _ g16
          have c7 := hrow.word (k - 7) _ g7
          have eN : Sha.next (Sha.wide bs (k - 16)) = ((Sha.wide bs (k - 16)).getD (k - 16) 0 + Sha.s0 ((Sha.wide bs (k - 16)).getD (k - 15) 0) + (Sha.wide bs (k - 16)).getD (k - 7) 0 + Sha.s1 ((Sha.wide bs (k - 16)).getD (k - 2) 0)) % 4294967296 := by
            rw [Sha.next, (Sha.ok_wide bs hb (k - 16)).1, show 16 + (k - 16) = k by omega]
          have c4 : ∃ v, wr.cell? ⟨w.heap.size + 2, k, none⟩ = some v := ⟨_, hrow.cell k (((Sha.wide bs (k - 16) ++ zero64.drop k).map u)[k]'(by simp [(Sha.ok_wide bs hb (k - 16)).1, zero64]; omega)) (List.getElem?_eq_getElem _)⟩
          obtain ⟨v0, c4⟩ := c4
          have f4 := hrow.frozen k
          clear g2 g15 g16 g7
          generalize (Sha.wide bs (k - 16)).getD (k - 2) 0 = x2 at c2 eN l2
          generalize (Sha.wide bs (k - 16)).getD (k - 15) 0 = x15 at c15 eN l15
          generalize (Sha.wide bs (k - 16)).getD (k - 16) 0 = x16 at c16 eN l16
          generalize (Sha.wide bs (k - 16)).getD (k - 7) 0 = x7 at c7 eN l7
          generalize Sha.next (Sha.wide bs (k - 16)) = X at eN HN
          have hs0 := s0_bits x15 l15
          have hs1 := s1_bits x2 l2
          have hA : ((x16 : Int) + (Sha.s0 x15 : Int) + (x7 : Int) + (Sha.s1 x2 : Int)) % 4294967296 = (X : Int) := by rw [eN]; simp
          clear hz hrow hbl eN
          go_wp2_with fail
          go_quiet (fail)
          go_wp2_with (first | (go_at_call 178; refine (turned_any _ ?_ _ ?_ ?_ _).mono ?_ <;> first | assumption | decide | rintro x w1 ⟨rfl, rfl⟩))
          go_region
          go_wp2_with fail
          go_roundw
          case rel =>
            (repeat apply Exists.intro)
            refine ⟨?_, rfl⟩
            refine ⟨k + 1, by omega, by omega, by go_num, ((unhide HZ).drewN _).setOther _ (by simp) _, ?_, (below_drewN (unhide HB) _).setCell (p := ⟨w.heap.size + 2, k, none⟩) (by simp) _⟩
            rw [← unhide HN]
            exact ((unhide HR).drewN _).setWord k X
          case measure => simp [intOf]; omega
        · obtain rfl : k = 64 := by omega
          have HR2 : Hid (VRow wr (w.heap.size + 2) 97 ((Sha.wide bs 48).map u)) := by
            rw [List.drop_of_length_le (by simp [zero64]), List.append_nil] at hrow
            exact hide hrow
          have hL : (Sha.wide bs 48).length = 64 := (Sha.ok_wide bs hb 48).1
          clear hz hrow hbl HR
          go_wp2_with (first
            | (refine load_row (by rfl) 97 _ (by rfl) (w.heap.size + 2) (by rfl) 97 _ (unhide HR2) 64 64 94 Tryz.underlying97 size46 (by rw [List.length_map]; exact hL) ?_)
            | (refine store_row (by rfl) 97 _ _ (by rfl) (w.heap.size + 1) _ (by rfl) (by rfl) 97 (zero64.map u) (unhide HZ) 64 size46 (by rw [List.length_map]; exact hL) (by simp [zero64]) (one_words _) ?_; intro w2 ho2 hr2; have HO2 := hide ho2; have HR3 := hide hr2; clear ho2 hr2))
          refine bodyPost_ret (v := .agg ((Sha.wide bs 48).map u).toArray) ?_ rfl ⟨rfl, ?_⟩
          · exact results_cell_row rfl _ _ (w.heap.size + 1) 97 _ (0, 0) _ rfl (unhide HR3) Tryz.underlying97 rfl (by rw [size46]; simp [hL])
          · exact (unhide HB).trans ((unhide HO2).below (by omega))
end Go.Proofs.YtebjlmnhpfoglaaGreatDoor.Hsh

/-
  What take does: the full block goes into the words.
-/

namespace Go.Proofs.YtebjlmnhpfoglaaGreatDoor.Hsh
open Go.RowKit

def sumCells (gain : List Nat) (op : List UInt8) (len : Nat) : List Value := gain.map u ++ (op.map byteVal ++ [.int .u64 (len : Int)])

theorem VRow.setGain {W : World} {B : Nat} {g : List Nat} {op : List UInt8} {len : Nat} (h : VRow W B 156 (sumCells g op len)) (k x : Nat) (hk : k < g.length) : VRow (W.setCell ⟨B, k, none⟩ (.int .u32 (x : Int))) B 156 (sumCells (g.set k x) op len) := by
  have := h.set k (.int .u32 (x : Int))
  rwa [sumCells, List.set_append_left _ _ (by simpa using hk), show (Value.int .u32 (x : Int)) = u x from rfl, ← List.map_set] at this

theorem Glob.only {w w' : World} {B : Nat} (h : Glob w) (ho : Only B w w') (hB : 3 < B) : Glob w' := h.below (ho.below (Nat.le_refl _)) hB

theorem key_at (i : Nat) (h : i < 64) : Sha.keys[i]? = some (Sha.keys.getD i 0) := by
  have hl : i < Sha.keys.length := h
  simp [List.getD, hl]

theorem row_at (L : List Nat) (n i : Nat) (hL : L.length = n) (h : i < n) : L[i]? = some (L.getD i 0) := by
  have hl : i < L.length := by rw [hL]; exact h
  simp [List.getD, hl]

theorem start_gain (gain r : List Nat) : List.zipWith Sha.add Sha.start (List.zipWith Sha.add gain r) = List.zipWith Sha.add (List.zipWith Sha.add Sha.start gain) r := by
  apply List.ext_getElem
  · simp [Nat.min_assoc]
  · intro i h1 h2
    simp only [List.getElem_zipWith, Sha.add]
    omega

theorem step_mod (ws : List Nat) (k : Nat) : Sha.step ws (k % 4294967296) = Sha.step ws k := by
  unfold Sha.step
  split
  · simp only [Sha.t1, Nat.add_mod_mod]
  · rfl

set_option maxRecDepth 100000 in
set_option maxHeartbeats 1000000 in
theorem take_any (B : Nat) (gain : List Nat) (hg : Sha.Ok 8 gain) (op : List UInt8) (hop : op.length = 64) (len : Nat) (w : World) (hs : VRow w B 156 (sumCells gain op len)) (hG : Glob w) :
    Calls Tryz.prog 154 #[.pointer (some ⟨B, 0, none⟩)] w fun e w' => e = .returned (.tuple #[]) ∧ VRow w' B 156 (sumCells (List.zipWith Sha.add gain (Sha.run (List.zipWith Sha.add Sha.start gain) (Sha.wide op 48) 64)) op len) ∧ Below B w w' := by
  have HS := hide hs
  have HG := hide hG
  have HM : Hid (w.rangeAt B 8 (op.map byteVal)) := hide fun j v hv => by
    have hj : j < 64 := by
      have := (List.getElem?_eq_some_iff.1 hv).1
      simpa [hop] using this
    refine hs.cell (8 + j) v ?_
    rw [sumCells, List.getElem?_append_right (by simp [hg.1]), List.getElem?_append_left (by simp [hg.1, hop]; omega)]
    simpa [hg.1] using hv
  clear hs hG
  have hL : (Sha.wide op 48).length = 64 := (Sha.ok_wide op hop 48).1
  have hOW : Sha.Ok 64 (Sha.wide op 48) := Sha.ok_wide op hop 48
  have hOG : Sha.Ok 8 (List.zipWith Sha.add Sha.start gain) := ⟨by simp [Sha.start, hg.1], fun x hx => by
    simp only [List.mem_iff_getElem, List.getElem_zipWith] at hx
    obtain ⟨j, _, rfl⟩ := hx
    exact Nat.mod_lt _ (by decide)⟩
  generalize hRW : Sha.wide op 48 = RW at hL hOW
  generalize hWS : List.zipWith Sha.add Sha.start gain = WS at hOG
  obtain ⟨FIN, hFIN⟩ : ∃ FIN, Sha.run WS RW 64 = FIN := ⟨_, rfl⟩
  have hOF : Sha.Ok 8 FIN := hFIN ▸ hOG.run RW 64
  rw [hFIN]
  have HFIN : ∀ n, n = 64 → Sha.run WS RW n = FIN := fun n hn => hn ▸ hFIN
  clear hFIN
  have HRW : ∀ n, n = 48 → Sha.wide op n = RW := fun n hn => hn ▸ hRW
  have HWS := hide hWS
  clear hRW hWS
  go_enter Tryz.func154, Tryz.ntmps154
  go_wp2_with (first
    | (refine wpList_load_mid (by rfl) 154 _ (by rfl) B 8 (by rfl) (op.map byteVal) _ (unhide HM) Tryz.underlying154 rfl (by rw [size31]; simp [hop]) ?_)
    | (go_at_call 172; refine (rowOf_any op hop _).mono ?_; rintro e w1 ⟨rfl, hb1⟩; rw [HRW 48 rfl]; have HB1 := hide hb1; clear hb1)
    | (refine store_row (by rfl) 97 _ _ (by rfl) w1.heap.size (RW.map u) (by rfl) (by rfl) 97 (zero64.map u) (VRow.newAt rfl) 64 size46 (by simp [hL]) (by simp [zero64]) (one_words _) ?_; intro w2 ho2 hr2; have HB2 := hide (((unhide HB1).alloc (unhide HB1).size _).trans (ho2.below (unhide HB1).size)); have HR2 := hide hr2; clear ho2 hr2)
    | (go_at_call 157; refine (words_any B gain hg _ _ (show VRow w2 B 156 (gain.map u ++ _) from (unhide HS).below (unhide HB2) (unhide HS).lt) ((unhide HG).below (unhide HB2) (unhide HG).lt2)).mono ?_; rintro e w3 ⟨rfl, hb3⟩; rw [unhide HWS]; have HB3 := hide hb3; clear hb3)
    | (refine store_row (by rfl) 95 _ _ (by rfl) w3.heap.size (WS.map u) (by rfl) (by rfl) 95 (Sha.zero8.map u) (VRow.newAt rfl) 8 size30 (by simp [hOG.1]) rfl (one_words _) ?_; intro w4 ho4 hr4; have HO4 := hide ho4; have HR4 := hide hr4; clear ho4 hr4))
  have h23 := (unhide HB3).size
  have h12 := (unhide HR2).lt
  have h01 := (unhide HB1).size
  have HW4 : Hid (VRow w4 w1.heap.size 97 (RW.map u)) := ((((unhide HR2).below (unhide HB3) (unhide HR2).lt).alloc _).only (unhide HO4) (by omega))
  have HB4 : Hid (Below w.heap.size w w4) := (((unhide HB2).trans ((unhide HB3).mono (unhide HB2).size)).alloc (by omega) _).trans ((unhide HO4).below (by omega))
  clear HB1 HB2 HB3 HR2 HO4 HM
  go_loopw [13] (fun i wr => ∃ k : Nat, k ≤ 64 ∧ i = .int .i64 k ∧ VRow wr w3.heap.size 95 ((Sha.run WS RW k).map u) ∧ VRow wr w1.heap.size 97 (RW.map u) ∧ Below w.heap.size w wr) (fun i _ => 64 - (intOf i).toNat)
  case atStart => exact ⟨0, Nat.zero_le _, rfl, unhide HR4, unhide HW4, unhide HB4⟩
  case round =>
    clear HR4 HW4 HB4
    obtain ⟨k, hk, rfl, hws, hrow, hbl⟩ := hrel
    have HW := hide hws
    have HR := hide hrow
    have HB := hide hbl
    by_cases hlt : k < 64
    · have c1 := ((unhide HG).below hbl (unhide HG).lt2).added k _ (key_at k hlt)
      have c2 := hrow.word k _ (row_at RW 64 k hL hlt)
      have HN : Hid (Sha.step (Sha.run WS RW k) ((Sha.keys.getD k 0 + RW.getD k 0) % 4294967296) = Sha.run WS RW (k + 1)) := by rw [step_mod]; exact hide rfl
      have hA : IntKind.u32.wrap ((Sha.keys.getD k 0 : Int) + (RW.getD k 0 : Int)) = (((Sha.keys.getD k 0 + RW.getD k 0) % 4294967296 : Nat) : Int) := by rw [IntKind.wrap_u32]; simp
      generalize Sha.keys.getD k 0 = K at c1 hA HN
      generalize RW.getD k 0 = X at c2 hA HN
      generalize (K + X) % 4294967296 = KX at hA HN
      have HOK := hide (hOG.run RW k)
      generalize Sha.run WS RW k = Y at HW HN HOK
      clear hws hrow hbl
      go_wp2_with fail
      go_region_with (go_at_call 173; refine (turn_list w3.heap.size KX Y (unhide HOK) _ (VRow.drew (unhide HW))).mono ?_; rintro e w5 ⟨rfl, hr5, ho5⟩)
      all_goals
        go_wp2_with fail
        go_roundw
        case rel =>
          refine ⟨k + 1, by omega, by go_num, ?_, (unhide HR).drew.only ho5 (by omega), (unhide HB).drew.trans (ho5.below (by omega))⟩
          rw [← unhide HN]
          exact hr5
        case measure => simp [intOf]; omega
    · obtain rfl : k = 64 := by omega
      have HW2 : Hid (VRow wr w3.heap.size 95 (FIN.map u)) := by rw [HFIN 64 rfl] at hws; exact hide hws
      clear hws hrow hbl HW HR HFIN HRW
      have HS1 := hide ((unhide HS).below (unhide HB) (unhide HS).lt)
      have hBs := (unhide HS).lt
      go_wp2_with fail
      go_loopw [25] (fun i wr => ∃ k : Nat, k ≤ 8 ∧ i = .int .i64 k ∧ VRow wr w3.heap.size 95 (FIN.map u) ∧ VRow wr B 156 (sumCells ((List.zipWith Sha.add gain FIN).take k ++ gain.drop k) op len) ∧ Below B w wr) (fun i _ => 8 - (intOf i).toNat)
      case atStart => exact ⟨0, Nat.zero_le _, rfl, unhide HW2, unhide HS1, (unhide HB).mono (by omega)⟩
      case round =>
        clear HW2 HS1 HB
        obtain ⟨k, hk, rfl, hws, hrow, hbl⟩ := hrel
        have HW := hide hws
        have HR := hide hrow
        have HB := hide hbl
        by_cases hlt : k < 8
        · have hl : k < (List.zipWith Sha.add gain FIN).length := by simp [hg.1, hOF.1]; exact hlt
          have hgk : k < gain.length := by rw [hg.1]; exact hlt
          have c1 := hws.word k _ (row_at FIN 8 k hOF.1 hlt)
          have c2 : wr.cell? ⟨B, k, none⟩ = some (.int .u32 (gain.getD k 0 : Int)) := hrow.cell k _ (by
            rw [sumCells, List.getElem?_append_left (by simp [hg.1, hOF.1]; omega), List.getElem?_map, Sha.mid_get _ _ _ (by omega), row_at gain 8 k hg.1 hlt]; rfl)
          have f2 := hrow.frozen k
          have e : (List.zipWith Sha.add gain FIN)[k] = Sha.add (gain.getD k 0) (FIN.getD k 0) := by
            have h1 := row_at gain 8 k hg.1 hlt
            have h2 := row_at FIN 8 k hOF.1 hlt
            rw [List.getElem?_eq_some_iff] at h1 h2
            obtain ⟨_, h1⟩ := h1
            obtain ⟨_, h2⟩ := h2
            rw [List.getElem_zipWith, h1, h2]
          have HN : Hid (((List.zipWith Sha.add gain FIN).take k ++ gain.drop k).set k (Sha.add (gain.getD k 0) (FIN.getD k 0)) = (List.zipWith Sha.add gain FIN).take (k + 1) ++ gain.drop (k + 1)) := by
            rw [← e]
            exact hide (Sha.mid_set _ _ k hl hgk)
          have hA : IntKind.u32.wrap ((gain.getD k 0 : Int) + (FIN.getD k 0 : Int)) = ((Sha.add (gain.getD k 0) (FIN.getD k 0) : Nat) : Int) := by rw [IntKind.wrap_u32]; simp [Sha.add]
          have HL : Hid (k < ((List.zipWith Sha.add gain FIN).take k ++ gain.drop k).length) := hide (by simp [hg.1, hOF.1]; omega)
          generalize Sha.add (gain.getD k 0) (FIN.getD k 0) = A at hA HN
          generalize gain.getD k 0 = X at c2 hA
          generalize FIN.getD k 0 = Y at c1 hA
          clear hws hrow hbl e hl hgk
          go_wp2_with fail
          go_region
          go_wp2_with fail
          go_roundw
          case rel =>
            refine ⟨k + 1, by omega, by go_num, ((unhide HW).setOther _ (by simp; omega) _).drew, ?_, ((unhide HB).setCell (p := ⟨B, k, none⟩) (Nat.le_refl _) _).drew⟩
            rw [← unhide HN]
            exact ((unhide HR).setGain k A (unhide HL)).drew
          case measure => simp [intOf]; omega
        · obtain rfl : k = 8 := by omega
          rw [Sha.mid_all _ _ 8 (by simp [hg.1, hOF.1]) (by rw [hg.1]; exact Nat.le_refl _)] at HR
          clear hws hrow hbl
          go_wp2_with fail
          go_end0
          exact ⟨rfl, unhide HR, unhide HB⟩
end Go.Proofs.YtebjlmnhpfoglaaGreatDoor.Hsh

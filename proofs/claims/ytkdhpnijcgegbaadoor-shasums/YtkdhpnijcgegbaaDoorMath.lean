/-
  Plain facts on digests of 32 bytes (the common SHA-256) over rows of bytes, and on digests in signs: definitions, bounds, rows that are put together. No Go, no world.
-/
namespace Go.Proofs.YtkdhpnijcgegbaaDoor.Sha

def keys : List Nat := [1116352408, 1899447441, 3049323471, 3921009573, 961987163, 1508970993, 2453635748, 2870763221, 3624381080, 310598401, 607225278, 1426881987, 1925078388, 2162078206, 2614888103, 3248222580, 3835390401, 4022224774, 264347078, 604807628, 770255983, 1249150122, 1555081692, 1996064986, 2554220882, 2821834349, 2952996808, 3210313671, 3336571891, 3584528711, 113926993, 338241895, 666307205, 773529912, 1294757372, 1396182291, 1695183700, 1986661051, 2177026350, 2456956037, 2730485921, 2820302411, 3259730800, 3345764771, 3516065817, 3600352804, 4094571909, 275423344, 430227734, 506948616, 659060556, 883997877, 958139571, 1322822218, 1537002063, 1747873779, 1955562222, 2024104815, 2227730452, 2361852424, 2428436474, 2756734187, 3204031479, 3329325298]
def start : List Nat := [1779033703, 3144134277, 1013904242, 2773480762, 1359893119, 2600822924, 528734635, 1541459225]

def rotr (x n : Nat) : Nat := x / 2 ^ n ||| x * 2 ^ (32 - n) % 4294967296
def s0 (x : Nat) : Nat := rotr x 7 ^^^ rotr x 18 ^^^ x / 8
def s1 (x : Nat) : Nat := rotr x 17 ^^^ rotr x 19 ^^^ x / 1024
def S0 (a : Nat) : Nat := rotr a 2 ^^^ rotr a 13 ^^^ rotr a 22
def S1 (e : Nat) : Nat := rotr e 6 ^^^ rotr e 11 ^^^ rotr e 25
def ch (e f g : Nat) : Nat := (e &&& f) ||| ((4294967295 - e) &&& g)
def maj (a b c : Nat) : Nat := (a &&& b) ||| (a &&& c) ||| (b &&& c)
def t1 (e f g h k : Nat) : Nat := (h + S1 e + ch e f g + k) % 4294967296
def t2 (a b c : Nat) : Nat := (S0 a + maj a b c) % 4294967296
def step : List Nat → Nat → List Nat
  | [a, b, c, d, e, f, g, h], k => [(t1 e f g h k + t2 a b c) % 4294967296, a, b, c, (d + t1 e f g h k) % 4294967296, e, f, g]
  | ws, _ => ws
def add (a b : Nat) : Nat := (a + b) % 4294967296

def word (l : List UInt8) : Nat := l.foldl (fun v b => v * 256 + b.toNat) 0
def wordAt (bs : List UInt8) (i : Nat) : Nat := word ((bs.drop (4 * i)).take 4)
def next (l : List Nat) : Nat := (l.getD (l.length - 16) 0 + s0 (l.getD (l.length - 15) 0) + l.getD (l.length - 7) 0 + s1 (l.getD (l.length - 2) 0)) % 4294967296
def firsts (bs : List UInt8) (n : Nat) : List Nat := (List.range n).map (wordAt bs)
def wide (bs : List UInt8) : Nat → List Nat
  | 0 => firsts bs 16
  | n + 1 => wide bs n ++ [next (wide bs n)]
def run (ws w : List Nat) : Nat → List Nat
  | 0 => ws
  | i + 1 => step (run ws w i) (keys.getD i 0 + w.getD i 0)
def block (ws : List Nat) (bs : List UInt8) : List Nat := List.zipWith add ws (run ws (wide bs 48) 64)
def hashN (m : List UInt8) : Nat → List Nat
  | 0 => start
  | n + 1 => block (hashN m n) ((m.drop (64 * n)).take 64)
def be8 (v : Nat) : List UInt8 := (List.range 8).map fun i => UInt8.ofNat (v / 2 ^ (56 - 8 * i) % 256)
def pad (n : Nat) : List UInt8 := 128 :: (List.replicate ((119 - n % 64) % 64) 0 ++ be8 (n * 8))
def digest (ws : List Nat) : List UInt8 := (List.range 32).map fun i => UInt8.ofNat (ws.getD (i / 4) 0 / 2 ^ (24 - 8 * (i % 4)) % 256)
def full (m : List UInt8) : List UInt8 := m ++ pad m.length
def sha (m : List UInt8) : List UInt8 := digest (hashN (full m) ((full m).length / 64))

def zero8 : List Nat := [0, 0, 0, 0, 0, 0, 0, 0]

/-! bounds -/
def Ok (n : Nat) (ws : List Nat) : Prop := ws.length = n ∧ ∀ x ∈ ws, x < 4294967296

theorem rotr_lt (x n : Nat) (h : x < 4294967296) : rotr x n < 4294967296 :=
  Nat.or_lt_two_pow (n := 32) (Nat.lt_of_le_of_lt (Nat.div_le_self _ _) h) (Nat.mod_lt _ (by decide))
theorem S1_lt (x : Nat) (h : x < 4294967296) : S1 x < 4294967296 :=
  Nat.xor_lt_two_pow (n := 32) (Nat.xor_lt_two_pow (n := 32) (rotr_lt _ _ h) (rotr_lt _ _ h)) (rotr_lt _ _ h)
theorem S0_lt (x : Nat) (h : x < 4294967296) : S0 x < 4294967296 :=
  Nat.xor_lt_two_pow (n := 32) (Nat.xor_lt_two_pow (n := 32) (rotr_lt _ _ h) (rotr_lt _ _ h)) (rotr_lt _ _ h)
theorem s1_lt (x : Nat) (h : x < 4294967296) : s1 x < 4294967296 :=
  Nat.xor_lt_two_pow (n := 32) (Nat.xor_lt_two_pow (n := 32) (rotr_lt _ _ h) (rotr_lt _ _ h)) (Nat.lt_of_le_of_lt (Nat.div_le_self _ _) h)
theorem s0_lt (x : Nat) (h : x < 4294967296) : s0 x < 4294967296 :=
  Nat.xor_lt_two_pow (n := 32) (Nat.xor_lt_two_pow (n := 32) (rotr_lt _ _ h) (rotr_lt _ _ h)) (Nat.lt_of_le_of_lt (Nat.div_le_self _ _) h)
theorem and_lt (a b : Nat) (h : b < 4294967296) : a &&& b < 4294967296 := Nat.lt_of_le_of_lt Nat.and_le_right h
theorem ch_lt (e f g : Nat) (hf : f < 4294967296) (hg : g < 4294967296) : ch e f g < 4294967296 := Nat.or_lt_two_pow (n := 32) (and_lt _ _ hf) (and_lt _ _ hg)
theorem maj_lt (a b c : Nat) (hb : b < 4294967296) (hc : c < 4294967296) : maj a b c < 4294967296 :=
  Nat.or_lt_two_pow (n := 32) (Nat.or_lt_two_pow (n := 32) (and_lt _ _ hb) (and_lt _ _ hc)) (and_lt _ _ hc)
theorem t1_lt (e f g h k : Nat) : t1 e f g h k < 4294967296 := Nat.mod_lt _ (by decide)
theorem t2_lt (a b c : Nat) : t2 a b c < 4294967296 := Nat.mod_lt _ (by decide)

theorem Ok.eight {ws : List Nat} (h : Ok 8 ws) : ∃ a b c d e f g i : Nat, ws = [a, b, c, d, e, f, g, i] ∧ a < 4294967296 ∧ b < 4294967296 ∧ c < 4294967296 ∧ d < 4294967296 ∧ e < 4294967296 ∧ f < 4294967296 ∧ g < 4294967296 ∧ i < 4294967296 := by
  obtain ⟨hl, hx⟩ := h
  match ws, hl with
  | [a, b, c, d, e, f, g, i], _ => exact ⟨a, b, c, d, e, f, g, i, rfl, hx _ (by simp), hx _ (by simp), hx _ (by simp), hx _ (by simp), hx _ (by simp), hx _ (by simp), hx _ (by simp), hx _ (by simp)⟩

theorem Ok.step {ws : List Nat} (h : Ok 8 ws) (k : Nat) : Ok 8 (step ws k) := by
  obtain ⟨a, b, c, d, e, f, g, i, rfl, ha, hb, hc, hd, he, hf, hg, hi⟩ := h.eight
  refine ⟨rfl, fun x hx => ?_⟩
  simp only [Sha.step, List.mem_cons, List.not_mem_nil, or_false] at hx
  rcases hx with rfl | rfl | rfl | rfl | rfl | rfl | rfl | rfl <;> first | assumption | exact Nat.mod_lt _ (by decide)

theorem Ok.run {ws : List Nat} (h : Ok 8 ws) (w : List Nat) (i : Nat) : Ok 8 (run ws w i) := by
  induction i with
  | zero => exact h
  | succ i ih => exact ih.step _

theorem Ok.block {ws : List Nat} (h : Ok 8 ws) (bs : List UInt8) : Ok 8 (block ws bs) := by
  have h2 := h.run (wide bs 48) 64
  refine ⟨by simp [Sha.block, h.1, h2.1], fun x hx => ?_⟩
  simp only [Sha.block, List.mem_iff_getElem, List.getElem_zipWith] at hx
  obtain ⟨j, _, rfl⟩ := hx
  exact Nat.mod_lt _ (by decide)

theorem ok_start : Ok 8 start := ⟨rfl, by decide⟩
theorem ok_hashN (m : List UInt8) (n : Nat) : Ok 8 (hashN m n) := by
  induction n with
  | zero => exact ok_start
  | succ n ih => exact ih.block _

theorem word4 (a b c d : UInt8) : word [a, b, c, d] = ((a.toNat * 256 + b.toNat) * 256 + c.toNat) * 256 + d.toNat := by simp [word]

theorem wordAt_four (bs : List UInt8) (i : Nat) (h : 4 * i + 3 < bs.length) : wordAt bs i = ((bs[4 * i].toNat * 256 + bs[4 * i + 1].toNat) * 256 + bs[4 * i + 2].toNat) * 256 + bs[4 * i + 3].toNat := by
  have e : (bs.drop (4 * i)).take 4 = [bs[4 * i], bs[4 * i + 1], bs[4 * i + 2], bs[4 * i + 3]] := by
    apply List.ext_getElem
    · simp; omega
    · intro j h1 h2
      simp at h2
      rw [List.getElem_take, List.getElem_drop]
      rcases j with _ | _ | _ | _ | j <;> first | rfl | omega
  rw [wordAt, e, word4]

theorem or4 (a b c d : Nat) (hb : b < 256) (hc : c < 256) (hd : d < 256) :
    a * 16777216 ||| b * 65536 ||| c * 256 ||| d = ((a * 256 + b) * 256 + c) * 256 + d := by
  have e1 : a * 16777216 ||| b * 65536 = (a * 256 + b) * 65536 := by
    have h := Nat.shiftLeft_add_eq_or_of_lt (a := a) (i := 24) (b := b * 65536) (by omega)
    rw [Nat.shiftLeft_eq, show (2 : Nat) ^ 24 = 16777216 from rfl] at h
    rw [← h]; omega
  have e2 : (a * 256 + b) * 65536 ||| c * 256 = ((a * 256 + b) * 256 + c) * 256 := by
    have h := Nat.shiftLeft_add_eq_or_of_lt (a := a * 256 + b) (i := 16) (b := c * 256) (by omega)
    rw [Nat.shiftLeft_eq, show (2 : Nat) ^ 16 = 65536 from rfl] at h
    rw [← h]; omega
  have e3 : ((a * 256 + b) * 256 + c) * 256 ||| d = ((a * 256 + b) * 256 + c) * 256 + d := by
    have h := Nat.shiftLeft_add_eq_or_of_lt (a := (a * 256 + b) * 256 + c) (i := 8) (b := d) (by omega)
    rw [Nat.shiftLeft_eq, show (2 : Nat) ^ 8 = 256 from rfl] at h
    rw [← h]
  rw [e1, e2, e3]

theorem word_lt (bs : List UInt8) (i : Nat) (h : 4 * i + 3 < bs.length) : wordAt bs i < 4294967296 := by
  rw [wordAt_four bs i h]
  have := bs[4 * i].toNat_lt
  have := bs[4 * i + 1].toNat_lt
  have := bs[4 * i + 2].toNat_lt
  have := bs[4 * i + 3].toNat_lt
  omega

theorem ok_firsts (bs : List UInt8) (n : Nat) (h : 4 * n ≤ bs.length) : Ok n (firsts bs n) := by
  refine ⟨by simp [firsts], fun x hx => ?_⟩
  simp only [firsts, List.mem_map, List.mem_range] at hx
  obtain ⟨j, hj, rfl⟩ := hx
  exact word_lt _ _ (by omega)

theorem firsts_succ (bs : List UInt8) (n : Nat) : firsts bs (n + 1) = firsts bs n ++ [wordAt bs n] := by simp [firsts, List.range_succ]

theorem Ok.append {n : Nat} {ws : List Nat} (h : Ok n ws) (x : Nat) (hx : x < 4294967296) : Ok (n + 1) (ws ++ [x]) := by
  refine ⟨by simp [h.1], fun y hy => ?_⟩
  simp only [List.mem_append, List.mem_singleton] at hy
  rcases hy with hy | rfl
  · exact h.2 _ hy
  · exact hx

theorem ok_wide (bs : List UInt8) (h : bs.length = 64) (n : Nat) : Ok (16 + n) (wide bs n) := by
  induction n with
  | zero => exact ok_firsts bs 16 (by omega)
  | succ n ih => exact ih.append _ (Nat.mod_lt _ (by decide))

theorem Ok.get {n : Nat} {ws : List Nat} (h : Ok n ws) (i : Nat) (hi : i < n) : ws.getD i 0 < 4294967296 := by
  have hl : i < ws.length := by rw [h.1]; exact hi
  have e : ws.getD i 0 = ws[i] := by simp [List.getD, hl]
  rw [e]
  exact h.2 _ (List.getElem_mem _)

theorem keys_lt (i : Nat) (h : i < 64) : keys.getD i 0 < 4294967296 := (show Ok 64 keys from ⟨rfl, by decide⟩).get i h

theorem hashN_append (m t : List UInt8) (n : Nat) (h : 64 * n ≤ m.length) : hashN (m ++ t) n = hashN m n := by
  induction n with
  | zero => rfl
  | succ n ih =>
    have e : ((m ++ t).drop (64 * n)).take 64 = (m.drop (64 * n)).take 64 := by
      rw [List.drop_append_of_le_length (by omega), List.take_append_of_le_length (by simp; omega)]
    rw [hashN, hashN, ih (by omega), e]

theorem be8_len (v : Nat) : (be8 v).length = 8 := by simp [be8]
theorem pad_len (n : Nat) : (pad n).length = (119 - n % 64) % 64 + 9 := by simp [pad, be8_len]
theorem full_len (m : List UInt8) : (full m).length % 64 = 0 := by
  simp only [full, List.length_append, pad_len]
  omega
theorem digest_len (ws : List Nat) : (digest ws).length = 32 := by simp [digest]
theorem sha_len (m : List UInt8) : (sha m).length = 32 := digest_len _

/-! signs -/
def sign (n : Nat) : UInt8 := if n < 10 then UInt8.ofNat (48 + n) else UInt8.ofNat (87 + n)
def two (b : UInt8) : List UInt8 := [sign (b.toNat / 16), sign (b.toNat % 16)]
def hex (d : List UInt8) : List UInt8 := d.flatMap two
def num (c : UInt8) : Option Nat := if 48 ≤ c.toNat ∧ c.toNat ≤ 57 then some (c.toNat - 48) else if 97 ≤ c.toNat ∧ c.toNat ≤ 102 then some (c.toNat - 87) else none
def val (s : List UInt8) (i : Nat) : Nat := (num (s.getD i 0)).getD 0
def part (s : List UInt8) (i : Nat) : List UInt8 := (List.range 32).map fun j => if 2 * j + 1 < i then UInt8.ofNat (val s (2 * j) * 16 + val s (2 * j + 1)) else if 2 * j < i then UInt8.ofNat (val s (2 * j)) else 0
def zeros : List UInt8 := List.replicate 32 0
def bad (s : List UInt8) : Bool := (s.take 64).any fun c => (num c).isNone
def unhex (s : List UInt8) : List UInt8 × Nat := if bad s then (zeros, 7) else if s.length < 64 then (zeros, 5) else if 64 < s.length then (zeros, 6) else (part s 64, 0)

set_option maxRecDepth 100000 in
theorem shaAbc : hex (sha [97, 98, 99]) = [98, 97, 55, 56, 49, 54, 98, 102, 56, 102, 48, 49, 99, 102, 101, 97, 52, 49, 52, 49, 52, 48, 100, 101, 53, 100, 97, 101, 50, 50, 50, 51, 98, 48, 48, 51, 54, 49, 97, 51, 57, 54, 49, 55, 55, 97, 57, 99, 98, 52, 49, 48, 102, 102, 54, 49, 102, 50, 48, 48, 49, 53, 97, 100] := by decide +kernel
set_option maxRecDepth 100000 in
theorem shaNil : (hex (sha [])).take 8 = [101, 51, 98, 48, 99, 52, 52, 50] := by decide +kernel
end Go.Proofs.YtkdhpnijcgegbaaDoor.Sha

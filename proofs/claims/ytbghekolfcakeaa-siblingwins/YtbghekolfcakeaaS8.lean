/-
  A row of versions, sorted so that those that compare equal stay as they stood (stableCmpFunc, SortStableFunc).
-/
import Derived.Test.YtbghekolfcakeaaS5
namespace Go.Proofs.Ytbghekolfcakeaa
open Go.Shelf Go.RowKit Go.Lib Go.Sort

theorem enter56 : Enters Try.prog 56 := enters_of Try.func56 (by kernel_rfl) rfl
theorem enter79 : Enters Try.prog 79 := enters_of Try.func79 (by kernel_rfl) rfl
theorem enter82 : Enters Try.prog 82 := enters_of Try.func82 (by kernel_rfl) rfl
variable {cf : TP → TP → Int} {lt : TP → TP → Prop}

theorem symMerge_any (O : Ord cf lt) (w0 : World) (g : Nat) (d0 : Array TP) (R : RW0 w0 g d0) (sz : Nat) (h0 : d0.size = sz) (hsz : sz ≤ 100000) (hcmp : CmpLays Try.prog 56 #[] encT 5 cf g 0 sz w0) (cap : Nat) :
    ∀ (N : Nat) (dk : Array TP) (a m b : Nat), b - a ≤ N → dk.size = sz → a < m → m < b → b ≤ sz → Srt lt dk a m → Srt lt dk m b → Sep dk a m b → ∀ W, SW w0 g dk W →
      Calls Try.prog 79 #[.slice (some ⟨g, 0, none⟩) sz cap, .int .i64 (a : Nat), .int .i64 (m : Nat), .int .i64 (b : Nat), .func (.func 56) #[] #[]] W (Sorted 5 lt w0 g dk a b)
  | 0, dk, a, m, b, hN, _, h1, h2, _, _, _, _, _, _ => by omega
  | N + 1, dk, a, m, b, hN, hs, h1, h2, h3, hu, hv, hx, W, S => by
    by_cases hA : m = a + 1
    · exact symA lay Try.func79 56 #[] enter56 O w0 g d0 R sz h0 hsz hcmp dk hs cap a m b hA h2 h3 hv hx W S
    · by_cases hB : b = m + 1
      · exact symB lay Try.func79 56 #[] enter56 O w0 g d0 R sz h0 hsz hcmp dk hs cap a m b (by omega) hB h3 hu hx W S
      · have kr : ∀ (di : Array TP), di.size = sz → ∀ x y z, x < y → y < z → z ≤ sz → ∀ W, SW w0 g di W → Calls Try.prog 82 #[.slice (some ⟨g, 0, none⟩) sz cap, .int .i64 (x : Nat), .int .i64 (y : Nat), .int .i64 (z : Nat), .func (.func 56) #[] #[]] W (Moved 5 w0 g di (rh x y z)) := by
          intro di hd x y z x1 x2 x3 W' S'
          have := rotate_any w0 g d0 R di (hd.trans h0.symm) cap x y z x1 x2 (by omega) (by omega) (.func (.func 56) #[] #[]) W' S'
          rw [hd] at this
          exact this
        have ki : ∀ (di : Array TP), di.size = sz → ∀ x y z, z - x < b - a → x < y → y < z → z ≤ sz → Srt lt di x y → Srt lt di y z → Sep di x y z → ∀ W, SW w0 g di W → Calls Try.prog 79 #[.slice (some ⟨g, 0, none⟩) sz cap, .int .i64 (x : Nat), .int .i64 (y : Nat), .int .i64 (z : Nat), .func (.func 56) #[] #[]] W (Sorted 5 lt w0 g di x z) := by
          intro di hd x y z h4 x1 x2 x3 y1 y2 y3 W' S'
          exact symMerge_any O w0 g d0 R sz h0 hsz hcmp cap N di x y z (by omega) hd x1 x2 x3 y1 y2 y3 W' S'
        by_cases hC : (a + b) / 2 < m
        · exact symC1 lay Try.func79 56 #[] enter56 O w0 g d0 R sz h0 hsz hcmp dk hs cap a m b (by omega) (by omega) h3 _ rfl hC hu hv hx enter82 enter79 kr ki W S
        · exact symC2 lay Try.func79 56 #[] enter56 O w0 g d0 R sz h0 hsz hcmp dk hs cap a m b (by omega) (by omega) h3 _ rfl (by omega) hu hv hx enter82 enter79 kr ki W S

/-- A run that is sorted, of what stood there at first. -/
structure Blk (lt : TP → TP → Prop) (d : Array TP) (lo hi : Nat) : Prop where
  srt : Srt lt d lo hi
  tag : ∀ p, lo ≤ p → p < hi → lo ≤ d[p]!.1 ∧ d[p]!.1 < hi
theorem Blk.same {d d' : Array TP} {lo hi : Nat} (h : Blk lt d lo hi) (e : ∀ p, lo ≤ p → p < hi → d'[p]! = d[p]!) : Blk lt d' lo hi :=
  ⟨h.srt.same e, fun p h1 h2 => by rw [e p h1 h2]; exact h.tag p h1 h2⟩
theorem Blk.sep {d : Array TP} {a m b : Nat} (h1 : Blk lt d a m) (h2 : Blk lt d m b) : Sep d a m b := fun p q p1 p2 q1 q2 => by
  have := h1.tag p p1 p2
  have := h2.tag q q1 q2
  omega
theorem Blk.ins {d0 di d' : Array TP} {a b sz : Nat} (htag : ∀ p, p < sz → d0[p]!.1 = p) (he : ∀ p, a ≤ p → di[p]! = d0[p]!) (hb : b ≤ sz) (hm : Mix a b di d') (hs : Srt lt d' a b) : Blk lt d' a b :=
  ⟨hs, fun p p1 p2 => by
    obtain ⟨q, q1, q2, e⟩ := hm.into p p1 p2
    rw [e, he q q1, htag q (by omega)]
    omega⟩
theorem Blk.merge {d d' : Array TP} {a m b : Nat} (h1 : Blk lt d a m) (h2 : Blk lt d m b) (ham : a ≤ m) (hmb : m ≤ b) (hm : Mix a b d d') (hs : Srt lt d' a b) : Blk lt d' a b :=
  ⟨hs, fun p p1 p2 => by
    obtain ⟨q, q1, q2, e⟩ := hm.into p p1 p2
    rw [e]
    by_cases hq : q < m
    · have := h1.tag q q1 hq; omega
    · have := h2.tag q (by omega) q2; omega⟩
inductive Pre (lt : TP → TP → Prop) (d : Array TP) (B n : Nat) : Nat → Prop
  | zero : Pre lt d B n 0
  | more {a : Nat} : Pre lt d B n a → a + B ≤ n → Blk lt d a (a + B) → Pre lt d B n (a + B)
inductive Suf (lt : TP → TP → Prop) (d : Array TP) (B n : Nat) : Nat → Prop
  | done {a : Nat} : n ≤ a → Suf lt d B n a
  | more {a : Nat} : a < n → Blk lt d a (min (a + B) n) → Suf lt d B n (a + B) → Suf lt d B n a
theorem Pre.same {d d' : Array TP} {B n a : Nat} (h : Pre lt d B n a) : (∀ p, p < a → d'[p]! = d[p]!) → Pre lt d' B n a := by
  induction h with
  | zero => exact fun _ => .zero
  | more _ hn hb ih => exact fun e => .more (ih fun p hp => e p (by omega)) hn (hb.same fun p _ hp => e p hp)
theorem Suf.same {d d' : Array TP} {B n a : Nat} (h : Suf lt d B n a) : (∀ p, a ≤ p → d'[p]! = d[p]!) → Suf lt d' B n a := by
  induction h with
  | done hn => exact fun _ => .done hn
  | more hn hb _ ih => exact fun e => .more hn (hb.same fun p hp _ => e p hp) (ih fun p hp => e p (by omega))
theorem Pre.all {d : Array TP} {B n a : Nat} (hB : 0 < B) (h : Pre lt d B n a) : Suf lt d B n a → Suf lt d B n 0 := by
  induction h with
  | zero => exact id
  | more _ hn hb ih => exact fun hs => ih (.more (by omega) (by rw [Nat.min_eq_left hn]; exact hb) hs)
theorem Suf.two {d : Array TP} {B n a : Nat} (h : Suf lt d B n a) (hn : a + B < n) : Blk lt d a (a + B) ∧ Blk lt d (a + B) (min (a + B + B) n) ∧ Suf lt d B n (a + B + B) := by
  cases h with
  | done h => omega
  | more _ hb hs =>
    rw [show min (a + B) n = a + B by omega] at hb
    cases hs with
    | done h => omega
    | more _ hb' hs' => exact ⟨hb, hb', hs'⟩
theorem Suf.last {d : Array TP} {B n a : Nat} (h : Suf lt d B n a) (hn : n ≤ a + B) : Suf lt d (2 * B) n a := by
  cases h with
  | done h => exact .done h
  | more h hb _ => exact .more h (by rw [show min (a + 2 * B) n = min (a + B) n by omega]; exact hb) (.done (by omega))
theorem Suf.end {d : Array TP} {B n : Nat} (h : Suf lt d B n 0) (hn : n ≤ B) : Srt lt d 0 n := by
  cases h with
  | done h => exact srt_one _ (by omega)
  | more h hb _ => rw [show min (0 + B) n = n by omega] at hb; exact hb.srt
end Go.Proofs.Ytbghekolfcakeaa

namespace Go.Proofs.Ytbghekolfcakeaa
open Go.Shelf Go.RowKit Go.Lib Go.Sort

set_option maxRecDepth 100000 in
set_option maxHeartbeats 2000000 in
theorem stable_any {cf : TP → TP → Int} {lt : TP → TP → Prop} (O : Ord cf lt) (w0 : World) (g : Nat) (d0 : Array TP) (R : RW0 w0 g d0) (sz : Nat) (h0 : d0.size = sz) (hsz : sz ≤ 100000) (hcmp : CmpLays Try.prog 56 #[] encT 5 cf g 0 sz w0) (cap : Nat)
    (htag : ∀ p, p < sz → d0[p]!.1 = p) (W : World) (S : SW w0 g d0 W) :
    Calls Try.prog 73 #[.slice (some ⟨g, 0, none⟩) sz cap, .int .i64 sz, .func (.func 56) #[] #[]] W (Sorted 5 lt w0 g d0 0 sz) := by
  have SS := hide S
  have HT := hide htag
  have KI := hide fun (di : Array TP) (hd : di.size = sz) (a b : Nat) h1 (h2 : b ≤ sz) h3 W hW => (show Calls Try.prog 78 #[.slice (some ⟨g, 0, none⟩) sz cap, .int .i64 (a : Nat), .int .i64 (b : Nat), .func (.func 56) #[] #[]] W (Sorted 5 lt w0 g di a b) by
    have := insertion_gen lay Try.func78 56 #[] enter56 O w0 g d0 R (by rw [h0]; exact hcmp) di (hd.trans h0.symm) cap a b h1 (by omega : b ≤ di.size) (by omega) h3 W hW
    rw [hd] at this
    exact this)
  have KM := hide fun (di : Array TP) (hd : di.size = sz) a m b h1 h2 h3 x1 x2 x3 W hW => symMerge_any O w0 g d0 R sz h0 hsz hcmp cap (b - a) di a m b (Nat.le_refl _) hd h1 h2 h3 x1 x2 x3 W hW
  have H0 := hide h0
  clear S htag hcmp O R h0
  go_enter Try.func73, Try.ntmps73
  go_wp2_with fail
  go_loopw [7, 8] (fun u v wr => ∃ (a b : Nat) (di : Array TP), u = .int .i64 a ∧ v = .int .i64 b ∧ b = a + 20 ∧ a ≤ sz ∧ SW w0 g di wr ∧ Mix 0 sz d0 di ∧ (∀ p, a ≤ p → di[p]! = d0[p]!) ∧ Pre lt di 20 sz a) (fun u _ _ => sz - (intOf u).toNat)
  case atStart => exact ⟨0, 20, d0, rfl, rfl, rfl, Nat.zero_le _, unhide SS, Mix.refl _ _ _, fun _ _ => rfl, .zero⟩
  case round =>
    obtain ⟨a, b, di, rfl, rfl, hab, has, hsw, hmx, heq, hpre⟩ := hrel
    have S1 := hide hsw
    have HM := hide hmx
    have HE := hide heq
    have HP := hide hpre
    have HD := hide (hmx.size.trans (unhide H0))
    clear hsw hmx heq hpre
    by_cases hle : b ≤ sz
    · have hlez : decide ((b : Int) ≤ (sz : Int)) = true := decide_eq_true (by omega)
      obtain ⟨b2, hb2⟩ : ∃ x : Nat, x = b + 20 := ⟨_, rfl⟩
      have w1 : IntKind.i64.wrap ((b : Int) + 20) = (b2 : Int) := by rw [wrap_small (by omega) (by omega)]; omega
      have w2 : (b : Int) + 20 = (b2 : Int) := by omega
      have HAB := hide hab
      have HB2 := hide hb2
      have KK := hide (unhide KI di (unhide HD) a b (by omega) hle (fun p q p1 pq q2 => by rw [unhide HE p p1, unhide HE q (by omega), unhide HT p (by omega), unhide HT q (by omega)]; exact pq) wr (unhide S1))
      clear hab hb2
      go_wp2_with fail
      refine (unhide KK).mono ?_
      rintro e w1x ⟨rfl, d1, s1, m1, r1⟩
      have SA := hide s1
      have HB : Hid (Blk lt d1 a b) := hide (Blk.ins (unhide HT) (unhide HE) hle m1 r1)
      have M1 := hide m1
      clear s1 m1 r1 KK
      go_wp2_with fail
      go_roundw
      case rel =>
        have hab := unhide HAB
        refine ⟨b, b2, d1, rfl, rfl, unhide HB2, hle, unhide SA, (unhide HM).trans ((unhide M1).wide (Nat.zero_le _) hle), fun p hp => ?_, ?_⟩
        · rw [(unhide M1).out p (by omega)]; exact unhide HE p (by omega)
        · rw [hab]
          refine .more ((unhide HP).same fun p hp => (unhide M1).out p (by omega)) (by omega) (by rw [← hab]; exact unhide HB)
      case measure => have := unhide HAB; simp [intOf]; omega
    · have hlez : decide ((b : Int) ≤ (sz : Int)) = false := decide_eq_false (by omega)
      have KK := hide (unhide KI di (unhide HD) a sz has (Nat.le_refl _) (fun p q p1 pq q2 => by rw [unhide HE p p1, unhide HE q (by omega), unhide HT p (by omega), unhide HT q (by omega)]; exact pq) wr (unhide S1))
      have HAB := hide hab
      clear hab
      go_wp2_with fail
      refine (unhide KK).mono ?_
      rintro e w1x ⟨rfl, d1, s1, m1, r1⟩
      have SA := hide s1
      have HB : Hid (Blk lt d1 a sz) := hide (Blk.ins (unhide HT) (unhide HE) (Nat.le_refl _) m1 r1)
      have HSUF : Hid (Suf lt d1 20 sz 0) := hide (by
        have hab := unhide HAB
        refine Pre.all (by omega) ((unhide HP).same (d' := d1) fun p hp => m1.out p (by omega)) ?_
        by_cases hn : a < sz
        · exact .more hn (by rw [show min (a + 20) sz = sz by omega]; exact unhide HB) (.done (by omega))
        · exact .done (by omega))
      have M1 := hide ((unhide HM).trans (m1.wide (Nat.zero_le _) (Nat.le_refl _)))
      clear s1 m1 r1 KK HB HM HE HP HD HAB S1 hle hlez
      go_wp2_with fail
      go_loopw [6] (fun u wr => ∃ (B : Nat) (di : Array TP), u = .int .i64 B ∧ 20 ≤ B ∧ B ≤ 2 * sz + 20 ∧ SW w0 g di wr ∧ Mix 0 sz d0 di ∧ Suf lt di B sz 0) (fun u _ => 2 * sz + 20 - (intOf u).toNat)
      case atStart => exact ⟨20, d1, rfl, Nat.le_refl _, by omega, unhide SA, unhide M1, unhide HSUF⟩
      case round =>
        obtain ⟨B, di, rfl, hB, hB2, hsw, hmx, hsuf⟩ := hrel
        have S1 := hide hsw
        have HM := hide hmx
        have HSF := hide hsuf
        clear hsw hmx hsuf SA M1 HSUF
        by_cases hlt : B < sz
        · have hltz : decide ((B : Int) < (sz : Int)) = true := decide_eq_true (by omega)
          obtain ⟨BB, hBB⟩ : ∃ x : Nat, x = 2 * B := ⟨_, rfl⟩
          have w1 : IntKind.i64.wrap (2 * (B : Int)) = (BB : Int) := by rw [wrap_small (by omega) (by omega)]; omega
          have w2 : 2 * (B : Int) = (BB : Int) := by omega
          have w3 : IntKind.i64.wrap ((B : Int) * 2) = (BB : Int) := by rw [wrap_small (by omega) (by omega)]; omega
          have w4 : (B : Int) * 2 = (BB : Int) := by omega
          have HBB := hide hBB
          have hBBs : BB ≤ 200000 := by omega
          clear hBB
          generalize wr = wb at S1 ⊢
          go_wp2_with fail
          go_loopw [7, 8] (fun u v wr => ∃ (a b : Nat) (di : Array TP), u = .int .i64 a ∧ v = .int .i64 b ∧ b = a + BB ∧ a ≤ sz ∧ SW w0 g di wr ∧ Mix 0 sz d0 di ∧ Pre lt di BB sz a ∧ Suf lt di B sz a) (fun u _ _ => sz - (intOf u).toNat)
          case atStart => exact ⟨0, BB, di, rfl, rfl, by omega, Nat.zero_le _, unhide S1, unhide HM, .zero, unhide HSF⟩
          case round =>
            obtain ⟨a, b, di, rfl, rfl, hab, has, hsw, hmx, hpre, hsuf⟩ := hrel
            have S2 := hide hsw
            have HM2 := hide hmx
            have HP := hide hpre
            have HF := hide hsuf
            have HD := hide (hmx.size.trans (unhide H0))
            clear hsw hmx hpre hsuf S1 HM HSF
            obtain ⟨m, hm⟩ : ∃ x : Nat, x = a + B := ⟨_, rfl⟩
            have w5 : IntKind.i64.wrap ((a : Int) + (B : Int)) = (m : Int) := by rw [wrap_small (by omega) (by omega)]; omega
            have w6 : (a : Int) + (B : Int) = (m : Int) := by omega
            have HAB : Hid (b = a + BB ∧ m = a + B ∧ BB = 2 * B) := hide ⟨hab, hm, unhide HBB⟩
            by_cases hle : b ≤ sz
            · have hlez : decide ((b : Int) ≤ (sz : Int)) = true := decide_eq_true (by omega)
              obtain ⟨b2, hb2⟩ : ∃ x : Nat, x = b + BB := ⟨_, rfl⟩
              have w7 : IntKind.i64.wrap ((b : Int) + (BB : Int)) = (b2 : Int) := by rw [wrap_small (by omega) (by omega)]; omega
              have w8 : (b : Int) + (BB : Int) = (b2 : Int) := by omega
              have HTW : Hid (Blk lt di a m ∧ Blk lt di m b ∧ Suf lt di B sz b) := hide (by
                have h := (unhide HF).two (by have := unhide HBB; omega)
                rw [show a + B + B = b by have := unhide HBB; omega, show min b sz = b by omega, ← hm] at h
                exact h)
              have KK := hide (unhide KM di (unhide HD) a m b (by omega) (by have := unhide HBB; omega) hle (unhide HTW).1.srt (unhide HTW).2.1.srt ((unhide HTW).1.sep (unhide HTW).2.1) wr (unhide S2))
              have HB2' := hide hb2
              clear hab hm hb2
              go_wp2_with fail
              refine (unhide KK).mono ?_
              rintro e w1x ⟨rfl, d1, s1, m1, r1⟩
              have SA := hide s1
              have HBL : Hid (Blk lt d1 a b) := hide ((unhide HTW).1.merge (unhide HTW).2.1 (by have := unhide HAB; omega) (by have := unhide HAB; omega) m1 r1)
              have M1 := hide m1
              clear s1 m1 r1 KK
              go_wp2_with fail
              go_roundw
              case rel =>
                have hab := (unhide HAB).1
                refine ⟨b, b2, d1, rfl, rfl, unhide HB2', hle, unhide SA, (unhide HM2).trans ((unhide M1).wide (Nat.zero_le _) hle), ?_, (unhide HTW).2.2.same fun p hp => (unhide M1).out p (by omega)⟩
                rw [hab]
                exact .more ((unhide HP).same fun p hp => (unhide M1).out p (by omega)) (by omega) (by rw [← hab]; exact unhide HBL)
              case measure => have := unhide HAB; simp [intOf]; omega
            · have hlez : decide ((b : Int) ≤ (sz : Int)) = false := decide_eq_false (by omega)
              by_cases hms : m < sz
              · have hmz : decide ((m : Int) < (sz : Int)) = true := decide_eq_true (by omega)
                have HTW : Hid (Blk lt di a m ∧ Blk lt di m sz) := hide (by
                  have h := (unhide HF).two (by omega)
                  rw [show min (a + B + B) sz = sz by have := unhide HBB; omega, ← hm] at h
                  exact ⟨h.1, h.2.1⟩)
                have KK := hide (unhide KM di (unhide HD) a m sz (by omega) hms (Nat.le_refl _) (unhide HTW).1.srt (unhide HTW).2.srt ((unhide HTW).1.sep (unhide HTW).2) wr (unhide S2))
                clear hab hm
                go_wp2_with fail
                refine (unhide KK).mono ?_
                rintro e w1x ⟨rfl, d1, s1, m1, r1⟩
                have SA := hide s1
                have HSUF : Hid (Suf lt d1 BB sz 0) := hide (by
                  have hab := unhide HAB
                  refine Pre.all (by omega) ((unhide HP).same (d' := d1) fun p hp => m1.out p (by omega)) ?_
                  exact .more (by omega) (by rw [show min (a + BB) sz = sz by omega]; exact (unhide HTW).1.merge (unhide HTW).2 (by omega) (by omega) m1 r1) (.done (by omega)))
                have M1 := hide ((unhide HM2).trans (m1.wide (Nat.zero_le _) (Nat.le_refl _)))
                clear s1 m1 r1 KK
                go_wp2_with fail
                go_roundw
                case rel => exact ⟨BB, d1, rfl, by have := unhide HBB; omega, by have := unhide HBB; omega, unhide SA, unhide M1, unhide HSUF⟩
                case measure => have := unhide HBB; simp [intOf]; omega
              · have hmz : decide ((m : Int) < (sz : Int)) = false := decide_eq_false (by omega)
                have HSUF : Hid (Suf lt di BB sz 0) := hide (by
                  refine Pre.all (by omega) (unhide HP) ?_
                  rw [unhide HBB]
                  exact (unhide HF).last (by omega))
                clear hab hm
                go_wp2_with fail
                go_roundw
                case rel => exact ⟨BB, di, rfl, by have := unhide HBB; omega, by have := unhide HBB; omega, unhide S2, unhide HM2, unhide HSUF⟩
                case measure => have := unhide HBB; simp [intOf]; omega
        · have hltz : decide ((B : Int) < (sz : Int)) = false := decide_eq_false (by omega)
          have HEND := hide ((unhide HSF).end (by omega))
          go_wp2_with fail
          go_end0
          exact ⟨rfl, di, unhide S1, unhide HM, unhide HEND⟩

set_option maxRecDepth 100000 in
set_option maxHeartbeats 400000 in
theorem sortStable_any {cf : TP → TP → Int} {lt : TP → TP → Prop} (O : Ord cf lt) (w0 : World) (g : Nat) (d0 : Array TP) (R : RW0 w0 g d0) (sz : Nat) (h0 : d0.size = sz) (hsz : sz ≤ 100000) (hcmp : CmpLays Try.prog 56 #[] encT 5 cf g 0 sz w0) (cap : Nat)
    (htag : ∀ p, p < sz → d0[p]!.1 = p) (W : World) (S : SW w0 g d0 W) :
    Calls Try.prog 55 #[.slice (some ⟨g, 0, none⟩) sz cap, .func (.func 56) #[] #[]] W (Sorted 5 lt w0 g d0 0 sz) := by
  have K := hide (stable_any O w0 g d0 R sz h0 hsz hcmp cap htag W S)
  clear O R hcmp htag S h0
  go_enter Try.func55, Try.ntmps55
  go_wp2_with fail
  refine (unhide K).mono ?_
  rintro e w1 ⟨rfl, d1, s1, m1, r1⟩
  have H1 := hide s1
  have H2 := hide m1
  have H3 := hide r1
  clear s1 m1 r1
  go_wp2_with fail
  go_end0
  exact ⟨rfl, d1, unhide H1, unhide H2, unhide H3⟩
end Go.Proofs.Ytbghekolfcakeaa

/-
  Two sorted runs of versions made one (symMergeCmpFunc).
-/
import Derived.Test.YtbghekolfcakeaaS3
namespace Go.Proofs.Ytbghekolfcakeaa
open Go.Shelf Go.RowKit Go.Lib Go.Sort

theorem shiftA {dk dj : Array TP} {a q : Nat} (ha : a ≤ q) (hq : q + 1 < dk.size) (hs : dj.size = dk.size) (h : ∀ p, dj[p]! = dk[rh a (a + 1) (q + 1) p]!) : ∀ p, (swp dj q (q + 1))[p]! = dk[rh a (a + 1) (q + 2) p]! := fun p => by
  rw [swp_get dj (by omega) (by omega), h, h, h]
  have e : ∀ x y : Nat, x = y → dk[x]! = dk[y]! := fun x y e => by rw [e]
  split
  · refine e _ _ ?_
    unfold rh
    split <;> split <;> (try split) <;> (try split) <;> omega
  · split
    · refine e _ _ ?_
      unfold rh
      split <;> split <;> (try split) <;> (try split) <;> omega
    · refine e _ _ ?_
      unfold rh
      split <;> split <;> (try split) <;> (try split) <;> omega

set_option maxRecDepth 100000 in
set_option maxHeartbeats 2000000 in
theorem symA {P : Program} {k : Nat} (L : Lay P k) (F79 : P.funcs[79]? = some Try.f79) (gc : Nat) (cb : Array Value) (eg : ∀ args w, (callFunc gc args).run P w = .ok (.enter gc args) w) {cf : TP → TP → Int} {lt : TP → TP → Prop} (O : Ord cf lt)
    (w0 : World) (g : Nat) (d0 : Array TP) (R : RowK encT k w0 g 0 d0) (sz : Nat) (h0 : d0.size = sz) (hsz : sz ≤ 100000) (hcmp : CmpLays P gc cb encT k cf g 0 sz w0) (dk : Array TP) (hs : dk.size = sz) (cap a m b : Nat) (hma : m = a + 1) (hmb : m < b) (hb : b ≤ sz) (hv : Srt lt dk m b) (hx : Sep dk a m b) (W : World) (S : SWK encT k w0 g 0 dk W) :
    Calls P 79 #[.slice (some ⟨g, 0, none⟩) sz cap, .int .i64 a, .int .i64 m, .int .i64 b, .func (.func gc) #[] cb] W (Sorted k lt w0 g dk a b) := by
  have mixed := L.mixed; have t3 := L.t3; have a3 := L.a3; have z3 := L.z3; have t4 := L.t4; have a4 := L.a4; have z4 := L.z4; have t22 := L.t22; have a22 := L.a22; have z22 := L.z22; have t92 := L.t92; have aE := L.aE; have zE := L.zE
  have u22 := run_underlying L.t22
  have SS : Aside (SWK encT k w0 g 0 dk W) := S
  have RR : Aside (RowK encT k w0 g 0 d0) := R
  have HC : Aside (CmpLays P gc cb encT k cf g 0 sz w0) := hcmp
  have OO := hide O
  have HS := hide hs
  have H0 := hide h0
  have HV := hide hv
  have HX := hide hx
  have HMA := hide hma
  have w1 : IntKind.i64.wrap ((m : Int) - (a : Int)) = 1 := by rw [IntKind.wrap_i64]; omega
  have w1' : (m : Int) - (a : Int) = 1 := by omega
  clear S R hcmp O hs h0 hv hx hma
  go_enter F79, Try.ntmps79
  go_wp2
  go_loopg [10, 11] (b - m) (fun gh vi vj wr => ∃ (i j : Nat), vi = .int .i64 i ∧ vj = .int .i64 j ∧ m ≤ i ∧ i ≤ j ∧ j ≤ b ∧ j - i ≤ gh ∧ Aside (SWK encT k w0 g 0 dk wr) ∧ Hid (i = m ∨ lt dk[i - 1]! dk[a]!) ∧ Hid (j = b ∨ lt dk[a]! dk[j]!))
  case atStart => exact ⟨m, b, rfl, rfl, Nat.le_refl _, by omega, Nat.le_refl _, Nat.le_refl _, SS, hide (.inl rfl), hide (.inl rfl)⟩
  case round =>
    obtain ⟨i, j, rfl, rfl, hmi, hij, hjb, hgh, S1, HI, HJ⟩ := hrel
    by_cases hlt : i < j
    · have hltz : (i : Int) < (j : Int) := by omega
      obtain ⟨h, hh⟩ : ∃ h : Nat, h = (i + j) / 2 := ⟨_, rfl⟩
      have hki : ((i : Int) + (j : Int)) / 2 = (h : Int) := by omega
      have hhi : i ≤ h := by omega
      have hhj : h < j := by omega
      have q1 : (h : Int) < (sz : Int) := by omega
      have q2 : (a : Int) < (sz : Int) := by have := unhide HMA; omega
      have HLT : Hid (cf dk[h]! dk[a]! < 0 → lt dk[h]! dk[a]!) := hide (unhide OO).less
      have HGT : Hid (¬ cf dk[h]! dk[a]! < 0 → lt dk[a]! dk[h]!) := hide (fun hn => (unhide OO).more hn (unhide HX a h (Nat.le_refl _) (by have := unhide HMA; omega) (by omega) (by omega)))
      have l1 := fun n' os' => zadd (S1.out.ld RR.out ((unhide HS).trans (unhide H0).symm) P h (by have := unhide HS; omega) n' os')
      have l2 := fun n' os' => zadd (S1.out.ld RR.out ((unhide HS).trans (unhide H0).symm) P a (by have := unhide HS; have := unhide HMA; omega) n' os')
      have hcg := fun n' os' => S1.out.cmp HC.out (unhide HS) dk[h]! dk[a]! n' os'
      clear hh
      by_cases hlv : cf dk[h]! dk[a]! < 0
      · go_wp2_with fail
        go_quiet_grown (first | (go_at_fn gc; refine Calls.grown_of (hcg _ _)))
        have S2 : Aside (SWK encT k w0 g 0 dk (grow (wr.drewN nq) osq)) := S1.out.grown nq osq
        clear l1 l2 hcg S1
        go_wp2
        go_roundg (j - (h + 1))
        case measure => omega
        case rel => exact ⟨h + 1, j, by go_num, rfl, by omega, by omega, hjb, Nat.le_refl _, S2, hide (.inr (by rw [Nat.add_sub_cancel]; exact unhide HLT hlv)), HJ⟩
      · go_wp2_with fail
        go_quiet_grown (first | (go_at_fn gc; refine Calls.grown_of (hcg _ _)))
        have S2 : Aside (SWK encT k w0 g 0 dk (grow (wr.drewN nq) osq)) := S1.out.grown nq osq
        clear l1 l2 hcg S1
        go_wp2
        go_roundg (h - i)
        case measure => omega
        case rel => exact ⟨i, h, rfl, rfl, hmi, by omega, by omega, Nat.le_refl _, S2, HI, hide (.inr (unhide HGT hlv))⟩
    · have hltz : ¬ (i : Int) < (j : Int) := by omega
      obtain rfl : i = j := by omega
      obtain ⟨e, he⟩ : ∃ e, i = e + 1 := ⟨i - 1, by have := unhide HMA; omega⟩
      subst he
      have HAE : Hid (a ≤ e) := hide (by have := unhide HMA; omega)
      have hwp : IntKind.i64.wrap (e : Int) = (e : Int) := by rw [IntKind.wrap_i64]; omega
      go_wp2
      go_loopg [13] (e - a) (fun gh vq wr => ∃ (q : Nat) (dj : Array TP), vq = .int .i64 q ∧ a ≤ q ∧ q ≤ e ∧ e - q ≤ gh ∧ Hid (dj.size = dk.size) ∧ Aside (SWK encT k w0 g 0 dj wr) ∧ Hid (∀ p, dj[p]! = dk[rh a (a + 1) (q + 1) p]!))
      case atStart => exact ⟨a, dk, rfl, Nat.le_refl _, unhide HAE, Nat.le_refl _, hide rfl, S1, hide (fun p => by rw [rh_id' (by omega)])⟩
      case round =>
        obtain ⟨q, dj, rfl, haq, hqe, hg2, HSJ, S3, HP⟩ := hrel
        by_cases hql : q < e
        · have hqz : (q : Int) < (e : Int) := by omega
          have HLJ : Hid (dj.size = sz) := hide ((unhide HSJ).trans (unhide HS))
          have HQ : Hid (dj.size = d0.size) := hide ((unhide HLJ).trans (unhide H0).symm)
          have HNX := hide (shiftA haq (by have := unhide HS; omega) (unhide HSJ) (unhide HP))
          have p0 : (0 : Int) ≤ (q : Int) + 1 := by omega
          have e0 : ((q : Int) + 1).toNat = q + 1 := by omega
          have q3 : (q : Int) + 1 < (sz : Int) := by omega
          have q4 : (q : Int) < (sz : Int) := by omega
          have S5 : Aside (SWK encT k w0 g 0 (swp dj (q) (q + 1)) ((wr.drew.setCells g (0 + (q) * k) (encT dj[q + 1]!)).setCells g (0 + (q + 1) * k) (encT dj[q]!))) := S3.out.swapped RR.out (q) (q + 1) (by have := unhide HLJ; omega) (by have := unhide HLJ; omega)
          have m1 := S3.out.ld1 RR.out (unhide HQ) P (q) (by have := unhide HLJ; omega)
          have m2 := S3.out.ld1 RR.out (unhide HQ) P (q + 1) (by have := unhide HLJ; omega)
          have s1 := S3.out.st1 RR.out (unhide HQ) P (q) (by have := unhide HLJ; omega) dj[q + 1]!
          have s2 := S3.out.st2 RR.out (unhide HQ) P (q) (q + 1) (by have := unhide HLJ; omega) (by have := unhide HLJ; omega) dj[q + 1]! dj[q]!
          have n1 : (encT dj[q]!).length = k := RR.out.hk _
          have n2 : (encT dj[q + 1]!).length = k := RR.out.hk _
          rw [Nat.zero_add] at m1 m2 s1
          rw [Nat.zero_add, Nat.zero_add] at s2 S5
          generalize encT dj[q]! = cI at S5 m1 s2 n1
          generalize encT dj[q + 1]! = cJ at S5 m2 s1 s2 n2
          clear S3
          go_wp2_with fail
          go_big_region_o
          clear m1 m2 s1 s2
          generalize (wr.drew.setCells g ((q) * k) cJ).setCells g ((q + 1) * k) cI = w2 at S5 ⊢
          go_wp2
          go_roundg (e - (q + 1))
          case measure => omega
          case rel => exact ⟨q + 1, _, by go_num, by omega, by omega, Nat.le_refl _, hide (by rw [size_swp]; exact unhide HSJ), S5, HNX⟩
        · have hqz : ¬ (q : Int) < (e : Int) := by omega
          obtain rfl : q = e := by omega
          have HEND : Hid (Mix a b dk dj ∧ Srt lt dj a b) := hide ⟨(Mix.of_rh (unhide HSJ) (by omega) (by omega) (unhide HP)).wide (Nat.le_refl _) hjb, ins_first (unhide OO) (by rw [← unhide HMA]; exact unhide HV) (by omega) hjb (by rw [← unhide HMA]; exact unhide HI) (unhide HJ) (unhide HP)⟩
          go_wp2
          (try simp only [Exit.inBlock, Exit.then])
          refine bodyPost_ret (results_none rfl _ _ _) rfl ?_
          exact ⟨rfl, dj, S3.out, (unhide HEND).1, (unhide HEND).2⟩

set_option maxRecDepth 100000 in
set_option maxHeartbeats 2000000 in
theorem symB {P : Program} {k : Nat} (L : Lay P k) (F79 : P.funcs[79]? = some Try.f79) (gc : Nat) (cb : Array Value) (eg : ∀ args w, (callFunc gc args).run P w = .ok (.enter gc args) w) {cf : TP → TP → Int} {lt : TP → TP → Prop} (O : Ord cf lt)
    (w0 : World) (g : Nat) (d0 : Array TP) (R : RowK encT k w0 g 0 d0) (sz : Nat) (h0 : d0.size = sz) (hsz : sz ≤ 100000) (hcmp : CmpLays P gc cb encT k cf g 0 sz w0) (dk : Array TP) (hs : dk.size = sz) (cap a m b : Nat) (hma : a + 1 < m) (hmb : b = m + 1) (hb : b ≤ sz) (hu : Srt lt dk a m) (hx : Sep dk a m b) (W : World) (S : SWK encT k w0 g 0 dk W) :
    Calls P 79 #[.slice (some ⟨g, 0, none⟩) sz cap, .int .i64 a, .int .i64 m, .int .i64 b, .func (.func gc) #[] cb] W (Sorted k lt w0 g dk a b) := by
  have mixed := L.mixed; have t3 := L.t3; have a3 := L.a3; have z3 := L.z3; have t4 := L.t4; have a4 := L.a4; have z4 := L.z4; have t22 := L.t22; have a22 := L.a22; have z22 := L.z22; have t92 := L.t92; have aE := L.aE; have zE := L.zE
  have u22 := run_underlying L.t22
  have SS : Aside (SWK encT k w0 g 0 dk W) := S
  have RR : Aside (RowK encT k w0 g 0 d0) := R
  have HC : Aside (CmpLays P gc cb encT k cf g 0 sz w0) := hcmp
  have OO := hide O
  have HS := hide hs
  have H0 := hide h0
  have HU := hide hu
  have HX := hide hx
  have HMB := hide hmb
  obtain ⟨am, ham⟩ : ∃ x : Nat, m = a + x := ⟨m - a, by omega⟩
  have w1 : IntKind.i64.wrap ((m : Int) - (a : Int)) = (am : Int) := by rw [IntKind.wrap_i64]; omega
  have w1' : (m : Int) - (a : Int) = (am : Int) := by omega
  have w1b : ((am : Int) == 1) = false := by simp; omega
  have w2 : IntKind.i64.wrap ((b : Int) - (m : Int)) = 1 := by rw [IntKind.wrap_i64]; omega
  have w2' : (b : Int) - (m : Int) = 1 := by omega
  clear S R hcmp O hs h0 hu hx hmb ham
  go_enter F79, Try.ntmps79
  go_wp2
  go_loopg [14, 15] (m - a) (fun gh vi vj wr => ∃ (i j : Nat), vi = .int .i64 i ∧ vj = .int .i64 j ∧ a ≤ i ∧ i ≤ j ∧ j ≤ m ∧ j - i ≤ gh ∧ Aside (SWK encT k w0 g 0 dk wr) ∧ Hid (i = a ∨ lt dk[i - 1]! dk[m]!) ∧ Hid (j = m ∨ lt dk[m]! dk[j]!))
  case atStart => exact ⟨a, m, rfl, rfl, Nat.le_refl _, by omega, Nat.le_refl _, Nat.le_refl _, SS, hide (.inl rfl), hide (.inl rfl)⟩
  case round =>
    obtain ⟨i, j, rfl, rfl, hmi, hij, hjb, hgh, S1, HI, HJ⟩ := hrel
    by_cases hlt : i < j
    · have hltz : (i : Int) < (j : Int) := by omega
      obtain ⟨h, hh⟩ : ∃ h : Nat, h = (i + j) / 2 := ⟨_, rfl⟩
      have hki : ((i : Int) + (j : Int)) / 2 = (h : Int) := by have := unhide HMB; omega
      have hhi : i ≤ h := by omega
      have hhj : h < j := by omega
      have q1 : (h : Int) < (sz : Int) := by have := unhide HMB; omega
      have q2 : (m : Int) < (sz : Int) := by have := unhide HMB; omega
      have HLT : Hid (cf dk[m]! dk[h]! < 0 → lt dk[m]! dk[h]!) := hide (unhide OO).less
      have HGT : Hid (¬ cf dk[m]! dk[h]! < 0 → lt dk[h]! dk[m]!) := hide (fun hn => (unhide OO).more hn (unhide HX h m (by omega) (by omega) (Nat.le_refl _) (by have := unhide HMB; omega)))
      have l1 := fun n' os' => zadd (S1.out.ld RR.out ((unhide HS).trans (unhide H0).symm) P h (by have := unhide HS; have := unhide HMB; omega) n' os')
      have l2 := fun n' os' => zadd (S1.out.ld RR.out ((unhide HS).trans (unhide H0).symm) P m (by have := unhide HS; have := unhide HMB; omega) n' os')
      have hcg := fun n' os' => S1.out.cmp HC.out (unhide HS) dk[m]! dk[h]! n' os'
      clear hh
      by_cases hlv : cf dk[m]! dk[h]! < 0
      · have hdv : decide (cf dk[m]! dk[h]! < 0) = true := decide_eq_true hlv
        go_wp2_with fail
        go_quiet_grown (first | (go_at_fn gc; refine Calls.grown_of (hcg _ _)))
        have S2 : Aside (SWK encT k w0 g 0 dk (grow (wr.drewN nq) osq)) := S1.out.grown nq osq
        clear l1 l2 hcg S1
        go_wp2
        go_roundg (h - i)
        case measure => omega
        case rel => exact ⟨i, h, rfl, rfl, hmi, by omega, by omega, Nat.le_refl _, S2, HI, hide (.inr (unhide HLT hlv))⟩
      · have hdv : decide (cf dk[m]! dk[h]! < 0) = false := decide_eq_false hlv
        go_wp2_with fail
        go_quiet_grown (first | (go_at_fn gc; refine Calls.grown_of (hcg _ _)))
        have S2 : Aside (SWK encT k w0 g 0 dk (grow (wr.drewN nq) osq)) := S1.out.grown nq osq
        clear l1 l2 hcg S1
        go_wp2
        go_roundg (j - (h + 1))
        case measure => omega
        case rel => exact ⟨h + 1, j, by go_num, rfl, by omega, by omega, hjb, Nat.le_refl _, S2, hide (.inr (by rw [Nat.add_sub_cancel]; exact unhide HGT hlv)), HJ⟩
    · have hltz : ¬ (i : Int) < (j : Int) := by omega
      obtain rfl : i = j := by omega
      go_wp2
      go_loopg [17] (m - i) (fun gh vq wr => ∃ (q : Nat) (dj : Array TP), vq = .int .i64 q ∧ i ≤ q ∧ q ≤ m ∧ q - i ≤ gh ∧ Hid (dj.size = dk.size) ∧ Aside (SWK encT k w0 g 0 dj wr) ∧ Hid (∀ p, dj[p]! = dk[rh q m (m + 1) p]!))
      case atStart => exact ⟨m, dk, rfl, hjb, Nat.le_refl _, Nat.le_refl _, hide rfl, S1, hide (fun p => by rw [rh_id (by omega)])⟩
      case round =>
        obtain ⟨q, dj, rfl, haq, hqe, hg2, HSJ, S3, HP⟩ := hrel
        by_cases hql : i < q
        · have hqz : (i : Int) < (q : Int) := by omega
          obtain ⟨qp, rfl⟩ : ∃ x, q = x + 1 := ⟨q - 1, by omega⟩
          have hqz' : (i : Int) < (qp : Int) + 1 := by omega
          have HLJ : Hid (dj.size = sz) := hide ((unhide HSJ).trans (unhide HS))
          have HQ : Hid (dj.size = d0.size) := hide ((unhide HLJ).trans (unhide H0).symm)
          have HNX := hide (ins_step (by have := unhide HS; have := unhide HMB; omega) hqe (unhide HSJ) (unhide HP))
          have p0 : (0 : Int) ≤ (qp : Int) + 1 := by omega
          have e0 : ((qp : Int) + 1).toNat = qp + 1 := by omega
          have hwp : IntKind.i64.wrap (qp : Int) = (qp : Int) := by rw [IntKind.wrap_i64]; have := unhide HMB; omega
          have q3 : (qp : Int) + 1 < (sz : Int) := by have := unhide HMB; omega
          have q4 : (qp : Int) < (sz : Int) := by have := unhide HMB; omega
          have HBS : Hid (m + 1 ≤ sz) := hide (by have := unhide HMB; omega)
          have S5 : Aside (SWK encT k w0 g 0 (swp dj (qp + 1) (qp)) ((wr.drew.setCells g (0 + (qp + 1) * k) (encT dj[qp]!)).setCells g (0 + (qp) * k) (encT dj[qp + 1]!))) := S3.out.swapped RR.out (qp + 1) (qp) (by have := unhide HLJ; have := unhide HBS; omega) (by have := unhide HLJ; have := unhide HBS; omega)
          have m1 := S3.out.ld1 RR.out (unhide HQ) P (qp + 1) (by have := unhide HLJ; have := unhide HBS; omega)
          have m2 := S3.out.ld1 RR.out (unhide HQ) P (qp) (by have := unhide HLJ; have := unhide HBS; omega)
          have s1 := S3.out.st1 RR.out (unhide HQ) P (qp + 1) (by have := unhide HLJ; have := unhide HBS; omega) dj[qp]!
          have s2 := S3.out.st2 RR.out (unhide HQ) P (qp + 1) (qp) (by have := unhide HLJ; have := unhide HBS; omega) (by have := unhide HLJ; have := unhide HBS; omega) dj[qp]! dj[qp + 1]!
          have n1 : (encT dj[qp + 1]!).length = k := RR.out.hk _
          have n2 : (encT dj[qp]!).length = k := RR.out.hk _
          rw [Nat.zero_add] at m1 m2 s1
          rw [Nat.zero_add, Nat.zero_add] at s2 S5
          generalize encT dj[qp + 1]! = cI at S5 m1 s2 n1
          generalize encT dj[qp]! = cJ at S5 m2 s1 s2 n2
          clear S3
          go_wp2_with fail
          go_big_region_o
          clear m1 m2 s1 s2
          generalize (wr.drew.setCells g ((qp + 1) * k) cJ).setCells g ((qp) * k) cI = w2 at S5 ⊢
          go_wp2
          go_roundg (qp - i)
          case measure => omega
          case rel => exact ⟨qp, _, by first | rfl | go_num | (congr 1; omega), by omega, by omega, Nat.le_refl _, hide (by rw [size_swp]; exact unhide HSJ), S5, HNX⟩
        · have hqz : ¬ (i : Int) < (q : Int) := by omega
          obtain rfl : q = i := by omega
          have HEND : Hid (Mix a b dk dj ∧ Srt lt dj a b) := hide (by
            rw [unhide HMB]
            exact ⟨(Mix.of_rh (unhide HSJ) hqe (by omega) (unhide HP)).wide hmi (Nat.le_refl _), ins_last (unhide OO) (unhide HU) hmi hqe (unhide HI) (unhide HJ) (unhide HP)⟩)
          go_wp2
          (try simp only [Exit.inBlock, Exit.then])
          refine bodyPost_ret (results_none rfl _ _ _) rfl ?_
          exact ⟨rfl, dj, S3.out, (unhide HEND).1, (unhide HEND).2⟩
end Go.Proofs.Ytbghekolfcakeaa

namespace Go.Proofs.Ytbghekolfcakeaa
open Go.Shelf Go.RowKit Go.Lib Go.Sort

theorem part1_triv {lt : TP → TP → Prop} {d1 : Array TP} {a s mid e b : Nat} (h : Halves lt d1 a s mid e b) (has : a ≤ s) (hsm : s ≤ mid) (hn : ¬ (a < s ∧ s < mid)) : Mix a mid d1 d1 ∧ Srt lt d1 a mid := by
  refine ⟨Mix.refl _ _ _, ?_⟩
  by_cases hs : s = a
  · rw [← hs]; exact h.s2
  · rw [← show s = mid by omega]; exact h.s1
theorem part2_triv {lt : TP → TP → Prop} {d1 d2 : Array TP} {a s mid e b : Nat} (h : Halves lt d1 a s mid e b) (hsm : mid ≤ e) (heb : e ≤ b) (m1 : Mix a mid d1 d2) (hn : ¬ (mid < e ∧ e < b)) : Mix mid b d2 d2 ∧ Srt lt d2 mid b := by
  refine ⟨Mix.refl _ _ _, Srt.same (d := d1) ?_ fun p p1 _ => m1.out p (by omega)⟩
  by_cases hs : e = mid
  · rw [← hs]; exact h.s4
  · rw [← show e = b by omega]; exact h.s3
theorem pre2 {lt : TP → TP → Prop} {d1 d2 : Array TP} {a s mid e b : Nat} (h : Halves lt d1 a s mid e b) (hme : mid ≤ e) (m1 : Mix a mid d1 d2) : Srt lt d2 mid e ∧ Srt lt d2 e b ∧ Sep d2 mid e b :=
  ⟨h.s3.same fun p p1 _ => m1.out p (by omega), h.s4.same fun p p1 _ => m1.out p (by omega), m1.sep h.x2 (by omega)⟩

set_option maxRecDepth 100000 in
set_option maxHeartbeats 4000000 in
theorem symC1 {P : Program} {k : Nat} (L : Lay P k) (F79 : P.funcs[79]? = some Try.f79) (gc : Nat) (cb : Array Value) (eg : ∀ args w, (callFunc gc args).run P w = .ok (.enter gc args) w) {cf : TP → TP → Int} {lt : TP → TP → Prop} (O : Ord cf lt)
    (w0 : World) (g : Nat) (d0 : Array TP) (R : RowK encT k w0 g 0 d0) (sz : Nat) (h0 : d0.size = sz) (hsz : sz ≤ 100000) (hcmp : CmpLays P gc cb encT k cf g 0 sz w0) (dk : Array TP) (hs : dk.size = sz) (cap a m b : Nat) (hma : a + 1 < m) (hmb : m + 1 < b) (hb : b ≤ sz) (mid : Nat) (hmid : mid = (a + b) / 2) (hbr : mid < m) (hu : Srt lt dk a m) (hv : Srt lt dk m b) (hx : Sep dk a m b)
    (E82 : ∀ args w, (callFunc 82 args).run P w = .ok (.enter 82 args) w) (E79 : ∀ args w, (callFunc 79 args).run P w = .ok (.enter 79 args) w)
    (kr : ∀ (di : Array TP), di.size = sz → ∀ x y z, x < y → y < z → z ≤ sz → ∀ W, SWK encT k w0 g 0 di W → Calls P 82 #[.slice (some ⟨g, 0, none⟩) sz cap, .int .i64 (x : Nat), .int .i64 (y : Nat), .int .i64 (z : Nat), .func (.func gc) #[] cb] W (Moved k w0 g di (rh x y z)))
    (ki : ∀ (di : Array TP), di.size = sz → ∀ x y z, z - x < b - a → x < y → y < z → z ≤ sz → Srt lt di x y → Srt lt di y z → Sep di x y z → ∀ W, SWK encT k w0 g 0 di W → Calls P 79 #[.slice (some ⟨g, 0, none⟩) sz cap, .int .i64 (x : Nat), .int .i64 (y : Nat), .int .i64 (z : Nat), .func (.func gc) #[] cb] W (Sorted k lt w0 g di x z))
    (W : World) (S : SWK encT k w0 g 0 dk W) :
    Calls P 79 #[.slice (some ⟨g, 0, none⟩) sz cap, .int .i64 a, .int .i64 m, .int .i64 b, .func (.func gc) #[] cb] W (Sorted k lt w0 g dk a b) := by
  have mixed := L.mixed; have t3 := L.t3; have a3 := L.a3; have z3 := L.z3; have t4 := L.t4; have a4 := L.a4; have z4 := L.z4; have t22 := L.t22; have a22 := L.a22; have z22 := L.z22; have t92 := L.t92; have aE := L.aE; have zE := L.zE
  have u22 := run_underlying L.t22
  have SS : Aside (SWK encT k w0 g 0 dk W) := S
  have RR : Aside (RowK encT k w0 g 0 d0) := R
  have HC : Aside (CmpLays P gc cb encT k cf g 0 sz w0) := hcmp
  have KR : Aside _ := kr
  have KI : Aside _ := ki
  have OO := hide O
  have HS := hide hs
  have H0 := hide h0
  have HU := hide hu
  have HV := hide hv
  have HX := hide hx
  obtain ⟨am, ham⟩ : ∃ x : Nat, m = a + x := ⟨m - a, by omega⟩
  obtain ⟨bm, hbm⟩ : ∃ x : Nat, b = m + x := ⟨b - m, by omega⟩
  obtain ⟨nn, hnn⟩ : ∃ x : Nat, x = mid + m := ⟨_, rfl⟩
  obtain ⟨pp, hpp⟩ : ∃ x : Nat, nn = x + 1 := ⟨nn - 1, by omega⟩
  obtain ⟨lo, hlo⟩ : ∃ x : Nat, nn = x + b := ⟨nn - b, by omega⟩
  have w1 : IntKind.i64.wrap ((m : Int) - (a : Int)) = (am : Int) := by rw [IntKind.wrap_i64]; omega
  have w1' : (m : Int) - (a : Int) = (am : Int) := by omega
  have w1b : ((am : Int) == 1) = false := by simp; omega
  have w2 : IntKind.i64.wrap ((b : Int) - (m : Int)) = (bm : Int) := by rw [IntKind.wrap_i64]; omega
  have w2' : (b : Int) - (m : Int) = (bm : Int) := by omega
  have w2b : ((bm : Int) == 1) = false := by simp; omega
  have hki : ((a : Int) + (b : Int)) / 2 = (mid : Int) := by omega
  have w3 : IntKind.i64.wrap ((mid : Int) + (m : Int)) = (nn : Int) := by rw [IntKind.wrap_i64]; omega
  have w3' : (mid : Int) + (m : Int) = (nn : Int) := by omega
  have w4 : IntKind.i64.wrap ((nn : Int) - 1) = (pp : Int) := by rw [IntKind.wrap_i64]; omega
  have w4' : (nn : Int) - 1 = (pp : Int) := by omega
  have hbrz : (mid : Int) < (m : Int) := by omega
  have w5 : IntKind.i64.wrap ((nn : Int) - (b : Int)) = (lo : Int) := by rw [IntKind.wrap_i64]; omega
  have w5' : (nn : Int) - (b : Int) = (lo : Int) := by omega
  have HNN : Hid (nn = mid + m ∧ nn = pp + 1 ∧ 2 * mid ≤ a + b ∧ a + b ≤ 2 * mid + 1 ∧ nn = lo + b) := hide ⟨hnn, hpp, by omega, by omega, hlo⟩
  clear S R hcmp O hs h0 hu hv hx hmid kr ki ham hbm hnn hpp hlo
  go_enter F79, Try.ntmps79
  go_wp2
  go_loopg [20, 21] (mid - lo) (fun gh vi vj wr => ∃ (s r : Nat), vi = .int .i64 s ∧ vj = .int .i64 r ∧ lo ≤ s ∧ s ≤ r ∧ r ≤ mid ∧ r - s ≤ gh ∧ Aside (SWK encT k w0 g 0 dk wr) ∧ Hid (s = lo ∨ lt dk[s - 1]! dk[nn - s]!) ∧ Hid (r = mid ∨ lt dk[nn - 1 - r]! dk[r]!))
  case atStart => exact ⟨lo, mid, rfl, rfl, Nat.le_refl _, by have := unhide HNN; omega, Nat.le_refl _, Nat.le_refl _, SS, hide (.inl rfl), hide (.inl rfl)⟩
  case round =>
    obtain ⟨s, r, rfl, rfl, hlos, hsr, hrhi, hgh, S1, HLO, HHI⟩ := hrel
    by_cases hlt : s < r
    · have hltz : (s : Int) < (r : Int) := by omega
      obtain ⟨c, hc⟩ : ∃ h : Nat, h = (s + r) / 2 := ⟨_, rfl⟩
      obtain ⟨pc, hpc⟩ : ∃ h : Nat, pp = h + c := ⟨pp - c, by have := unhide HNN; omega⟩
      have hkc : ((s : Int) + (r : Int)) / 2 = (c : Int) := by omega
      have hcs : s ≤ c := by omega
      have hcr : c < r := by omega
      have w6 : IntKind.i64.wrap ((pp : Int) - (c : Int)) = (pp : Int) - (c : Int) := by rw [IntKind.wrap_i64]; have := unhide HNN; omega
      have w6a : ((pp : Int) - (c : Int)).toNat = pc := by omega
      have w6b : (0 : Int) ≤ (pp : Int) - (c : Int) := by omega
      have w6c : (c : Int) ≤ (pp : Int) := by omega
      have w6d : c ≤ pp := by omega
      have w6e : pp - c = pc := by omega
      have w6f : (pp : Int) < (sz : Int) + (c : Int) := by have := unhide HNN; omega
      have w6g : pp < sz + c := by have := unhide HNN; omega
      have w6h : pc < sz := by have := unhide HNN; omega
      have HPC : Hid (m ≤ pc ∧ pc < b ∧ nn - 1 - c = pc ∧ nn - (c + 1) = pc ∧ a ≤ c ∧ c < m) := hide (by have := unhide HNN; omega)
      have q1 : (c : Int) < (sz : Int) := by have := unhide HPC; omega
      have q2 : (pp : Int) - (c : Int) < (sz : Int) := by have := unhide HPC; omega
      have HLT : Hid (cf dk[pc]! dk[c]! < 0 → lt dk[pc]! dk[c]!) := hide (unhide OO).less
      have HGT : Hid (¬ cf dk[pc]! dk[c]! < 0 → lt dk[c]! dk[pc]!) := hide (fun hn => (unhide OO).more hn (unhide HX c pc (by have := unhide HPC; omega) (by have := unhide HPC; omega) (unhide HPC).1 (unhide HPC).2.1))
      have l1 := fun n' os' => zadd (S1.out.ld RR.out ((unhide HS).trans (unhide H0).symm) P pc (by have := unhide HS; have := unhide HPC; omega) n' os')
      have l2 := fun n' os' => zadd (S1.out.ld RR.out ((unhide HS).trans (unhide H0).symm) P c (by have := unhide HS; have := unhide HPC; omega) n' os')
      have hcg := fun n' os' => S1.out.cmp HC.out (unhide HS) dk[pc]! dk[c]! n' os'
      clear hc hpc
      by_cases hlv : cf dk[pc]! dk[c]! < 0
      · have hdv : decide (cf dk[pc]! dk[c]! < 0) = true := decide_eq_true hlv
        go_wp2_with fail
        go_quiet_grown (first | (go_at_fn gc; refine Calls.grown_of (hcg _ _)))
        have S2 : Aside (SWK encT k w0 g 0 dk (grow (wr.drewN nq) osq)) := S1.out.grown nq osq
        clear l1 l2 hcg S1
        go_wp2
        go_roundg (c - s)
        case measure => omega
        case rel => exact ⟨s, c, rfl, rfl, hlos, hcs, by omega, Nat.le_refl _, S2, HLO, hide (.inr (by rw [(unhide HPC).2.2.1]; exact unhide HLT hlv))⟩
      · have hdv : decide (cf dk[pc]! dk[c]! < 0) = false := decide_eq_false hlv
        go_wp2_with fail
        go_quiet_grown (first | (go_at_fn gc; refine Calls.grown_of (hcg _ _)))
        have S2 : Aside (SWK encT k w0 g 0 dk (grow (wr.drewN nq) osq)) := S1.out.grown nq osq
        clear l1 l2 hcg S1
        go_wp2
        go_roundg (r - (c + 1))
        case measure => omega
        case rel => exact ⟨c + 1, r, by go_num, rfl, by omega, by omega, hrhi, Nat.le_refl _, S2, hide (.inr (by rw [Nat.add_sub_cancel, (unhide HPC).2.2.2.1]; exact unhide HGT hlv)), HHI⟩
    · have hltz : ¬ (s : Int) < (r : Int) := by omega
      obtain rfl : s = r := by omega
      obtain ⟨e, he⟩ : ∃ x : Nat, nn = x + s := ⟨nn - s, by have := unhide HNN; omega⟩
      have w7 : IntKind.i64.wrap ((nn : Int) - (s : Int)) = (e : Int) := by rw [IntKind.wrap_i64]; have := unhide HNN; omega
      have w7' : (nn : Int) - (s : Int) = (e : Int) := by omega
      have HEE : Hid (mid + m = s + e ∧ a ≤ s ∧ s ≤ m ∧ m ≤ e ∧ e ≤ b ∧ a < mid ∧ mid < b) := hide (by have := unhide HNN; omega)
      have has : a ≤ s := (unhide HEE).2.1
      have hsm : s ≤ m := (unhide HEE).2.2.1
      have HB1 : Hid (s = a ∨ e = b ∨ lt dk[s - 1]! dk[e]!) := hide (by
        rcases unhide HLO with h | h
        · right; left; have := unhide HNN; omega
        · right; right; rw [show e = nn - s by omega]; exact h)
      have HB2 : Hid (s = m ∨ e = m ∨ lt dk[e - 1]! dk[s]!) := hide (by
        rcases unhide HHI with h | h
        · right; left; have := unhide HNN; omega
        · right; right; rw [show e - 1 = nn - 1 - s by omega]; exact h)
      clear he
      by_cases hA : s < m
      · by_cases hB : s < mid
        · by_cases hC : a < s
          · by_cases hF : e < b
            · -- s < m True, s < mid True, a < s True, e < b True
              have zA : (s : Int) < (m : Int) := by have := unhide HEE; omega
              have zB1 : (m : Int) < (e : Int) := by have := unhide HEE; omega
              have zB2 : (s : Int) < (mid : Int) := by have := unhide HEE; omega
              have zC : (a : Int) < (s : Int) := by have := unhide HEE; omega
              have zE : (mid : Int) < (e : Int) := by have := unhide HEE; omega
              have zF : (e : Int) < (b : Int) := by have := unhide HEE; omega
              clear HLO HHI
              go_wp2_with fail
              refine (KR.out dk (unhide HS) s m e hA (by omega) (by have := unhide HEE; omega) _ S1.out).mono ?_
              rintro e1 w1x ⟨rfl, d1, s1x, z1x, r1x⟩
              have SA : Aside (SWK encT k w0 g 0 d1 w1x) := s1x
              have HR1 : Hid (∀ p, d1[p]! = dk[rh s m e p]!) := hide r1x
              have HZ1 : Hid (d1.size = sz) := hide (z1x.trans (unhide HS))
              clear s1x z1x r1x S1
              have HH : Hid (Halves lt d1 a s mid e b) := hide (halves (unhide OO) (unhide HU) (unhide HV) (unhide HX) (by omega) (by omega) (by have := unhide HEE; omega) (by have := unhide HEE; omega) (by have := unhide HEE; omega) (unhide HB1) (unhide HB2) (unhide HR1))
              have HM1 : Hid (Mix a b dk d1) := hide ((Mix.of_rh ((unhide HZ1).trans (unhide HS).symm) (by omega) (by have := unhide HEE; omega) (unhide HR1)).wide (by omega) (by have := unhide HEE; omega))
              go_wp2_with fail
              refine (KI.out d1 (unhide HZ1) a s mid (by have := unhide HEE; omega) (by omega) (by omega) (by have := unhide HEE; omega) (unhide HH).s1 (unhide HH).s2 (unhide HH).x1 _ SA.out).mono ?_
              rintro e2 w2x ⟨rfl, d2, s2x, m2x, r2x⟩
              have SB : Aside (SWK encT k w0 g 0 d2 w2x) := s2x
              have HP1 : Hid (Mix a mid d1 d2 ∧ Srt lt d2 a mid) := hide ⟨m2x, r2x⟩
              clear s2x m2x r2x SA
              have HPR := hide (pre2 (unhide HH) (by have := unhide HEE; omega) (unhide HP1).1)
              go_wp2_with fail
              refine (KI.out d2 ((unhide HP1).1.size.trans (unhide HZ1)) mid e b (by have := unhide HEE; omega) (by have := unhide HEE; omega) (by omega) (by omega) (unhide HPR).1 (unhide HPR).2.1 (unhide HPR).2.2 _ SB.out).mono ?_
              rintro e3 w3x ⟨rfl, d3, s3x, m3x, r3x⟩
              have SC : Aside (SWK encT k w0 g 0 d3 w3x) := s3x
              have HP2 : Hid (Mix mid b d2 d3 ∧ Srt lt d3 mid b) := hide ⟨m3x, r3x⟩
              clear s3x m3x r3x SB
              have HEND : Hid (Mix a b dk d3 ∧ Srt lt d3 a b) := hide ⟨(unhide HM1).trans (((unhide HP1).1.wide (Nat.le_refl _) (by have := unhide HEE; omega)).trans ((unhide HP2).1.wide (by have := unhide HEE; omega) (Nat.le_refl _))), (unhide HH).done (unhide HP1).1 (unhide HP2).1 (unhide HP1).2 (unhide HP2).2⟩
              go_wp2
              all_goals (go_end0; exact ⟨rfl, d3, SC.out, (unhide HEND).1, (unhide HEND).2⟩)
            · -- s < m True, s < mid True, a < s True, e < b False
              have zA : (s : Int) < (m : Int) := by have := unhide HEE; omega
              have zB1 : (m : Int) < (e : Int) := by have := unhide HEE; omega
              have zB2 : (s : Int) < (mid : Int) := by have := unhide HEE; omega
              have zC : (a : Int) < (s : Int) := by have := unhide HEE; omega
              have zE : (mid : Int) < (e : Int) := by have := unhide HEE; omega
              have zF : ¬ (e : Int) < (b : Int) := by have := unhide HEE; omega
              clear HLO HHI
              go_wp2_with fail
              refine (KR.out dk (unhide HS) s m e hA (by omega) (by have := unhide HEE; omega) _ S1.out).mono ?_
              rintro e1 w1x ⟨rfl, d1, s1x, z1x, r1x⟩
              have SA : Aside (SWK encT k w0 g 0 d1 w1x) := s1x
              have HR1 : Hid (∀ p, d1[p]! = dk[rh s m e p]!) := hide r1x
              have HZ1 : Hid (d1.size = sz) := hide (z1x.trans (unhide HS))
              clear s1x z1x r1x S1
              have HH : Hid (Halves lt d1 a s mid e b) := hide (halves (unhide OO) (unhide HU) (unhide HV) (unhide HX) (by omega) (by omega) (by have := unhide HEE; omega) (by have := unhide HEE; omega) (by have := unhide HEE; omega) (unhide HB1) (unhide HB2) (unhide HR1))
              have HM1 : Hid (Mix a b dk d1) := hide ((Mix.of_rh ((unhide HZ1).trans (unhide HS).symm) (by omega) (by have := unhide HEE; omega) (unhide HR1)).wide (by omega) (by have := unhide HEE; omega))
              go_wp2_with fail
              refine (KI.out d1 (unhide HZ1) a s mid (by have := unhide HEE; omega) (by omega) (by omega) (by have := unhide HEE; omega) (unhide HH).s1 (unhide HH).s2 (unhide HH).x1 _ SA.out).mono ?_
              rintro e2 w2x ⟨rfl, d2, s2x, m2x, r2x⟩
              have SB : Aside (SWK encT k w0 g 0 d2 w2x) := s2x
              have HP1 : Hid (Mix a mid d1 d2 ∧ Srt lt d2 a mid) := hide ⟨m2x, r2x⟩
              clear s2x m2x r2x SA
              have HPR := hide (pre2 (unhide HH) (by have := unhide HEE; omega) (unhide HP1).1)
              have HP2 : Hid (Mix mid b d2 d2 ∧ Srt lt d2 mid b) := hide (part2_triv (unhide HH) (by have := unhide HEE; omega) (by have := unhide HEE; omega) (unhide HP1).1 (by omega))
              have HEND : Hid (Mix a b dk d2 ∧ Srt lt d2 a b) := hide ⟨(unhide HM1).trans (((unhide HP1).1.wide (Nat.le_refl _) (by have := unhide HEE; omega)).trans ((unhide HP2).1.wide (by have := unhide HEE; omega) (Nat.le_refl _))), (unhide HH).done (unhide HP1).1 (unhide HP2).1 (unhide HP1).2 (unhide HP2).2⟩
              go_wp2
              all_goals (go_end0; exact ⟨rfl, d2, SB.out, (unhide HEND).1, (unhide HEND).2⟩)
          · by_cases hF : e < b
            · -- s < m True, s < mid True, a < s False, e < b True
              have zA : (s : Int) < (m : Int) := by have := unhide HEE; omega
              have zB1 : (m : Int) < (e : Int) := by have := unhide HEE; omega
              have zB2 : (s : Int) < (mid : Int) := by have := unhide HEE; omega
              have zC : ¬ (a : Int) < (s : Int) := by have := unhide HEE; omega
              have zE : (mid : Int) < (e : Int) := by have := unhide HEE; omega
              have zF : (e : Int) < (b : Int) := by have := unhide HEE; omega
              clear HLO HHI
              go_wp2_with fail
              refine (KR.out dk (unhide HS) s m e hA (by omega) (by have := unhide HEE; omega) _ S1.out).mono ?_
              rintro e1 w1x ⟨rfl, d1, s1x, z1x, r1x⟩
              have SA : Aside (SWK encT k w0 g 0 d1 w1x) := s1x
              have HR1 : Hid (∀ p, d1[p]! = dk[rh s m e p]!) := hide r1x
              have HZ1 : Hid (d1.size = sz) := hide (z1x.trans (unhide HS))
              clear s1x z1x r1x S1
              have HH : Hid (Halves lt d1 a s mid e b) := hide (halves (unhide OO) (unhide HU) (unhide HV) (unhide HX) (by omega) (by omega) (by have := unhide HEE; omega) (by have := unhide HEE; omega) (by have := unhide HEE; omega) (unhide HB1) (unhide HB2) (unhide HR1))
              have HM1 : Hid (Mix a b dk d1) := hide ((Mix.of_rh ((unhide HZ1).trans (unhide HS).symm) (by omega) (by have := unhide HEE; omega) (unhide HR1)).wide (by omega) (by have := unhide HEE; omega))
              have HP1 : Hid (Mix a mid d1 d1 ∧ Srt lt d1 a mid) := hide (part1_triv (unhide HH) (by omega) (by have := unhide HEE; omega) (by omega))
              have HPR := hide (pre2 (unhide HH) (by have := unhide HEE; omega) (unhide HP1).1)
              go_wp2_with fail
              refine (KI.out d1 ((unhide HP1).1.size.trans (unhide HZ1)) mid e b (by have := unhide HEE; omega) (by have := unhide HEE; omega) (by omega) (by omega) (unhide HPR).1 (unhide HPR).2.1 (unhide HPR).2.2 _ SA.out).mono ?_
              rintro e3 w3x ⟨rfl, d3, s3x, m3x, r3x⟩
              have SC : Aside (SWK encT k w0 g 0 d3 w3x) := s3x
              have HP2 : Hid (Mix mid b d1 d3 ∧ Srt lt d3 mid b) := hide ⟨m3x, r3x⟩
              clear s3x m3x r3x SA
              have HEND : Hid (Mix a b dk d3 ∧ Srt lt d3 a b) := hide ⟨(unhide HM1).trans (((unhide HP1).1.wide (Nat.le_refl _) (by have := unhide HEE; omega)).trans ((unhide HP2).1.wide (by have := unhide HEE; omega) (Nat.le_refl _))), (unhide HH).done (unhide HP1).1 (unhide HP2).1 (unhide HP1).2 (unhide HP2).2⟩
              go_wp2
              all_goals (go_end0; exact ⟨rfl, d3, SC.out, (unhide HEND).1, (unhide HEND).2⟩)
            · -- s < m True, s < mid True, a < s False, e < b False
              have zA : (s : Int) < (m : Int) := by have := unhide HEE; omega
              have zB1 : (m : Int) < (e : Int) := by have := unhide HEE; omega
              have zB2 : (s : Int) < (mid : Int) := by have := unhide HEE; omega
              have zC : ¬ (a : Int) < (s : Int) := by have := unhide HEE; omega
              have zE : (mid : Int) < (e : Int) := by have := unhide HEE; omega
              have zF : ¬ (e : Int) < (b : Int) := by have := unhide HEE; omega
              clear HLO HHI
              go_wp2_with fail
              refine (KR.out dk (unhide HS) s m e hA (by omega) (by have := unhide HEE; omega) _ S1.out).mono ?_
              rintro e1 w1x ⟨rfl, d1, s1x, z1x, r1x⟩
              have SA : Aside (SWK encT k w0 g 0 d1 w1x) := s1x
              have HR1 : Hid (∀ p, d1[p]! = dk[rh s m e p]!) := hide r1x
              have HZ1 : Hid (d1.size = sz) := hide (z1x.trans (unhide HS))
              clear s1x z1x r1x S1
              have HH : Hid (Halves lt d1 a s mid e b) := hide (halves (unhide OO) (unhide HU) (unhide HV) (unhide HX) (by omega) (by omega) (by have := unhide HEE; omega) (by have := unhide HEE; omega) (by have := unhide HEE; omega) (unhide HB1) (unhide HB2) (unhide HR1))
              have HM1 : Hid (Mix a b dk d1) := hide ((Mix.of_rh ((unhide HZ1).trans (unhide HS).symm) (by omega) (by have := unhide HEE; omega) (unhide HR1)).wide (by omega) (by have := unhide HEE; omega))
              have HP1 : Hid (Mix a mid d1 d1 ∧ Srt lt d1 a mid) := hide (part1_triv (unhide HH) (by omega) (by have := unhide HEE; omega) (by omega))
              have HPR := hide (pre2 (unhide HH) (by have := unhide HEE; omega) (unhide HP1).1)
              have HP2 : Hid (Mix mid b d1 d1 ∧ Srt lt d1 mid b) := hide (part2_triv (unhide HH) (by have := unhide HEE; omega) (by have := unhide HEE; omega) (unhide HP1).1 (by omega))
              have HEND : Hid (Mix a b dk d1 ∧ Srt lt d1 a b) := hide ⟨(unhide HM1).trans (((unhide HP1).1.wide (Nat.le_refl _) (by have := unhide HEE; omega)).trans ((unhide HP2).1.wide (by have := unhide HEE; omega) (Nat.le_refl _))), (unhide HH).done (unhide HP1).1 (unhide HP2).1 (unhide HP1).2 (unhide HP2).2⟩
              go_wp2
              all_goals (go_end0; exact ⟨rfl, d1, SA.out, (unhide HEND).1, (unhide HEND).2⟩)
        · by_cases hC : a < s
          · by_cases hF : e < b
            · -- s < m True, s < mid False, a < s True, e < b True
              have zA : (s : Int) < (m : Int) := by have := unhide HEE; omega
              have zB1 : ¬ (m : Int) < (e : Int) := by have := unhide HEE; omega
              have zB2 : ¬ (s : Int) < (mid : Int) := by have := unhide HEE; omega
              have zC : (a : Int) < (s : Int) := by have := unhide HEE; omega
              have zE : (mid : Int) < (e : Int) := by have := unhide HEE; omega
              have zF : (e : Int) < (b : Int) := by have := unhide HEE; omega
              clear HLO HHI
              have HR1 : Hid (∀ p, dk[p]! = dk[rh s m e p]!) := hide (fun p => by rw [show rh s m e p = p from by rw [show e = m by have := unhide HEE; omega]; exact rh_id' (by omega)])
              have HZ1 := HS
              have HH : Hid (Halves lt dk a s mid e b) := hide (halves (unhide OO) (unhide HU) (unhide HV) (unhide HX) (by omega) (by omega) (by have := unhide HEE; omega) (by have := unhide HEE; omega) (by have := unhide HEE; omega) (unhide HB1) (unhide HB2) (unhide HR1))
              have HM1 : Hid (Mix a b dk dk) := hide ((Mix.of_rh ((unhide HZ1).trans (unhide HS).symm) (by omega) (by have := unhide HEE; omega) (unhide HR1)).wide (by omega) (by have := unhide HEE; omega))
              have HP1 : Hid (Mix a mid dk dk ∧ Srt lt dk a mid) := hide (part1_triv (unhide HH) (by omega) (by have := unhide HEE; omega) (by omega))
              have HPR := hide (pre2 (unhide HH) (by have := unhide HEE; omega) (unhide HP1).1)
              go_wp2_with fail
              refine (KI.out dk ((unhide HP1).1.size.trans (unhide HZ1)) mid e b (by have := unhide HEE; omega) (by have := unhide HEE; omega) (by omega) (by omega) (unhide HPR).1 (unhide HPR).2.1 (unhide HPR).2.2 _ S1.out).mono ?_
              rintro e3 w3x ⟨rfl, d3, s3x, m3x, r3x⟩
              have SC : Aside (SWK encT k w0 g 0 d3 w3x) := s3x
              have HP2 : Hid (Mix mid b dk d3 ∧ Srt lt d3 mid b) := hide ⟨m3x, r3x⟩
              clear s3x m3x r3x S1
              have HEND : Hid (Mix a b dk d3 ∧ Srt lt d3 a b) := hide ⟨(unhide HM1).trans (((unhide HP1).1.wide (Nat.le_refl _) (by have := unhide HEE; omega)).trans ((unhide HP2).1.wide (by have := unhide HEE; omega) (Nat.le_refl _))), (unhide HH).done (unhide HP1).1 (unhide HP2).1 (unhide HP1).2 (unhide HP2).2⟩
              go_wp2
              all_goals (go_end0; exact ⟨rfl, d3, SC.out, (unhide HEND).1, (unhide HEND).2⟩)
            · -- s < m True, s < mid False, a < s True, e < b False
              have zA : (s : Int) < (m : Int) := by have := unhide HEE; omega
              have zB1 : ¬ (m : Int) < (e : Int) := by have := unhide HEE; omega
              have zB2 : ¬ (s : Int) < (mid : Int) := by have := unhide HEE; omega
              have zC : (a : Int) < (s : Int) := by have := unhide HEE; omega
              have zE : (mid : Int) < (e : Int) := by have := unhide HEE; omega
              have zF : ¬ (e : Int) < (b : Int) := by have := unhide HEE; omega
              clear HLO HHI
              have HR1 : Hid (∀ p, dk[p]! = dk[rh s m e p]!) := hide (fun p => by rw [show rh s m e p = p from by rw [show e = m by have := unhide HEE; omega]; exact rh_id' (by omega)])
              have HZ1 := HS
              have HH : Hid (Halves lt dk a s mid e b) := hide (halves (unhide OO) (unhide HU) (unhide HV) (unhide HX) (by omega) (by omega) (by have := unhide HEE; omega) (by have := unhide HEE; omega) (by have := unhide HEE; omega) (unhide HB1) (unhide HB2) (unhide HR1))
              have HM1 : Hid (Mix a b dk dk) := hide ((Mix.of_rh ((unhide HZ1).trans (unhide HS).symm) (by omega) (by have := unhide HEE; omega) (unhide HR1)).wide (by omega) (by have := unhide HEE; omega))
              have HP1 : Hid (Mix a mid dk dk ∧ Srt lt dk a mid) := hide (part1_triv (unhide HH) (by omega) (by have := unhide HEE; omega) (by omega))
              have HPR := hide (pre2 (unhide HH) (by have := unhide HEE; omega) (unhide HP1).1)
              have HP2 : Hid (Mix mid b dk dk ∧ Srt lt dk mid b) := hide (part2_triv (unhide HH) (by have := unhide HEE; omega) (by have := unhide HEE; omega) (unhide HP1).1 (by omega))
              have HEND : Hid (Mix a b dk dk ∧ Srt lt dk a b) := hide ⟨(unhide HM1).trans (((unhide HP1).1.wide (Nat.le_refl _) (by have := unhide HEE; omega)).trans ((unhide HP2).1.wide (by have := unhide HEE; omega) (Nat.le_refl _))), (unhide HH).done (unhide HP1).1 (unhide HP2).1 (unhide HP1).2 (unhide HP2).2⟩
              go_wp2
              all_goals (go_end0; exact ⟨rfl, dk, S1.out, (unhide HEND).1, (unhide HEND).2⟩)
          · by_cases hF : e < b
            · -- s < m True, s < mid False, a < s False, e < b True
              have zA : (s : Int) < (m : Int) := by have := unhide HEE; omega
              have zB1 : ¬ (m : Int) < (e : Int) := by have := unhide HEE; omega
              have zB2 : ¬ (s : Int) < (mid : Int) := by have := unhide HEE; omega
              have zC : ¬ (a : Int) < (s : Int) := by have := unhide HEE; omega
              have zE : (mid : Int) < (e : Int) := by have := unhide HEE; omega
              have zF : (e : Int) < (b : Int) := by have := unhide HEE; omega
              clear HLO HHI
              have HR1 : Hid (∀ p, dk[p]! = dk[rh s m e p]!) := hide (fun p => by rw [show rh s m e p = p from by rw [show e = m by have := unhide HEE; omega]; exact rh_id' (by omega)])
              have HZ1 := HS
              have HH : Hid (Halves lt dk a s mid e b) := hide (halves (unhide OO) (unhide HU) (unhide HV) (unhide HX) (by omega) (by omega) (by have := unhide HEE; omega) (by have := unhide HEE; omega) (by have := unhide HEE; omega) (unhide HB1) (unhide HB2) (unhide HR1))
              have HM1 : Hid (Mix a b dk dk) := hide ((Mix.of_rh ((unhide HZ1).trans (unhide HS).symm) (by omega) (by have := unhide HEE; omega) (unhide HR1)).wide (by omega) (by have := unhide HEE; omega))
              have HP1 : Hid (Mix a mid dk dk ∧ Srt lt dk a mid) := hide (part1_triv (unhide HH) (by omega) (by have := unhide HEE; omega) (by omega))
              have HPR := hide (pre2 (unhide HH) (by have := unhide HEE; omega) (unhide HP1).1)
              go_wp2_with fail
              refine (KI.out dk ((unhide HP1).1.size.trans (unhide HZ1)) mid e b (by have := unhide HEE; omega) (by have := unhide HEE; omega) (by omega) (by omega) (unhide HPR).1 (unhide HPR).2.1 (unhide HPR).2.2 _ S1.out).mono ?_
              rintro e3 w3x ⟨rfl, d3, s3x, m3x, r3x⟩
              have SC : Aside (SWK encT k w0 g 0 d3 w3x) := s3x
              have HP2 : Hid (Mix mid b dk d3 ∧ Srt lt d3 mid b) := hide ⟨m3x, r3x⟩
              clear s3x m3x r3x S1
              have HEND : Hid (Mix a b dk d3 ∧ Srt lt d3 a b) := hide ⟨(unhide HM1).trans (((unhide HP1).1.wide (Nat.le_refl _) (by have := unhide HEE; omega)).trans ((unhide HP2).1.wide (by have := unhide HEE; omega) (Nat.le_refl _))), (unhide HH).done (unhide HP1).1 (unhide HP2).1 (unhide HP1).2 (unhide HP2).2⟩
              go_wp2
              all_goals (go_end0; exact ⟨rfl, d3, SC.out, (unhide HEND).1, (unhide HEND).2⟩)
            · -- s < m True, s < mid False, a < s False, e < b False
              have zA : (s : Int) < (m : Int) := by have := unhide HEE; omega
              have zB1 : ¬ (m : Int) < (e : Int) := by have := unhide HEE; omega
              have zB2 : ¬ (s : Int) < (mid : Int) := by have := unhide HEE; omega
              have zC : ¬ (a : Int) < (s : Int) := by have := unhide HEE; omega
              have zE : (mid : Int) < (e : Int) := by have := unhide HEE; omega
              have zF : ¬ (e : Int) < (b : Int) := by have := unhide HEE; omega
              clear HLO HHI
              have HR1 : Hid (∀ p, dk[p]! = dk[rh s m e p]!) := hide (fun p => by rw [show rh s m e p = p from by rw [show e = m by have := unhide HEE; omega]; exact rh_id' (by omega)])
              have HZ1 := HS
              have HH : Hid (Halves lt dk a s mid e b) := hide (halves (unhide OO) (unhide HU) (unhide HV) (unhide HX) (by omega) (by omega) (by have := unhide HEE; omega) (by have := unhide HEE; omega) (by have := unhide HEE; omega) (unhide HB1) (unhide HB2) (unhide HR1))
              have HM1 : Hid (Mix a b dk dk) := hide ((Mix.of_rh ((unhide HZ1).trans (unhide HS).symm) (by omega) (by have := unhide HEE; omega) (unhide HR1)).wide (by omega) (by have := unhide HEE; omega))
              have HP1 : Hid (Mix a mid dk dk ∧ Srt lt dk a mid) := hide (part1_triv (unhide HH) (by omega) (by have := unhide HEE; omega) (by omega))
              have HPR := hide (pre2 (unhide HH) (by have := unhide HEE; omega) (unhide HP1).1)
              have HP2 : Hid (Mix mid b dk dk ∧ Srt lt dk mid b) := hide (part2_triv (unhide HH) (by have := unhide HEE; omega) (by have := unhide HEE; omega) (unhide HP1).1 (by omega))
              have HEND : Hid (Mix a b dk dk ∧ Srt lt dk a b) := hide ⟨(unhide HM1).trans (((unhide HP1).1.wide (Nat.le_refl _) (by have := unhide HEE; omega)).trans ((unhide HP2).1.wide (by have := unhide HEE; omega) (Nat.le_refl _))), (unhide HH).done (unhide HP1).1 (unhide HP2).1 (unhide HP1).2 (unhide HP2).2⟩
              go_wp2
              all_goals (go_end0; exact ⟨rfl, dk, S1.out, (unhide HEND).1, (unhide HEND).2⟩)
      · by_cases hB : s < mid
        · by_cases hC : a < s
          · by_cases hF : e < b
            · -- s < m False, s < mid True, a < s True, e < b True
              have zA : ¬ (s : Int) < (m : Int) := by have := unhide HEE; omega
              have zB1 : (m : Int) < (e : Int) := by have := unhide HEE; omega
              have zB2 : (s : Int) < (mid : Int) := by have := unhide HEE; omega
              have zC : (a : Int) < (s : Int) := by have := unhide HEE; omega
              have zE : ¬ (mid : Int) < (e : Int) := by have := unhide HEE; omega
              have zF : (e : Int) < (b : Int) := by have := unhide HEE; omega
              clear HLO HHI
              have HR1 : Hid (∀ p, dk[p]! = dk[rh s m e p]!) := hide (fun p => by rw [show rh s m e p = p from by rw [show s = m by omega]; exact rh_id (by have := unhide HEE; omega)])
              have HZ1 := HS
              have HH : Hid (Halves lt dk a s mid e b) := hide (halves (unhide OO) (unhide HU) (unhide HV) (unhide HX) (by omega) (by omega) (by have := unhide HEE; omega) (by have := unhide HEE; omega) (by have := unhide HEE; omega) (unhide HB1) (unhide HB2) (unhide HR1))
              have HM1 : Hid (Mix a b dk dk) := hide ((Mix.of_rh ((unhide HZ1).trans (unhide HS).symm) (by omega) (by have := unhide HEE; omega) (unhide HR1)).wide (by omega) (by have := unhide HEE; omega))
              go_wp2_with fail
              refine (KI.out dk (unhide HZ1) a s mid (by have := unhide HEE; omega) (by omega) (by omega) (by have := unhide HEE; omega) (unhide HH).s1 (unhide HH).s2 (unhide HH).x1 _ S1.out).mono ?_
              rintro e2 w2x ⟨rfl, d2, s2x, m2x, r2x⟩
              have SB : Aside (SWK encT k w0 g 0 d2 w2x) := s2x
              have HP1 : Hid (Mix a mid dk d2 ∧ Srt lt d2 a mid) := hide ⟨m2x, r2x⟩
              clear s2x m2x r2x S1
              have HPR := hide (pre2 (unhide HH) (by have := unhide HEE; omega) (unhide HP1).1)
              have HP2 : Hid (Mix mid b d2 d2 ∧ Srt lt d2 mid b) := hide (part2_triv (unhide HH) (by have := unhide HEE; omega) (by have := unhide HEE; omega) (unhide HP1).1 (by omega))
              have HEND : Hid (Mix a b dk d2 ∧ Srt lt d2 a b) := hide ⟨(unhide HM1).trans (((unhide HP1).1.wide (Nat.le_refl _) (by have := unhide HEE; omega)).trans ((unhide HP2).1.wide (by have := unhide HEE; omega) (Nat.le_refl _))), (unhide HH).done (unhide HP1).1 (unhide HP2).1 (unhide HP1).2 (unhide HP2).2⟩
              go_wp2
              all_goals (go_end0; exact ⟨rfl, d2, SB.out, (unhide HEND).1, (unhide HEND).2⟩)
            · -- s < m False, s < mid True, a < s True, e < b False
              have zA : ¬ (s : Int) < (m : Int) := by have := unhide HEE; omega
              have zB1 : (m : Int) < (e : Int) := by have := unhide HEE; omega
              have zB2 : (s : Int) < (mid : Int) := by have := unhide HEE; omega
              have zC : (a : Int) < (s : Int) := by have := unhide HEE; omega
              have zE : ¬ (mid : Int) < (e : Int) := by have := unhide HEE; omega
              have zF : ¬ (e : Int) < (b : Int) := by have := unhide HEE; omega
              clear HLO HHI
              have HR1 : Hid (∀ p, dk[p]! = dk[rh s m e p]!) := hide (fun p => by rw [show rh s m e p = p from by rw [show s = m by omega]; exact rh_id (by have := unhide HEE; omega)])
              have HZ1 := HS
              have HH : Hid (Halves lt dk a s mid e b) := hide (halves (unhide OO) (unhide HU) (unhide HV) (unhide HX) (by omega) (by omega) (by have := unhide HEE; omega) (by have := unhide HEE; omega) (by have := unhide HEE; omega) (unhide HB1) (unhide HB2) (unhide HR1))
              have HM1 : Hid (Mix a b dk dk) := hide ((Mix.of_rh ((unhide HZ1).trans (unhide HS).symm) (by omega) (by have := unhide HEE; omega) (unhide HR1)).wide (by omega) (by have := unhide HEE; omega))
              go_wp2_with fail
              refine (KI.out dk (unhide HZ1) a s mid (by have := unhide HEE; omega) (by omega) (by omega) (by have := unhide HEE; omega) (unhide HH).s1 (unhide HH).s2 (unhide HH).x1 _ S1.out).mono ?_
              rintro e2 w2x ⟨rfl, d2, s2x, m2x, r2x⟩
              have SB : Aside (SWK encT k w0 g 0 d2 w2x) := s2x
              have HP1 : Hid (Mix a mid dk d2 ∧ Srt lt d2 a mid) := hide ⟨m2x, r2x⟩
              clear s2x m2x r2x S1
              have HPR := hide (pre2 (unhide HH) (by have := unhide HEE; omega) (unhide HP1).1)
              have HP2 : Hid (Mix mid b d2 d2 ∧ Srt lt d2 mid b) := hide (part2_triv (unhide HH) (by have := unhide HEE; omega) (by have := unhide HEE; omega) (unhide HP1).1 (by omega))
              have HEND : Hid (Mix a b dk d2 ∧ Srt lt d2 a b) := hide ⟨(unhide HM1).trans (((unhide HP1).1.wide (Nat.le_refl _) (by have := unhide HEE; omega)).trans ((unhide HP2).1.wide (by have := unhide HEE; omega) (Nat.le_refl _))), (unhide HH).done (unhide HP1).1 (unhide HP2).1 (unhide HP1).2 (unhide HP2).2⟩
              go_wp2
              all_goals (go_end0; exact ⟨rfl, d2, SB.out, (unhide HEND).1, (unhide HEND).2⟩)
          · by_cases hF : e < b
            · -- s < m False, s < mid True, a < s False, e < b True
              have zA : ¬ (s : Int) < (m : Int) := by have := unhide HEE; omega
              have zB1 : (m : Int) < (e : Int) := by have := unhide HEE; omega
              have zB2 : (s : Int) < (mid : Int) := by have := unhide HEE; omega
              have zC : ¬ (a : Int) < (s : Int) := by have := unhide HEE; omega
              have zE : ¬ (mid : Int) < (e : Int) := by have := unhide HEE; omega
              have zF : (e : Int) < (b : Int) := by have := unhide HEE; omega
              clear HLO HHI
              have HR1 : Hid (∀ p, dk[p]! = dk[rh s m e p]!) := hide (fun p => by rw [show rh s m e p = p from by rw [show s = m by omega]; exact rh_id (by have := unhide HEE; omega)])
              have HZ1 := HS
              have HH : Hid (Halves lt dk a s mid e b) := hide (halves (unhide OO) (unhide HU) (unhide HV) (unhide HX) (by omega) (by omega) (by have := unhide HEE; omega) (by have := unhide HEE; omega) (by have := unhide HEE; omega) (unhide HB1) (unhide HB2) (unhide HR1))
              have HM1 : Hid (Mix a b dk dk) := hide ((Mix.of_rh ((unhide HZ1).trans (unhide HS).symm) (by omega) (by have := unhide HEE; omega) (unhide HR1)).wide (by omega) (by have := unhide HEE; omega))
              have HP1 : Hid (Mix a mid dk dk ∧ Srt lt dk a mid) := hide (part1_triv (unhide HH) (by omega) (by have := unhide HEE; omega) (by omega))
              have HPR := hide (pre2 (unhide HH) (by have := unhide HEE; omega) (unhide HP1).1)
              have HP2 : Hid (Mix mid b dk dk ∧ Srt lt dk mid b) := hide (part2_triv (unhide HH) (by have := unhide HEE; omega) (by have := unhide HEE; omega) (unhide HP1).1 (by omega))
              have HEND : Hid (Mix a b dk dk ∧ Srt lt dk a b) := hide ⟨(unhide HM1).trans (((unhide HP1).1.wide (Nat.le_refl _) (by have := unhide HEE; omega)).trans ((unhide HP2).1.wide (by have := unhide HEE; omega) (Nat.le_refl _))), (unhide HH).done (unhide HP1).1 (unhide HP2).1 (unhide HP1).2 (unhide HP2).2⟩
              go_wp2
              all_goals (go_end0; exact ⟨rfl, dk, S1.out, (unhide HEND).1, (unhide HEND).2⟩)
            · -- s < m False, s < mid True, a < s False, e < b False
              have zA : ¬ (s : Int) < (m : Int) := by have := unhide HEE; omega
              have zB1 : (m : Int) < (e : Int) := by have := unhide HEE; omega
              have zB2 : (s : Int) < (mid : Int) := by have := unhide HEE; omega
              have zC : ¬ (a : Int) < (s : Int) := by have := unhide HEE; omega
              have zE : ¬ (mid : Int) < (e : Int) := by have := unhide HEE; omega
              have zF : ¬ (e : Int) < (b : Int) := by have := unhide HEE; omega
              clear HLO HHI
              have HR1 : Hid (∀ p, dk[p]! = dk[rh s m e p]!) := hide (fun p => by rw [show rh s m e p = p from by rw [show s = m by omega]; exact rh_id (by have := unhide HEE; omega)])
              have HZ1 := HS
              have HH : Hid (Halves lt dk a s mid e b) := hide (halves (unhide OO) (unhide HU) (unhide HV) (unhide HX) (by omega) (by omega) (by have := unhide HEE; omega) (by have := unhide HEE; omega) (by have := unhide HEE; omega) (unhide HB1) (unhide HB2) (unhide HR1))
              have HM1 : Hid (Mix a b dk dk) := hide ((Mix.of_rh ((unhide HZ1).trans (unhide HS).symm) (by omega) (by have := unhide HEE; omega) (unhide HR1)).wide (by omega) (by have := unhide HEE; omega))
              have HP1 : Hid (Mix a mid dk dk ∧ Srt lt dk a mid) := hide (part1_triv (unhide HH) (by omega) (by have := unhide HEE; omega) (by omega))
              have HPR := hide (pre2 (unhide HH) (by have := unhide HEE; omega) (unhide HP1).1)
              have HP2 : Hid (Mix mid b dk dk ∧ Srt lt dk mid b) := hide (part2_triv (unhide HH) (by have := unhide HEE; omega) (by have := unhide HEE; omega) (unhide HP1).1 (by omega))
              have HEND : Hid (Mix a b dk dk ∧ Srt lt dk a b) := hide ⟨(unhide HM1).trans (((unhide HP1).1.wide (Nat.le_refl _) (by have := unhide HEE; omega)).trans ((unhide HP2).1.wide (by have := unhide HEE; omega) (Nat.le_refl _))), (unhide HH).done (unhide HP1).1 (unhide HP2).1 (unhide HP1).2 (unhide HP2).2⟩
              go_wp2
              all_goals (go_end0; exact ⟨rfl, dk, S1.out, (unhide HEND).1, (unhide HEND).2⟩)
        · by_cases hC : a < s
          · by_cases hF : e < b
            · -- s < m False, s < mid False, a < s True, e < b True
              have zA : ¬ (s : Int) < (m : Int) := by have := unhide HEE; omega
              have zB1 : ¬ (m : Int) < (e : Int) := by have := unhide HEE; omega
              have zB2 : ¬ (s : Int) < (mid : Int) := by have := unhide HEE; omega
              have zC : (a : Int) < (s : Int) := by have := unhide HEE; omega
              have zE : ¬ (mid : Int) < (e : Int) := by have := unhide HEE; omega
              have zF : (e : Int) < (b : Int) := by have := unhide HEE; omega
              clear HLO HHI
              have HR1 : Hid (∀ p, dk[p]! = dk[rh s m e p]!) := hide (fun p => by rw [show rh s m e p = p from by rw [show e = m by have := unhide HEE; omega]; exact rh_id' (by omega)])
              have HZ1 := HS
              have HH : Hid (Halves lt dk a s mid e b) := hide (halves (unhide OO) (unhide HU) (unhide HV) (unhide HX) (by omega) (by omega) (by have := unhide HEE; omega) (by have := unhide HEE; omega) (by have := unhide HEE; omega) (unhide HB1) (unhide HB2) (unhide HR1))
              have HM1 : Hid (Mix a b dk dk) := hide ((Mix.of_rh ((unhide HZ1).trans (unhide HS).symm) (by omega) (by have := unhide HEE; omega) (unhide HR1)).wide (by omega) (by have := unhide HEE; omega))
              have HP1 : Hid (Mix a mid dk dk ∧ Srt lt dk a mid) := hide (part1_triv (unhide HH) (by omega) (by have := unhide HEE; omega) (by omega))
              have HPR := hide (pre2 (unhide HH) (by have := unhide HEE; omega) (unhide HP1).1)
              have HP2 : Hid (Mix mid b dk dk ∧ Srt lt dk mid b) := hide (part2_triv (unhide HH) (by have := unhide HEE; omega) (by have := unhide HEE; omega) (unhide HP1).1 (by omega))
              have HEND : Hid (Mix a b dk dk ∧ Srt lt dk a b) := hide ⟨(unhide HM1).trans (((unhide HP1).1.wide (Nat.le_refl _) (by have := unhide HEE; omega)).trans ((unhide HP2).1.wide (by have := unhide HEE; omega) (Nat.le_refl _))), (unhide HH).done (unhide HP1).1 (unhide HP2).1 (unhide HP1).2 (unhide HP2).2⟩
              go_wp2
              all_goals (go_end0; exact ⟨rfl, dk, S1.out, (unhide HEND).1, (unhide HEND).2⟩)
            · -- s < m False, s < mid False, a < s True, e < b False
              have zA : ¬ (s : Int) < (m : Int) := by have := unhide HEE; omega
              have zB1 : ¬ (m : Int) < (e : Int) := by have := unhide HEE; omega
              have zB2 : ¬ (s : Int) < (mid : Int) := by have := unhide HEE; omega
              have zC : (a : Int) < (s : Int) := by have := unhide HEE; omega
              have zE : ¬ (mid : Int) < (e : Int) := by have := unhide HEE; omega
              have zF : ¬ (e : Int) < (b : Int) := by have := unhide HEE; omega
              clear HLO HHI
              have HR1 : Hid (∀ p, dk[p]! = dk[rh s m e p]!) := hide (fun p => by rw [show rh s m e p = p from by rw [show e = m by have := unhide HEE; omega]; exact rh_id' (by omega)])
              have HZ1 := HS
              have HH : Hid (Halves lt dk a s mid e b) := hide (halves (unhide OO) (unhide HU) (unhide HV) (unhide HX) (by omega) (by omega) (by have := unhide HEE; omega) (by have := unhide HEE; omega) (by have := unhide HEE; omega) (unhide HB1) (unhide HB2) (unhide HR1))
              have HM1 : Hid (Mix a b dk dk) := hide ((Mix.of_rh ((unhide HZ1).trans (unhide HS).symm) (by omega) (by have := unhide HEE; omega) (unhide HR1)).wide (by omega) (by have := unhide HEE; omega))
              have HP1 : Hid (Mix a mid dk dk ∧ Srt lt dk a mid) := hide (part1_triv (unhide HH) (by omega) (by have := unhide HEE; omega) (by omega))
              have HPR := hide (pre2 (unhide HH) (by have := unhide HEE; omega) (unhide HP1).1)
              have HP2 : Hid (Mix mid b dk dk ∧ Srt lt dk mid b) := hide (part2_triv (unhide HH) (by have := unhide HEE; omega) (by have := unhide HEE; omega) (unhide HP1).1 (by omega))
              have HEND : Hid (Mix a b dk dk ∧ Srt lt dk a b) := hide ⟨(unhide HM1).trans (((unhide HP1).1.wide (Nat.le_refl _) (by have := unhide HEE; omega)).trans ((unhide HP2).1.wide (by have := unhide HEE; omega) (Nat.le_refl _))), (unhide HH).done (unhide HP1).1 (unhide HP2).1 (unhide HP1).2 (unhide HP2).2⟩
              go_wp2
              all_goals (go_end0; exact ⟨rfl, dk, S1.out, (unhide HEND).1, (unhide HEND).2⟩)
          · by_cases hF : e < b
            · -- s < m False, s < mid False, a < s False, e < b True
              have zA : ¬ (s : Int) < (m : Int) := by have := unhide HEE; omega
              have zB1 : ¬ (m : Int) < (e : Int) := by have := unhide HEE; omega
              have zB2 : ¬ (s : Int) < (mid : Int) := by have := unhide HEE; omega
              have zC : ¬ (a : Int) < (s : Int) := by have := unhide HEE; omega
              have zE : ¬ (mid : Int) < (e : Int) := by have := unhide HEE; omega
              have zF : (e : Int) < (b : Int) := by have := unhide HEE; omega
              clear HLO HHI
              have HR1 : Hid (∀ p, dk[p]! = dk[rh s m e p]!) := hide (fun p => by rw [show rh s m e p = p from by rw [show e = m by have := unhide HEE; omega]; exact rh_id' (by omega)])
              have HZ1 := HS
              have HH : Hid (Halves lt dk a s mid e b) := hide (halves (unhide OO) (unhide HU) (unhide HV) (unhide HX) (by omega) (by omega) (by have := unhide HEE; omega) (by have := unhide HEE; omega) (by have := unhide HEE; omega) (unhide HB1) (unhide HB2) (unhide HR1))
              have HM1 : Hid (Mix a b dk dk) := hide ((Mix.of_rh ((unhide HZ1).trans (unhide HS).symm) (by omega) (by have := unhide HEE; omega) (unhide HR1)).wide (by omega) (by have := unhide HEE; omega))
              have HP1 : Hid (Mix a mid dk dk ∧ Srt lt dk a mid) := hide (part1_triv (unhide HH) (by omega) (by have := unhide HEE; omega) (by omega))
              have HPR := hide (pre2 (unhide HH) (by have := unhide HEE; omega) (unhide HP1).1)
              have HP2 : Hid (Mix mid b dk dk ∧ Srt lt dk mid b) := hide (part2_triv (unhide HH) (by have := unhide HEE; omega) (by have := unhide HEE; omega) (unhide HP1).1 (by omega))
              have HEND : Hid (Mix a b dk dk ∧ Srt lt dk a b) := hide ⟨(unhide HM1).trans (((unhide HP1).1.wide (Nat.le_refl _) (by have := unhide HEE; omega)).trans ((unhide HP2).1.wide (by have := unhide HEE; omega) (Nat.le_refl _))), (unhide HH).done (unhide HP1).1 (unhide HP2).1 (unhide HP1).2 (unhide HP2).2⟩
              go_wp2
              all_goals (go_end0; exact ⟨rfl, dk, S1.out, (unhide HEND).1, (unhide HEND).2⟩)
            · -- s < m False, s < mid False, a < s False, e < b False
              have zA : ¬ (s : Int) < (m : Int) := by have := unhide HEE; omega
              have zB1 : ¬ (m : Int) < (e : Int) := by have := unhide HEE; omega
              have zB2 : ¬ (s : Int) < (mid : Int) := by have := unhide HEE; omega
              have zC : ¬ (a : Int) < (s : Int) := by have := unhide HEE; omega
              have zE : ¬ (mid : Int) < (e : Int) := by have := unhide HEE; omega
              have zF : ¬ (e : Int) < (b : Int) := by have := unhide HEE; omega
              clear HLO HHI
              have HR1 : Hid (∀ p, dk[p]! = dk[rh s m e p]!) := hide (fun p => by rw [show rh s m e p = p from by rw [show e = m by have := unhide HEE; omega]; exact rh_id' (by omega)])
              have HZ1 := HS
              have HH : Hid (Halves lt dk a s mid e b) := hide (halves (unhide OO) (unhide HU) (unhide HV) (unhide HX) (by omega) (by omega) (by have := unhide HEE; omega) (by have := unhide HEE; omega) (by have := unhide HEE; omega) (unhide HB1) (unhide HB2) (unhide HR1))
              have HM1 : Hid (Mix a b dk dk) := hide ((Mix.of_rh ((unhide HZ1).trans (unhide HS).symm) (by omega) (by have := unhide HEE; omega) (unhide HR1)).wide (by omega) (by have := unhide HEE; omega))
              have HP1 : Hid (Mix a mid dk dk ∧ Srt lt dk a mid) := hide (part1_triv (unhide HH) (by omega) (by have := unhide HEE; omega) (by omega))
              have HPR := hide (pre2 (unhide HH) (by have := unhide HEE; omega) (unhide HP1).1)
              have HP2 : Hid (Mix mid b dk dk ∧ Srt lt dk mid b) := hide (part2_triv (unhide HH) (by have := unhide HEE; omega) (by have := unhide HEE; omega) (unhide HP1).1 (by omega))
              have HEND : Hid (Mix a b dk dk ∧ Srt lt dk a b) := hide ⟨(unhide HM1).trans (((unhide HP1).1.wide (Nat.le_refl _) (by have := unhide HEE; omega)).trans ((unhide HP2).1.wide (by have := unhide HEE; omega) (Nat.le_refl _))), (unhide HH).done (unhide HP1).1 (unhide HP2).1 (unhide HP1).2 (unhide HP2).2⟩
              go_wp2
              all_goals (go_end0; exact ⟨rfl, dk, S1.out, (unhide HEND).1, (unhide HEND).2⟩)
end Go.Proofs.Ytbghekolfcakeaa

namespace Go.Proofs.Ytbghekolfcakeaa
open Go.Shelf Go.RowKit Go.Lib Go.Sort


set_option maxRecDepth 100000 in
set_option maxHeartbeats 4000000 in
theorem symC2 {P : Program} {k : Nat} (L : Lay P k) (F79 : P.funcs[79]? = some Try.f79) (gc : Nat) (cb : Array Value) (eg : ∀ args w, (callFunc gc args).run P w = .ok (.enter gc args) w) {cf : TP → TP → Int} {lt : TP → TP → Prop} (O : Ord cf lt)
    (w0 : World) (g : Nat) (d0 : Array TP) (R : RowK encT k w0 g 0 d0) (sz : Nat) (h0 : d0.size = sz) (hsz : sz ≤ 100000) (hcmp : CmpLays P gc cb encT k cf g 0 sz w0) (dk : Array TP) (hs : dk.size = sz) (cap a m b : Nat) (hma : a + 1 < m) (hmb : m + 1 < b) (hb : b ≤ sz) (mid : Nat) (hmid : mid = (a + b) / 2) (hbr : m ≤ mid) (hu : Srt lt dk a m) (hv : Srt lt dk m b) (hx : Sep dk a m b)
    (E82 : ∀ args w, (callFunc 82 args).run P w = .ok (.enter 82 args) w) (E79 : ∀ args w, (callFunc 79 args).run P w = .ok (.enter 79 args) w)
    (kr : ∀ (di : Array TP), di.size = sz → ∀ x y z, x < y → y < z → z ≤ sz → ∀ W, SWK encT k w0 g 0 di W → Calls P 82 #[.slice (some ⟨g, 0, none⟩) sz cap, .int .i64 (x : Nat), .int .i64 (y : Nat), .int .i64 (z : Nat), .func (.func gc) #[] cb] W (Moved k w0 g di (rh x y z)))
    (ki : ∀ (di : Array TP), di.size = sz → ∀ x y z, z - x < b - a → x < y → y < z → z ≤ sz → Srt lt di x y → Srt lt di y z → Sep di x y z → ∀ W, SWK encT k w0 g 0 di W → Calls P 79 #[.slice (some ⟨g, 0, none⟩) sz cap, .int .i64 (x : Nat), .int .i64 (y : Nat), .int .i64 (z : Nat), .func (.func gc) #[] cb] W (Sorted k lt w0 g di x z))
    (W : World) (S : SWK encT k w0 g 0 dk W) :
    Calls P 79 #[.slice (some ⟨g, 0, none⟩) sz cap, .int .i64 a, .int .i64 m, .int .i64 b, .func (.func gc) #[] cb] W (Sorted k lt w0 g dk a b) := by
  have mixed := L.mixed; have t3 := L.t3; have a3 := L.a3; have z3 := L.z3; have t4 := L.t4; have a4 := L.a4; have z4 := L.z4; have t22 := L.t22; have a22 := L.a22; have z22 := L.z22; have t92 := L.t92; have aE := L.aE; have zE := L.zE
  have u22 := run_underlying L.t22
  have SS : Aside (SWK encT k w0 g 0 dk W) := S
  have RR : Aside (RowK encT k w0 g 0 d0) := R
  have HC : Aside (CmpLays P gc cb encT k cf g 0 sz w0) := hcmp
  have KR : Aside _ := kr
  have KI : Aside _ := ki
  have OO := hide O
  have HS := hide hs
  have H0 := hide h0
  have HU := hide hu
  have HV := hide hv
  have HX := hide hx
  obtain ⟨am, ham⟩ : ∃ x : Nat, m = a + x := ⟨m - a, by omega⟩
  obtain ⟨bm, hbm⟩ : ∃ x : Nat, b = m + x := ⟨b - m, by omega⟩
  obtain ⟨nn, hnn⟩ : ∃ x : Nat, x = mid + m := ⟨_, rfl⟩
  obtain ⟨pp, hpp⟩ : ∃ x : Nat, nn = x + 1 := ⟨nn - 1, by omega⟩
  have w1 : IntKind.i64.wrap ((m : Int) - (a : Int)) = (am : Int) := by rw [IntKind.wrap_i64]; omega
  have w1' : (m : Int) - (a : Int) = (am : Int) := by omega
  have w1b : ((am : Int) == 1) = false := by simp; omega
  have w2 : IntKind.i64.wrap ((b : Int) - (m : Int)) = (bm : Int) := by rw [IntKind.wrap_i64]; omega
  have w2' : (b : Int) - (m : Int) = (bm : Int) := by omega
  have w2b : ((bm : Int) == 1) = false := by simp; omega
  have hki : ((a : Int) + (b : Int)) / 2 = (mid : Int) := by omega
  have w3 : IntKind.i64.wrap ((mid : Int) + (m : Int)) = (nn : Int) := by rw [IntKind.wrap_i64]; omega
  have w3' : (mid : Int) + (m : Int) = (nn : Int) := by omega
  have w4 : IntKind.i64.wrap ((nn : Int) - 1) = (pp : Int) := by rw [IntKind.wrap_i64]; omega
  have w4' : (nn : Int) - 1 = (pp : Int) := by omega
  have hbrz : ¬ (mid : Int) < (m : Int) := by omega
  have HNN : Hid (nn = mid + m ∧ nn = pp + 1 ∧ 2 * mid ≤ a + b ∧ a + b ≤ 2 * mid + 1) := hide ⟨hnn, hpp, by omega, by omega⟩
  clear S R hcmp O hs h0 hu hv hx hmid kr ki ham hbm hnn hpp
  go_enter F79, Try.ntmps79
  go_wp2
  go_loopg [20, 21] (m - a) (fun gh vi vj wr => ∃ (s r : Nat), vi = .int .i64 s ∧ vj = .int .i64 r ∧ a ≤ s ∧ s ≤ r ∧ r ≤ m ∧ r - s ≤ gh ∧ Aside (SWK encT k w0 g 0 dk wr) ∧ Hid (s = a ∨ lt dk[s - 1]! dk[nn - s]!) ∧ Hid (r = m ∨ lt dk[nn - 1 - r]! dk[r]!))
  case atStart => exact ⟨a, m, rfl, rfl, Nat.le_refl _, by have := unhide HNN; omega, Nat.le_refl _, Nat.le_refl _, SS, hide (.inl rfl), hide (.inl rfl)⟩
  case round =>
    obtain ⟨s, r, rfl, rfl, hlos, hsr, hrhi, hgh, S1, HLO, HHI⟩ := hrel
    by_cases hlt : s < r
    · have hltz : (s : Int) < (r : Int) := by omega
      obtain ⟨c, hc⟩ : ∃ h : Nat, h = (s + r) / 2 := ⟨_, rfl⟩
      obtain ⟨pc, hpc⟩ : ∃ h : Nat, pp = h + c := ⟨pp - c, by have := unhide HNN; omega⟩
      have hkc : ((s : Int) + (r : Int)) / 2 = (c : Int) := by omega
      have hcs : s ≤ c := by omega
      have hcr : c < r := by omega
      have w6 : IntKind.i64.wrap ((pp : Int) - (c : Int)) = (pp : Int) - (c : Int) := by rw [IntKind.wrap_i64]; have := unhide HNN; omega
      have w6a : ((pp : Int) - (c : Int)).toNat = pc := by omega
      have w6b : (0 : Int) ≤ (pp : Int) - (c : Int) := by omega
      have w6c : (c : Int) ≤ (pp : Int) := by omega
      have w6d : c ≤ pp := by omega
      have w6e : pp - c = pc := by omega
      have w6f : (pp : Int) < (sz : Int) + (c : Int) := by have := unhide HNN; omega
      have w6g : pp < sz + c := by have := unhide HNN; omega
      have w6h : pc < sz := by have := unhide HNN; omega
      have HPC : Hid (m ≤ pc ∧ pc < b ∧ nn - 1 - c = pc ∧ nn - (c + 1) = pc ∧ a ≤ c ∧ c < m) := hide (by have := unhide HNN; omega)
      have q1 : (c : Int) < (sz : Int) := by have := unhide HPC; omega
      have q2 : (pp : Int) - (c : Int) < (sz : Int) := by have := unhide HPC; omega
      have HLT : Hid (cf dk[pc]! dk[c]! < 0 → lt dk[pc]! dk[c]!) := hide (unhide OO).less
      have HGT : Hid (¬ cf dk[pc]! dk[c]! < 0 → lt dk[c]! dk[pc]!) := hide (fun hn => (unhide OO).more hn (unhide HX c pc (by have := unhide HPC; omega) (by have := unhide HPC; omega) (unhide HPC).1 (unhide HPC).2.1))
      have l1 := fun n' os' => zadd (S1.out.ld RR.out ((unhide HS).trans (unhide H0).symm) P pc (by have := unhide HS; have := unhide HPC; omega) n' os')
      have l2 := fun n' os' => zadd (S1.out.ld RR.out ((unhide HS).trans (unhide H0).symm) P c (by have := unhide HS; have := unhide HPC; omega) n' os')
      have hcg := fun n' os' => S1.out.cmp HC.out (unhide HS) dk[pc]! dk[c]! n' os'
      clear hc hpc
      by_cases hlv : cf dk[pc]! dk[c]! < 0
      · have hdv : decide (cf dk[pc]! dk[c]! < 0) = true := decide_eq_true hlv
        go_wp2_with fail
        go_quiet_grown (first | (go_at_fn gc; refine Calls.grown_of (hcg _ _)))
        have S2 : Aside (SWK encT k w0 g 0 dk (grow (wr.drewN nq) osq)) := S1.out.grown nq osq
        clear l1 l2 hcg S1
        go_wp2
        go_roundg (c - s)
        case measure => omega
        case rel => exact ⟨s, c, rfl, rfl, hlos, hcs, by omega, Nat.le_refl _, S2, HLO, hide (.inr (by rw [(unhide HPC).2.2.1]; exact unhide HLT hlv))⟩
      · have hdv : decide (cf dk[pc]! dk[c]! < 0) = false := decide_eq_false hlv
        go_wp2_with fail
        go_quiet_grown (first | (go_at_fn gc; refine Calls.grown_of (hcg _ _)))
        have S2 : Aside (SWK encT k w0 g 0 dk (grow (wr.drewN nq) osq)) := S1.out.grown nq osq
        clear l1 l2 hcg S1
        go_wp2
        go_roundg (r - (c + 1))
        case measure => omega
        case rel => exact ⟨c + 1, r, by go_num, rfl, by omega, by omega, hrhi, Nat.le_refl _, S2, hide (.inr (by rw [Nat.add_sub_cancel, (unhide HPC).2.2.2.1]; exact unhide HGT hlv)), HHI⟩
    · have hltz : ¬ (s : Int) < (r : Int) := by omega
      obtain rfl : s = r := by omega
      obtain ⟨e, he⟩ : ∃ x : Nat, nn = x + s := ⟨nn - s, by have := unhide HNN; omega⟩
      have w7 : IntKind.i64.wrap ((nn : Int) - (s : Int)) = (e : Int) := by rw [IntKind.wrap_i64]; have := unhide HNN; omega
      have w7' : (nn : Int) - (s : Int) = (e : Int) := by omega
      have HEE : Hid (mid + m = s + e ∧ a ≤ s ∧ s ≤ m ∧ m ≤ e ∧ e ≤ b ∧ a < mid ∧ mid < b) := hide (by have := unhide HNN; omega)
      have has : a ≤ s := (unhide HEE).2.1
      have hsm : s ≤ m := (unhide HEE).2.2.1
      have HB1 : Hid (s = a ∨ e = b ∨ lt dk[s - 1]! dk[e]!) := hide (by
        rcases unhide HLO with h | h
        · left; exact h
        · right; right; rw [show e = nn - s by omega]; exact h)
      have HB2 : Hid (s = m ∨ e = m ∨ lt dk[e - 1]! dk[s]!) := hide (by
        rcases unhide HHI with h | h
        · left; exact h
        · right; right; rw [show e - 1 = nn - 1 - s by omega]; exact h)
      clear he
      by_cases hA : s < m
      · by_cases hB : s < mid
        · by_cases hC : a < s
          · by_cases hF : e < b
            · -- s < m True, s < mid True, a < s True, e < b True
              have zA : (s : Int) < (m : Int) := by have := unhide HEE; omega
              have zB1 : (m : Int) < (e : Int) := by have := unhide HEE; omega
              have zB2 : (s : Int) < (mid : Int) := by have := unhide HEE; omega
              have zC : (a : Int) < (s : Int) := by have := unhide HEE; omega
              have zE : (mid : Int) < (e : Int) := by have := unhide HEE; omega
              have zF : (e : Int) < (b : Int) := by have := unhide HEE; omega
              clear HLO HHI
              go_wp2_with fail
              refine (KR.out dk (unhide HS) s m e hA (by omega) (by have := unhide HEE; omega) _ S1.out).mono ?_
              rintro e1 w1x ⟨rfl, d1, s1x, z1x, r1x⟩
              have SA : Aside (SWK encT k w0 g 0 d1 w1x) := s1x
              have HR1 : Hid (∀ p, d1[p]! = dk[rh s m e p]!) := hide r1x
              have HZ1 : Hid (d1.size = sz) := hide (z1x.trans (unhide HS))
              clear s1x z1x r1x S1
              have HH : Hid (Halves lt d1 a s mid e b) := hide (halves (unhide OO) (unhide HU) (unhide HV) (unhide HX) (by omega) (by omega) (by have := unhide HEE; omega) (by have := unhide HEE; omega) (by have := unhide HEE; omega) (unhide HB1) (unhide HB2) (unhide HR1))
              have HM1 : Hid (Mix a b dk d1) := hide ((Mix.of_rh ((unhide HZ1).trans (unhide HS).symm) (by omega) (by have := unhide HEE; omega) (unhide HR1)).wide (by omega) (by have := unhide HEE; omega))
              go_wp2_with fail
              refine (KI.out d1 (unhide HZ1) a s mid (by have := unhide HEE; omega) (by omega) (by omega) (by have := unhide HEE; omega) (unhide HH).s1 (unhide HH).s2 (unhide HH).x1 _ SA.out).mono ?_
              rintro e2 w2x ⟨rfl, d2, s2x, m2x, r2x⟩
              have SB : Aside (SWK encT k w0 g 0 d2 w2x) := s2x
              have HP1 : Hid (Mix a mid d1 d2 ∧ Srt lt d2 a mid) := hide ⟨m2x, r2x⟩
              clear s2x m2x r2x SA
              have HPR := hide (pre2 (unhide HH) (by have := unhide HEE; omega) (unhide HP1).1)
              go_wp2_with fail
              refine (KI.out d2 ((unhide HP1).1.size.trans (unhide HZ1)) mid e b (by have := unhide HEE; omega) (by have := unhide HEE; omega) (by omega) (by omega) (unhide HPR).1 (unhide HPR).2.1 (unhide HPR).2.2 _ SB.out).mono ?_
              rintro e3 w3x ⟨rfl, d3, s3x, m3x, r3x⟩
              have SC : Aside (SWK encT k w0 g 0 d3 w3x) := s3x
              have HP2 : Hid (Mix mid b d2 d3 ∧ Srt lt d3 mid b) := hide ⟨m3x, r3x⟩
              clear s3x m3x r3x SB
              have HEND : Hid (Mix a b dk d3 ∧ Srt lt d3 a b) := hide ⟨(unhide HM1).trans (((unhide HP1).1.wide (Nat.le_refl _) (by have := unhide HEE; omega)).trans ((unhide HP2).1.wide (by have := unhide HEE; omega) (Nat.le_refl _))), (unhide HH).done (unhide HP1).1 (unhide HP2).1 (unhide HP1).2 (unhide HP2).2⟩
              go_wp2
              all_goals (go_end0; exact ⟨rfl, d3, SC.out, (unhide HEND).1, (unhide HEND).2⟩)
            · -- s < m True, s < mid True, a < s True, e < b False
              have zA : (s : Int) < (m : Int) := by have := unhide HEE; omega
              have zB1 : (m : Int) < (e : Int) := by have := unhide HEE; omega
              have zB2 : (s : Int) < (mid : Int) := by have := unhide HEE; omega
              have zC : (a : Int) < (s : Int) := by have := unhide HEE; omega
              have zE : (mid : Int) < (e : Int) := by have := unhide HEE; omega
              have zF : ¬ (e : Int) < (b : Int) := by have := unhide HEE; omega
              clear HLO HHI
              go_wp2_with fail
              refine (KR.out dk (unhide HS) s m e hA (by omega) (by have := unhide HEE; omega) _ S1.out).mono ?_
              rintro e1 w1x ⟨rfl, d1, s1x, z1x, r1x⟩
              have SA : Aside (SWK encT k w0 g 0 d1 w1x) := s1x
              have HR1 : Hid (∀ p, d1[p]! = dk[rh s m e p]!) := hide r1x
              have HZ1 : Hid (d1.size = sz) := hide (z1x.trans (unhide HS))
              clear s1x z1x r1x S1
              have HH : Hid (Halves lt d1 a s mid e b) := hide (halves (unhide OO) (unhide HU) (unhide HV) (unhide HX) (by omega) (by omega) (by have := unhide HEE; omega) (by have := unhide HEE; omega) (by have := unhide HEE; omega) (unhide HB1) (unhide HB2) (unhide HR1))
              have HM1 : Hid (Mix a b dk d1) := hide ((Mix.of_rh ((unhide HZ1).trans (unhide HS).symm) (by omega) (by have := unhide HEE; omega) (unhide HR1)).wide (by omega) (by have := unhide HEE; omega))
              go_wp2_with fail
              refine (KI.out d1 (unhide HZ1) a s mid (by have := unhide HEE; omega) (by omega) (by omega) (by have := unhide HEE; omega) (unhide HH).s1 (unhide HH).s2 (unhide HH).x1 _ SA.out).mono ?_
              rintro e2 w2x ⟨rfl, d2, s2x, m2x, r2x⟩
              have SB : Aside (SWK encT k w0 g 0 d2 w2x) := s2x
              have HP1 : Hid (Mix a mid d1 d2 ∧ Srt lt d2 a mid) := hide ⟨m2x, r2x⟩
              clear s2x m2x r2x SA
              have HPR := hide (pre2 (unhide HH) (by have := unhide HEE; omega) (unhide HP1).1)
              have HP2 : Hid (Mix mid b d2 d2 ∧ Srt lt d2 mid b) := hide (part2_triv (unhide HH) (by have := unhide HEE; omega) (by have := unhide HEE; omega) (unhide HP1).1 (by omega))
              have HEND : Hid (Mix a b dk d2 ∧ Srt lt d2 a b) := hide ⟨(unhide HM1).trans (((unhide HP1).1.wide (Nat.le_refl _) (by have := unhide HEE; omega)).trans ((unhide HP2).1.wide (by have := unhide HEE; omega) (Nat.le_refl _))), (unhide HH).done (unhide HP1).1 (unhide HP2).1 (unhide HP1).2 (unhide HP2).2⟩
              go_wp2
              all_goals (go_end0; exact ⟨rfl, d2, SB.out, (unhide HEND).1, (unhide HEND).2⟩)
          · by_cases hF : e < b
            · -- s < m True, s < mid True, a < s False, e < b True
              have zA : (s : Int) < (m : Int) := by have := unhide HEE; omega
              have zB1 : (m : Int) < (e : Int) := by have := unhide HEE; omega
              have zB2 : (s : Int) < (mid : Int) := by have := unhide HEE; omega
              have zC : ¬ (a : Int) < (s : Int) := by have := unhide HEE; omega
              have zE : (mid : Int) < (e : Int) := by have := unhide HEE; omega
              have zF : (e : Int) < (b : Int) := by have := unhide HEE; omega
              clear HLO HHI
              go_wp2_with fail
              refine (KR.out dk (unhide HS) s m e hA (by omega) (by have := unhide HEE; omega) _ S1.out).mono ?_
              rintro e1 w1x ⟨rfl, d1, s1x, z1x, r1x⟩
              have SA : Aside (SWK encT k w0 g 0 d1 w1x) := s1x
              have HR1 : Hid (∀ p, d1[p]! = dk[rh s m e p]!) := hide r1x
              have HZ1 : Hid (d1.size = sz) := hide (z1x.trans (unhide HS))
              clear s1x z1x r1x S1
              have HH : Hid (Halves lt d1 a s mid e b) := hide (halves (unhide OO) (unhide HU) (unhide HV) (unhide HX) (by omega) (by omega) (by have := unhide HEE; omega) (by have := unhide HEE; omega) (by have := unhide HEE; omega) (unhide HB1) (unhide HB2) (unhide HR1))
              have HM1 : Hid (Mix a b dk d1) := hide ((Mix.of_rh ((unhide HZ1).trans (unhide HS).symm) (by omega) (by have := unhide HEE; omega) (unhide HR1)).wide (by omega) (by have := unhide HEE; omega))
              have HP1 : Hid (Mix a mid d1 d1 ∧ Srt lt d1 a mid) := hide (part1_triv (unhide HH) (by omega) (by have := unhide HEE; omega) (by omega))
              have HPR := hide (pre2 (unhide HH) (by have := unhide HEE; omega) (unhide HP1).1)
              go_wp2_with fail
              refine (KI.out d1 ((unhide HP1).1.size.trans (unhide HZ1)) mid e b (by have := unhide HEE; omega) (by have := unhide HEE; omega) (by omega) (by omega) (unhide HPR).1 (unhide HPR).2.1 (unhide HPR).2.2 _ SA.out).mono ?_
              rintro e3 w3x ⟨rfl, d3, s3x, m3x, r3x⟩
              have SC : Aside (SWK encT k w0 g 0 d3 w3x) := s3x
              have HP2 : Hid (Mix mid b d1 d3 ∧ Srt lt d3 mid b) := hide ⟨m3x, r3x⟩
              clear s3x m3x r3x SA
              have HEND : Hid (Mix a b dk d3 ∧ Srt lt d3 a b) := hide ⟨(unhide HM1).trans (((unhide HP1).1.wide (Nat.le_refl _) (by have := unhide HEE; omega)).trans ((unhide HP2).1.wide (by have := unhide HEE; omega) (Nat.le_refl _))), (unhide HH).done (unhide HP1).1 (unhide HP2).1 (unhide HP1).2 (unhide HP2).2⟩
              go_wp2
              all_goals (go_end0; exact ⟨rfl, d3, SC.out, (unhide HEND).1, (unhide HEND).2⟩)
            · -- s < m True, s < mid True, a < s False, e < b False
              have zA : (s : Int) < (m : Int) := by have := unhide HEE; omega
              have zB1 : (m : Int) < (e : Int) := by have := unhide HEE; omega
              have zB2 : (s : Int) < (mid : Int) := by have := unhide HEE; omega
              have zC : ¬ (a : Int) < (s : Int) := by have := unhide HEE; omega
              have zE : (mid : Int) < (e : Int) := by have := unhide HEE; omega
              have zF : ¬ (e : Int) < (b : Int) := by have := unhide HEE; omega
              clear HLO HHI
              go_wp2_with fail
              refine (KR.out dk (unhide HS) s m e hA (by omega) (by have := unhide HEE; omega) _ S1.out).mono ?_
              rintro e1 w1x ⟨rfl, d1, s1x, z1x, r1x⟩
              have SA : Aside (SWK encT k w0 g 0 d1 w1x) := s1x
              have HR1 : Hid (∀ p, d1[p]! = dk[rh s m e p]!) := hide r1x
              have HZ1 : Hid (d1.size = sz) := hide (z1x.trans (unhide HS))
              clear s1x z1x r1x S1
              have HH : Hid (Halves lt d1 a s mid e b) := hide (halves (unhide OO) (unhide HU) (unhide HV) (unhide HX) (by omega) (by omega) (by have := unhide HEE; omega) (by have := unhide HEE; omega) (by have := unhide HEE; omega) (unhide HB1) (unhide HB2) (unhide HR1))
              have HM1 : Hid (Mix a b dk d1) := hide ((Mix.of_rh ((unhide HZ1).trans (unhide HS).symm) (by omega) (by have := unhide HEE; omega) (unhide HR1)).wide (by omega) (by have := unhide HEE; omega))
              have HP1 : Hid (Mix a mid d1 d1 ∧ Srt lt d1 a mid) := hide (part1_triv (unhide HH) (by omega) (by have := unhide HEE; omega) (by omega))
              have HPR := hide (pre2 (unhide HH) (by have := unhide HEE; omega) (unhide HP1).1)
              have HP2 : Hid (Mix mid b d1 d1 ∧ Srt lt d1 mid b) := hide (part2_triv (unhide HH) (by have := unhide HEE; omega) (by have := unhide HEE; omega) (unhide HP1).1 (by omega))
              have HEND : Hid (Mix a b dk d1 ∧ Srt lt d1 a b) := hide ⟨(unhide HM1).trans (((unhide HP1).1.wide (Nat.le_refl _) (by have := unhide HEE; omega)).trans ((unhide HP2).1.wide (by have := unhide HEE; omega) (Nat.le_refl _))), (unhide HH).done (unhide HP1).1 (unhide HP2).1 (unhide HP1).2 (unhide HP2).2⟩
              go_wp2
              all_goals (go_end0; exact ⟨rfl, d1, SA.out, (unhide HEND).1, (unhide HEND).2⟩)
        · by_cases hC : a < s
          · by_cases hF : e < b
            · -- s < m True, s < mid False, a < s True, e < b True
              have zA : (s : Int) < (m : Int) := by have := unhide HEE; omega
              have zB1 : ¬ (m : Int) < (e : Int) := by have := unhide HEE; omega
              have zB2 : ¬ (s : Int) < (mid : Int) := by have := unhide HEE; omega
              have zC : (a : Int) < (s : Int) := by have := unhide HEE; omega
              have zE : (mid : Int) < (e : Int) := by have := unhide HEE; omega
              have zF : (e : Int) < (b : Int) := by have := unhide HEE; omega
              clear HLO HHI
              have HR1 : Hid (∀ p, dk[p]! = dk[rh s m e p]!) := hide (fun p => by rw [show rh s m e p = p from by rw [show e = m by have := unhide HEE; omega]; exact rh_id' (by omega)])
              have HZ1 := HS
              have HH : Hid (Halves lt dk a s mid e b) := hide (halves (unhide OO) (unhide HU) (unhide HV) (unhide HX) (by omega) (by omega) (by have := unhide HEE; omega) (by have := unhide HEE; omega) (by have := unhide HEE; omega) (unhide HB1) (unhide HB2) (unhide HR1))
              have HM1 : Hid (Mix a b dk dk) := hide ((Mix.of_rh ((unhide HZ1).trans (unhide HS).symm) (by omega) (by have := unhide HEE; omega) (unhide HR1)).wide (by omega) (by have := unhide HEE; omega))
              have HP1 : Hid (Mix a mid dk dk ∧ Srt lt dk a mid) := hide (part1_triv (unhide HH) (by omega) (by have := unhide HEE; omega) (by omega))
              have HPR := hide (pre2 (unhide HH) (by have := unhide HEE; omega) (unhide HP1).1)
              go_wp2_with fail
              refine (KI.out dk ((unhide HP1).1.size.trans (unhide HZ1)) mid e b (by have := unhide HEE; omega) (by have := unhide HEE; omega) (by omega) (by omega) (unhide HPR).1 (unhide HPR).2.1 (unhide HPR).2.2 _ S1.out).mono ?_
              rintro e3 w3x ⟨rfl, d3, s3x, m3x, r3x⟩
              have SC : Aside (SWK encT k w0 g 0 d3 w3x) := s3x
              have HP2 : Hid (Mix mid b dk d3 ∧ Srt lt d3 mid b) := hide ⟨m3x, r3x⟩
              clear s3x m3x r3x S1
              have HEND : Hid (Mix a b dk d3 ∧ Srt lt d3 a b) := hide ⟨(unhide HM1).trans (((unhide HP1).1.wide (Nat.le_refl _) (by have := unhide HEE; omega)).trans ((unhide HP2).1.wide (by have := unhide HEE; omega) (Nat.le_refl _))), (unhide HH).done (unhide HP1).1 (unhide HP2).1 (unhide HP1).2 (unhide HP2).2⟩
              go_wp2
              all_goals (go_end0; exact ⟨rfl, d3, SC.out, (unhide HEND).1, (unhide HEND).2⟩)
            · -- s < m True, s < mid False, a < s True, e < b False
              have zA : (s : Int) < (m : Int) := by have := unhide HEE; omega
              have zB1 : ¬ (m : Int) < (e : Int) := by have := unhide HEE; omega
              have zB2 : ¬ (s : Int) < (mid : Int) := by have := unhide HEE; omega
              have zC : (a : Int) < (s : Int) := by have := unhide HEE; omega
              have zE : (mid : Int) < (e : Int) := by have := unhide HEE; omega
              have zF : ¬ (e : Int) < (b : Int) := by have := unhide HEE; omega
              clear HLO HHI
              have HR1 : Hid (∀ p, dk[p]! = dk[rh s m e p]!) := hide (fun p => by rw [show rh s m e p = p from by rw [show e = m by have := unhide HEE; omega]; exact rh_id' (by omega)])
              have HZ1 := HS
              have HH : Hid (Halves lt dk a s mid e b) := hide (halves (unhide OO) (unhide HU) (unhide HV) (unhide HX) (by omega) (by omega) (by have := unhide HEE; omega) (by have := unhide HEE; omega) (by have := unhide HEE; omega) (unhide HB1) (unhide HB2) (unhide HR1))
              have HM1 : Hid (Mix a b dk dk) := hide ((Mix.of_rh ((unhide HZ1).trans (unhide HS).symm) (by omega) (by have := unhide HEE; omega) (unhide HR1)).wide (by omega) (by have := unhide HEE; omega))
              have HP1 : Hid (Mix a mid dk dk ∧ Srt lt dk a mid) := hide (part1_triv (unhide HH) (by omega) (by have := unhide HEE; omega) (by omega))
              have HPR := hide (pre2 (unhide HH) (by have := unhide HEE; omega) (unhide HP1).1)
              have HP2 : Hid (Mix mid b dk dk ∧ Srt lt dk mid b) := hide (part2_triv (unhide HH) (by have := unhide HEE; omega) (by have := unhide HEE; omega) (unhide HP1).1 (by omega))
              have HEND : Hid (Mix a b dk dk ∧ Srt lt dk a b) := hide ⟨(unhide HM1).trans (((unhide HP1).1.wide (Nat.le_refl _) (by have := unhide HEE; omega)).trans ((unhide HP2).1.wide (by have := unhide HEE; omega) (Nat.le_refl _))), (unhide HH).done (unhide HP1).1 (unhide HP2).1 (unhide HP1).2 (unhide HP2).2⟩
              go_wp2
              all_goals (go_end0; exact ⟨rfl, dk, S1.out, (unhide HEND).1, (unhide HEND).2⟩)
          · by_cases hF : e < b
            · -- s < m True, s < mid False, a < s False, e < b True
              have zA : (s : Int) < (m : Int) := by have := unhide HEE; omega
              have zB1 : ¬ (m : Int) < (e : Int) := by have := unhide HEE; omega
              have zB2 : ¬ (s : Int) < (mid : Int) := by have := unhide HEE; omega
              have zC : ¬ (a : Int) < (s : Int) := by have := unhide HEE; omega
              have zE : (mid : Int) < (e : Int) := by have := unhide HEE; omega
              have zF : (e : Int) < (b : Int) := by have := unhide HEE; omega
              clear HLO HHI
              have HR1 : Hid (∀ p, dk[p]! = dk[rh s m e p]!) := hide (fun p => by rw [show rh s m e p = p from by rw [show e = m by have := unhide HEE; omega]; exact rh_id' (by omega)])
              have HZ1 := HS
              have HH : Hid (Halves lt dk a s mid e b) := hide (halves (unhide OO) (unhide HU) (unhide HV) (unhide HX) (by omega) (by omega) (by have := unhide HEE; omega) (by have := unhide HEE; omega) (by have := unhide HEE; omega) (unhide HB1) (unhide HB2) (unhide HR1))
              have HM1 : Hid (Mix a b dk dk) := hide ((Mix.of_rh ((unhide HZ1).trans (unhide HS).symm) (by omega) (by have := unhide HEE; omega) (unhide HR1)).wide (by omega) (by have := unhide HEE; omega))
              have HP1 : Hid (Mix a mid dk dk ∧ Srt lt dk a mid) := hide (part1_triv (unhide HH) (by omega) (by have := unhide HEE; omega) (by omega))
              have HPR := hide (pre2 (unhide HH) (by have := unhide HEE; omega) (unhide HP1).1)
              go_wp2_with fail
              refine (KI.out dk ((unhide HP1).1.size.trans (unhide HZ1)) mid e b (by have := unhide HEE; omega) (by have := unhide HEE; omega) (by omega) (by omega) (unhide HPR).1 (unhide HPR).2.1 (unhide HPR).2.2 _ S1.out).mono ?_
              rintro e3 w3x ⟨rfl, d3, s3x, m3x, r3x⟩
              have SC : Aside (SWK encT k w0 g 0 d3 w3x) := s3x
              have HP2 : Hid (Mix mid b dk d3 ∧ Srt lt d3 mid b) := hide ⟨m3x, r3x⟩
              clear s3x m3x r3x S1
              have HEND : Hid (Mix a b dk d3 ∧ Srt lt d3 a b) := hide ⟨(unhide HM1).trans (((unhide HP1).1.wide (Nat.le_refl _) (by have := unhide HEE; omega)).trans ((unhide HP2).1.wide (by have := unhide HEE; omega) (Nat.le_refl _))), (unhide HH).done (unhide HP1).1 (unhide HP2).1 (unhide HP1).2 (unhide HP2).2⟩
              go_wp2
              all_goals (go_end0; exact ⟨rfl, d3, SC.out, (unhide HEND).1, (unhide HEND).2⟩)
            · -- s < m True, s < mid False, a < s False, e < b False
              have zA : (s : Int) < (m : Int) := by have := unhide HEE; omega
              have zB1 : ¬ (m : Int) < (e : Int) := by have := unhide HEE; omega
              have zB2 : ¬ (s : Int) < (mid : Int) := by have := unhide HEE; omega
              have zC : ¬ (a : Int) < (s : Int) := by have := unhide HEE; omega
              have zE : (mid : Int) < (e : Int) := by have := unhide HEE; omega
              have zF : ¬ (e : Int) < (b : Int) := by have := unhide HEE; omega
              clear HLO HHI
              have HR1 : Hid (∀ p, dk[p]! = dk[rh s m e p]!) := hide (fun p => by rw [show rh s m e p = p from by rw [show e = m by have := unhide HEE; omega]; exact rh_id' (by omega)])
              have HZ1 := HS
              have HH : Hid (Halves lt dk a s mid e b) := hide (halves (unhide OO) (unhide HU) (unhide HV) (unhide HX) (by omega) (by omega) (by have := unhide HEE; omega) (by have := unhide HEE; omega) (by have := unhide HEE; omega) (unhide HB1) (unhide HB2) (unhide HR1))
              have HM1 : Hid (Mix a b dk dk) := hide ((Mix.of_rh ((unhide HZ1).trans (unhide HS).symm) (by omega) (by have := unhide HEE; omega) (unhide HR1)).wide (by omega) (by have := unhide HEE; omega))
              have HP1 : Hid (Mix a mid dk dk ∧ Srt lt dk a mid) := hide (part1_triv (unhide HH) (by omega) (by have := unhide HEE; omega) (by omega))
              have HPR := hide (pre2 (unhide HH) (by have := unhide HEE; omega) (unhide HP1).1)
              have HP2 : Hid (Mix mid b dk dk ∧ Srt lt dk mid b) := hide (part2_triv (unhide HH) (by have := unhide HEE; omega) (by have := unhide HEE; omega) (unhide HP1).1 (by omega))
              have HEND : Hid (Mix a b dk dk ∧ Srt lt dk a b) := hide ⟨(unhide HM1).trans (((unhide HP1).1.wide (Nat.le_refl _) (by have := unhide HEE; omega)).trans ((unhide HP2).1.wide (by have := unhide HEE; omega) (Nat.le_refl _))), (unhide HH).done (unhide HP1).1 (unhide HP2).1 (unhide HP1).2 (unhide HP2).2⟩
              go_wp2
              all_goals (go_end0; exact ⟨rfl, dk, S1.out, (unhide HEND).1, (unhide HEND).2⟩)
      · by_cases hB : s < mid
        · by_cases hC : a < s
          · by_cases hF : e < b
            · -- s < m False, s < mid True, a < s True, e < b True
              have zA : ¬ (s : Int) < (m : Int) := by have := unhide HEE; omega
              have zB1 : (m : Int) < (e : Int) := by have := unhide HEE; omega
              have zB2 : (s : Int) < (mid : Int) := by have := unhide HEE; omega
              have zC : (a : Int) < (s : Int) := by have := unhide HEE; omega
              have zE : ¬ (mid : Int) < (e : Int) := by have := unhide HEE; omega
              have zF : (e : Int) < (b : Int) := by have := unhide HEE; omega
              clear HLO HHI
              have HR1 : Hid (∀ p, dk[p]! = dk[rh s m e p]!) := hide (fun p => by rw [show rh s m e p = p from by rw [show s = m by omega]; exact rh_id (by have := unhide HEE; omega)])
              have HZ1 := HS
              have HH : Hid (Halves lt dk a s mid e b) := hide (halves (unhide OO) (unhide HU) (unhide HV) (unhide HX) (by omega) (by omega) (by have := unhide HEE; omega) (by have := unhide HEE; omega) (by have := unhide HEE; omega) (unhide HB1) (unhide HB2) (unhide HR1))
              have HM1 : Hid (Mix a b dk dk) := hide ((Mix.of_rh ((unhide HZ1).trans (unhide HS).symm) (by omega) (by have := unhide HEE; omega) (unhide HR1)).wide (by omega) (by have := unhide HEE; omega))
              go_wp2_with fail
              refine (KI.out dk (unhide HZ1) a s mid (by have := unhide HEE; omega) (by omega) (by omega) (by have := unhide HEE; omega) (unhide HH).s1 (unhide HH).s2 (unhide HH).x1 _ S1.out).mono ?_
              rintro e2 w2x ⟨rfl, d2, s2x, m2x, r2x⟩
              have SB : Aside (SWK encT k w0 g 0 d2 w2x) := s2x
              have HP1 : Hid (Mix a mid dk d2 ∧ Srt lt d2 a mid) := hide ⟨m2x, r2x⟩
              clear s2x m2x r2x S1
              have HPR := hide (pre2 (unhide HH) (by have := unhide HEE; omega) (unhide HP1).1)
              have HP2 : Hid (Mix mid b d2 d2 ∧ Srt lt d2 mid b) := hide (part2_triv (unhide HH) (by have := unhide HEE; omega) (by have := unhide HEE; omega) (unhide HP1).1 (by omega))
              have HEND : Hid (Mix a b dk d2 ∧ Srt lt d2 a b) := hide ⟨(unhide HM1).trans (((unhide HP1).1.wide (Nat.le_refl _) (by have := unhide HEE; omega)).trans ((unhide HP2).1.wide (by have := unhide HEE; omega) (Nat.le_refl _))), (unhide HH).done (unhide HP1).1 (unhide HP2).1 (unhide HP1).2 (unhide HP2).2⟩
              go_wp2
              all_goals (go_end0; exact ⟨rfl, d2, SB.out, (unhide HEND).1, (unhide HEND).2⟩)
            · -- s < m False, s < mid True, a < s True, e < b False
              have zA : ¬ (s : Int) < (m : Int) := by have := unhide HEE; omega
              have zB1 : (m : Int) < (e : Int) := by have := unhide HEE; omega
              have zB2 : (s : Int) < (mid : Int) := by have := unhide HEE; omega
              have zC : (a : Int) < (s : Int) := by have := unhide HEE; omega
              have zE : ¬ (mid : Int) < (e : Int) := by have := unhide HEE; omega
              have zF : ¬ (e : Int) < (b : Int) := by have := unhide HEE; omega
              clear HLO HHI
              have HR1 : Hid (∀ p, dk[p]! = dk[rh s m e p]!) := hide (fun p => by rw [show rh s m e p = p from by rw [show s = m by omega]; exact rh_id (by have := unhide HEE; omega)])
              have HZ1 := HS
              have HH : Hid (Halves lt dk a s mid e b) := hide (halves (unhide OO) (unhide HU) (unhide HV) (unhide HX) (by omega) (by omega) (by have := unhide HEE; omega) (by have := unhide HEE; omega) (by have := unhide HEE; omega) (unhide HB1) (unhide HB2) (unhide HR1))
              have HM1 : Hid (Mix a b dk dk) := hide ((Mix.of_rh ((unhide HZ1).trans (unhide HS).symm) (by omega) (by have := unhide HEE; omega) (unhide HR1)).wide (by omega) (by have := unhide HEE; omega))
              go_wp2_with fail
              refine (KI.out dk (unhide HZ1) a s mid (by have := unhide HEE; omega) (by omega) (by omega) (by have := unhide HEE; omega) (unhide HH).s1 (unhide HH).s2 (unhide HH).x1 _ S1.out).mono ?_
              rintro e2 w2x ⟨rfl, d2, s2x, m2x, r2x⟩
              have SB : Aside (SWK encT k w0 g 0 d2 w2x) := s2x
              have HP1 : Hid (Mix a mid dk d2 ∧ Srt lt d2 a mid) := hide ⟨m2x, r2x⟩
              clear s2x m2x r2x S1
              have HPR := hide (pre2 (unhide HH) (by have := unhide HEE; omega) (unhide HP1).1)
              have HP2 : Hid (Mix mid b d2 d2 ∧ Srt lt d2 mid b) := hide (part2_triv (unhide HH) (by have := unhide HEE; omega) (by have := unhide HEE; omega) (unhide HP1).1 (by omega))
              have HEND : Hid (Mix a b dk d2 ∧ Srt lt d2 a b) := hide ⟨(unhide HM1).trans (((unhide HP1).1.wide (Nat.le_refl _) (by have := unhide HEE; omega)).trans ((unhide HP2).1.wide (by have := unhide HEE; omega) (Nat.le_refl _))), (unhide HH).done (unhide HP1).1 (unhide HP2).1 (unhide HP1).2 (unhide HP2).2⟩
              go_wp2
              all_goals (go_end0; exact ⟨rfl, d2, SB.out, (unhide HEND).1, (unhide HEND).2⟩)
          · by_cases hF : e < b
            · -- s < m False, s < mid True, a < s False, e < b True
              have zA : ¬ (s : Int) < (m : Int) := by have := unhide HEE; omega
              have zB1 : (m : Int) < (e : Int) := by have := unhide HEE; omega
              have zB2 : (s : Int) < (mid : Int) := by have := unhide HEE; omega
              have zC : ¬ (a : Int) < (s : Int) := by have := unhide HEE; omega
              have zE : ¬ (mid : Int) < (e : Int) := by have := unhide HEE; omega
              have zF : (e : Int) < (b : Int) := by have := unhide HEE; omega
              clear HLO HHI
              have HR1 : Hid (∀ p, dk[p]! = dk[rh s m e p]!) := hide (fun p => by rw [show rh s m e p = p from by rw [show s = m by omega]; exact rh_id (by have := unhide HEE; omega)])
              have HZ1 := HS
              have HH : Hid (Halves lt dk a s mid e b) := hide (halves (unhide OO) (unhide HU) (unhide HV) (unhide HX) (by omega) (by omega) (by have := unhide HEE; omega) (by have := unhide HEE; omega) (by have := unhide HEE; omega) (unhide HB1) (unhide HB2) (unhide HR1))
              have HM1 : Hid (Mix a b dk dk) := hide ((Mix.of_rh ((unhide HZ1).trans (unhide HS).symm) (by omega) (by have := unhide HEE; omega) (unhide HR1)).wide (by omega) (by have := unhide HEE; omega))
              have HP1 : Hid (Mix a mid dk dk ∧ Srt lt dk a mid) := hide (part1_triv (unhide HH) (by omega) (by have := unhide HEE; omega) (by omega))
              have HPR := hide (pre2 (unhide HH) (by have := unhide HEE; omega) (unhide HP1).1)
              have HP2 : Hid (Mix mid b dk dk ∧ Srt lt dk mid b) := hide (part2_triv (unhide HH) (by have := unhide HEE; omega) (by have := unhide HEE; omega) (unhide HP1).1 (by omega))
              have HEND : Hid (Mix a b dk dk ∧ Srt lt dk a b) := hide ⟨(unhide HM1).trans (((unhide HP1).1.wide (Nat.le_refl _) (by have := unhide HEE; omega)).trans ((unhide HP2).1.wide (by have := unhide HEE; omega) (Nat.le_refl _))), (unhide HH).done (unhide HP1).1 (unhide HP2).1 (unhide HP1).2 (unhide HP2).2⟩
              go_wp2
              all_goals (go_end0; exact ⟨rfl, dk, S1.out, (unhide HEND).1, (unhide HEND).2⟩)
            · -- s < m False, s < mid True, a < s False, e < b False
              have zA : ¬ (s : Int) < (m : Int) := by have := unhide HEE; omega
              have zB1 : (m : Int) < (e : Int) := by have := unhide HEE; omega
              have zB2 : (s : Int) < (mid : Int) := by have := unhide HEE; omega
              have zC : ¬ (a : Int) < (s : Int) := by have := unhide HEE; omega
              have zE : ¬ (mid : Int) < (e : Int) := by have := unhide HEE; omega
              have zF : ¬ (e : Int) < (b : Int) := by have := unhide HEE; omega
              clear HLO HHI
              have HR1 : Hid (∀ p, dk[p]! = dk[rh s m e p]!) := hide (fun p => by rw [show rh s m e p = p from by rw [show s = m by omega]; exact rh_id (by have := unhide HEE; omega)])
              have HZ1 := HS
              have HH : Hid (Halves lt dk a s mid e b) := hide (halves (unhide OO) (unhide HU) (unhide HV) (unhide HX) (by omega) (by omega) (by have := unhide HEE; omega) (by have := unhide HEE; omega) (by have := unhide HEE; omega) (unhide HB1) (unhide HB2) (unhide HR1))
              have HM1 : Hid (Mix a b dk dk) := hide ((Mix.of_rh ((unhide HZ1).trans (unhide HS).symm) (by omega) (by have := unhide HEE; omega) (unhide HR1)).wide (by omega) (by have := unhide HEE; omega))
              have HP1 : Hid (Mix a mid dk dk ∧ Srt lt dk a mid) := hide (part1_triv (unhide HH) (by omega) (by have := unhide HEE; omega) (by omega))
              have HPR := hide (pre2 (unhide HH) (by have := unhide HEE; omega) (unhide HP1).1)
              have HP2 : Hid (Mix mid b dk dk ∧ Srt lt dk mid b) := hide (part2_triv (unhide HH) (by have := unhide HEE; omega) (by have := unhide HEE; omega) (unhide HP1).1 (by omega))
              have HEND : Hid (Mix a b dk dk ∧ Srt lt dk a b) := hide ⟨(unhide HM1).trans (((unhide HP1).1.wide (Nat.le_refl _) (by have := unhide HEE; omega)).trans ((unhide HP2).1.wide (by have := unhide HEE; omega) (Nat.le_refl _))), (unhide HH).done (unhide HP1).1 (unhide HP2).1 (unhide HP1).2 (unhide HP2).2⟩
              go_wp2
              all_goals (go_end0; exact ⟨rfl, dk, S1.out, (unhide HEND).1, (unhide HEND).2⟩)
        · by_cases hC : a < s
          · by_cases hF : e < b
            · -- s < m False, s < mid False, a < s True, e < b True
              have zA : ¬ (s : Int) < (m : Int) := by have := unhide HEE; omega
              have zB1 : ¬ (m : Int) < (e : Int) := by have := unhide HEE; omega
              have zB2 : ¬ (s : Int) < (mid : Int) := by have := unhide HEE; omega
              have zC : (a : Int) < (s : Int) := by have := unhide HEE; omega
              have zE : ¬ (mid : Int) < (e : Int) := by have := unhide HEE; omega
              have zF : (e : Int) < (b : Int) := by have := unhide HEE; omega
              clear HLO HHI
              have HR1 : Hid (∀ p, dk[p]! = dk[rh s m e p]!) := hide (fun p => by rw [show rh s m e p = p from by rw [show e = m by have := unhide HEE; omega]; exact rh_id' (by omega)])
              have HZ1 := HS
              have HH : Hid (Halves lt dk a s mid e b) := hide (halves (unhide OO) (unhide HU) (unhide HV) (unhide HX) (by omega) (by omega) (by have := unhide HEE; omega) (by have := unhide HEE; omega) (by have := unhide HEE; omega) (unhide HB1) (unhide HB2) (unhide HR1))
              have HM1 : Hid (Mix a b dk dk) := hide ((Mix.of_rh ((unhide HZ1).trans (unhide HS).symm) (by omega) (by have := unhide HEE; omega) (unhide HR1)).wide (by omega) (by have := unhide HEE; omega))
              have HP1 : Hid (Mix a mid dk dk ∧ Srt lt dk a mid) := hide (part1_triv (unhide HH) (by omega) (by have := unhide HEE; omega) (by omega))
              have HPR := hide (pre2 (unhide HH) (by have := unhide HEE; omega) (unhide HP1).1)
              have HP2 : Hid (Mix mid b dk dk ∧ Srt lt dk mid b) := hide (part2_triv (unhide HH) (by have := unhide HEE; omega) (by have := unhide HEE; omega) (unhide HP1).1 (by omega))
              have HEND : Hid (Mix a b dk dk ∧ Srt lt dk a b) := hide ⟨(unhide HM1).trans (((unhide HP1).1.wide (Nat.le_refl _) (by have := unhide HEE; omega)).trans ((unhide HP2).1.wide (by have := unhide HEE; omega) (Nat.le_refl _))), (unhide HH).done (unhide HP1).1 (unhide HP2).1 (unhide HP1).2 (unhide HP2).2⟩
              go_wp2
              all_goals (go_end0; exact ⟨rfl, dk, S1.out, (unhide HEND).1, (unhide HEND).2⟩)
            · -- s < m False, s < mid False, a < s True, e < b False
              have zA : ¬ (s : Int) < (m : Int) := by have := unhide HEE; omega
              have zB1 : ¬ (m : Int) < (e : Int) := by have := unhide HEE; omega
              have zB2 : ¬ (s : Int) < (mid : Int) := by have := unhide HEE; omega
              have zC : (a : Int) < (s : Int) := by have := unhide HEE; omega
              have zE : ¬ (mid : Int) < (e : Int) := by have := unhide HEE; omega
              have zF : ¬ (e : Int) < (b : Int) := by have := unhide HEE; omega
              clear HLO HHI
              have HR1 : Hid (∀ p, dk[p]! = dk[rh s m e p]!) := hide (fun p => by rw [show rh s m e p = p from by rw [show e = m by have := unhide HEE; omega]; exact rh_id' (by omega)])
              have HZ1 := HS
              have HH : Hid (Halves lt dk a s mid e b) := hide (halves (unhide OO) (unhide HU) (unhide HV) (unhide HX) (by omega) (by omega) (by have := unhide HEE; omega) (by have := unhide HEE; omega) (by have := unhide HEE; omega) (unhide HB1) (unhide HB2) (unhide HR1))
              have HM1 : Hid (Mix a b dk dk) := hide ((Mix.of_rh ((unhide HZ1).trans (unhide HS).symm) (by omega) (by have := unhide HEE; omega) (unhide HR1)).wide (by omega) (by have := unhide HEE; omega))
              have HP1 : Hid (Mix a mid dk dk ∧ Srt lt dk a mid) := hide (part1_triv (unhide HH) (by omega) (by have := unhide HEE; omega) (by omega))
              have HPR := hide (pre2 (unhide HH) (by have := unhide HEE; omega) (unhide HP1).1)
              have HP2 : Hid (Mix mid b dk dk ∧ Srt lt dk mid b) := hide (part2_triv (unhide HH) (by have := unhide HEE; omega) (by have := unhide HEE; omega) (unhide HP1).1 (by omega))
              have HEND : Hid (Mix a b dk dk ∧ Srt lt dk a b) := hide ⟨(unhide HM1).trans (((unhide HP1).1.wide (Nat.le_refl _) (by have := unhide HEE; omega)).trans ((unhide HP2).1.wide (by have := unhide HEE; omega) (Nat.le_refl _))), (unhide HH).done (unhide HP1).1 (unhide HP2).1 (unhide HP1).2 (unhide HP2).2⟩
              go_wp2
              all_goals (go_end0; exact ⟨rfl, dk, S1.out, (unhide HEND).1, (unhide HEND).2⟩)
          · by_cases hF : e < b
            · -- s < m False, s < mid False, a < s False, e < b True
              have zA : ¬ (s : Int) < (m : Int) := by have := unhide HEE; omega
              have zB1 : ¬ (m : Int) < (e : Int) := by have := unhide HEE; omega
              have zB2 : ¬ (s : Int) < (mid : Int) := by have := unhide HEE; omega
              have zC : ¬ (a : Int) < (s : Int) := by have := unhide HEE; omega
              have zE : ¬ (mid : Int) < (e : Int) := by have := unhide HEE; omega
              have zF : (e : Int) < (b : Int) := by have := unhide HEE; omega
              clear HLO HHI
              have HR1 : Hid (∀ p, dk[p]! = dk[rh s m e p]!) := hide (fun p => by rw [show rh s m e p = p from by rw [show e = m by have := unhide HEE; omega]; exact rh_id' (by omega)])
              have HZ1 := HS
              have HH : Hid (Halves lt dk a s mid e b) := hide (halves (unhide OO) (unhide HU) (unhide HV) (unhide HX) (by omega) (by omega) (by have := unhide HEE; omega) (by have := unhide HEE; omega) (by have := unhide HEE; omega) (unhide HB1) (unhide HB2) (unhide HR1))
              have HM1 : Hid (Mix a b dk dk) := hide ((Mix.of_rh ((unhide HZ1).trans (unhide HS).symm) (by omega) (by have := unhide HEE; omega) (unhide HR1)).wide (by omega) (by have := unhide HEE; omega))
              have HP1 : Hid (Mix a mid dk dk ∧ Srt lt dk a mid) := hide (part1_triv (unhide HH) (by omega) (by have := unhide HEE; omega) (by omega))
              have HPR := hide (pre2 (unhide HH) (by have := unhide HEE; omega) (unhide HP1).1)
              have HP2 : Hid (Mix mid b dk dk ∧ Srt lt dk mid b) := hide (part2_triv (unhide HH) (by have := unhide HEE; omega) (by have := unhide HEE; omega) (unhide HP1).1 (by omega))
              have HEND : Hid (Mix a b dk dk ∧ Srt lt dk a b) := hide ⟨(unhide HM1).trans (((unhide HP1).1.wide (Nat.le_refl _) (by have := unhide HEE; omega)).trans ((unhide HP2).1.wide (by have := unhide HEE; omega) (Nat.le_refl _))), (unhide HH).done (unhide HP1).1 (unhide HP2).1 (unhide HP1).2 (unhide HP2).2⟩
              go_wp2
              all_goals (go_end0; exact ⟨rfl, dk, S1.out, (unhide HEND).1, (unhide HEND).2⟩)
            · -- s < m False, s < mid False, a < s False, e < b False
              have zA : ¬ (s : Int) < (m : Int) := by have := unhide HEE; omega
              have zB1 : ¬ (m : Int) < (e : Int) := by have := unhide HEE; omega
              have zB2 : ¬ (s : Int) < (mid : Int) := by have := unhide HEE; omega
              have zC : ¬ (a : Int) < (s : Int) := by have := unhide HEE; omega
              have zE : ¬ (mid : Int) < (e : Int) := by have := unhide HEE; omega
              have zF : ¬ (e : Int) < (b : Int) := by have := unhide HEE; omega
              clear HLO HHI
              have HR1 : Hid (∀ p, dk[p]! = dk[rh s m e p]!) := hide (fun p => by rw [show rh s m e p = p from by rw [show e = m by have := unhide HEE; omega]; exact rh_id' (by omega)])
              have HZ1 := HS
              have HH : Hid (Halves lt dk a s mid e b) := hide (halves (unhide OO) (unhide HU) (unhide HV) (unhide HX) (by omega) (by omega) (by have := unhide HEE; omega) (by have := unhide HEE; omega) (by have := unhide HEE; omega) (unhide HB1) (unhide HB2) (unhide HR1))
              have HM1 : Hid (Mix a b dk dk) := hide ((Mix.of_rh ((unhide HZ1).trans (unhide HS).symm) (by omega) (by have := unhide HEE; omega) (unhide HR1)).wide (by omega) (by have := unhide HEE; omega))
              have HP1 : Hid (Mix a mid dk dk ∧ Srt lt dk a mid) := hide (part1_triv (unhide HH) (by omega) (by have := unhide HEE; omega) (by omega))
              have HPR := hide (pre2 (unhide HH) (by have := unhide HEE; omega) (unhide HP1).1)
              have HP2 : Hid (Mix mid b dk dk ∧ Srt lt dk mid b) := hide (part2_triv (unhide HH) (by have := unhide HEE; omega) (by have := unhide HEE; omega) (unhide HP1).1 (by omega))
              have HEND : Hid (Mix a b dk dk ∧ Srt lt dk a b) := hide ⟨(unhide HM1).trans (((unhide HP1).1.wide (Nat.le_refl _) (by have := unhide HEE; omega)).trans ((unhide HP2).1.wide (by have := unhide HEE; omega) (Nat.le_refl _))), (unhide HH).done (unhide HP1).1 (unhide HP2).1 (unhide HP1).2 (unhide HP2).2⟩
              go_wp2
              all_goals (go_end0; exact ⟨rfl, dk, S1.out, (unhide HEND).1, (unhide HEND).2⟩)
end Go.Proofs.Ytbghekolfcakeaa

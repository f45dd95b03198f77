/-
  Of a row of versions, those that are not of the peer of the one ahead (CompactFunc).
-/
import Derived.Test.YtbghekolfcakeaaS10
namespace Go.Proofs.Ytbghekolfcakeaa
open Go.Shelf Go.RowKit Go.Lib Go.Sort

theorem setMany_put (k : Nat) (hk : ∀ x : TP, (encT x).length = k) (d : Array TP) (i : Nat) (hi : i < d.size) (y : TP) : setMany (flatK encT k d) (i * k) (encT y) = flatK encT k (d.setIfInBounds i y) := by
  refine ext_get! (by simp) fun t ht => ?_
  have ht' : t < d.size * k := by simpa using ht
  have k0 : 0 < k := by rcases Nat.eq_zero_or_pos k with h | h; · subst h; simp at ht'
                        · exact h
  rw [get_setMany _ _ _ t (by simpa using ht'), get_flatK _ _ _ t ht', get_flatK _ _ _ t (by simpa using ht'), hk]
  by_cases h : i * k ≤ t ∧ t < i * k + k
  · have e := (blk_iff k i t k0).1 h
    rw [if_pos h, e, getElem!_set_same _ _ _ hi, show t - i * k = t % k by rw [Nat.mod_eq_sub_div_mul, e]]
  · have e : t / k ≠ i := fun e => h ((blk_iff k i t k0).2 e)
    have hd : t / k < d.size := Nat.div_lt_of_lt_mul (by rwa [Nat.mul_comm])
    rw [if_neg h, getElem!_pos (d.setIfInBounds i y) (t / k) (by simpa using hd), Array.getElem_setIfInBounds (by simpa using hd), if_neg (fun e' => e e'.symm), getElem!_pos d (t / k) hd]
theorem putK_set (k : Nat) (hk : ∀ x : TP, (encT x).length = k) (w : World) (g : Nat) (d : Array TP) (i : Nat) (hi : i < d.size) (y : TP) : (putRowK encT k w g 0 d).setCells g (0 + i * k) (encT y) = putRowK encT k w g 0 (d.setIfInBounds i y) := by
  have h1 := setCells_putRow w g 0 (encT y) (i * k) (flatK encT k d) (by rw [hk, size_flatK]; exact rowK_bnd d k i hi)
  rw [setMany_put k hk d i hi y] at h1
  exact h1
theorem SWput {k : Nat} {w0 : World} {g : Nat} {d0 dk : Array TP} {W : World} (h : SWK encT k w0 g 0 dk W) (R : RowK encT k w0 g 0 d0) (i : Nat) (hi : i < dk.size) (y : TP) : SWK encT k w0 g 0 (dk.setIfInBounds i y) (W.setCells g (0 + i * k) (encT y)) := by
  obtain ⟨n, os, rfl⟩ := h
  refine ⟨n, os, ?_⟩
  have h1 := setCells_grow os g (encT y) (0 + i * k) (putRowK encT k (Sort.ahead w0 n) g 0 dk) (by rw [size_putRowK]; exact R.hblk)
  rw [putK_set k R.hk (Sort.ahead w0 n) g dk i hi y] at h1
  exact h1
theorem SWstore {k : Nat} {w0 : World} {g : Nat} {d0 dk : Array TP} {W : World} (h : SWK encT k w0 g 0 dk W) (R : RowK encT k w0 g 0 d0) (hs : dk.size = d0.size) (P : Program) (i : Nat) (hi : i < dk.size) (y : TP) :
    Sem.run P (storeCells ⟨g, 0 + i * k, none⟩ (encT y) 0) W = .ok () (W.setCells g (0 + i * k) (encT y)) :=
  stores_of_holds P (h.holds R.hblk R.hH hs) (i * k) _ (by rw [R.hk, size_flatK]; exact rowK_bnd dk k i hi) (R.h1 _)
theorem set_get (d : Array TP) (i p : Nat) (y : TP) (hi : i < d.size) : (d.setIfInBounds i y)[p]! = if p = i then y else d[p]! := by
  by_cases e : p = i
  · rw [if_pos e, e, getElem!_set_same _ _ _ hi]
  · rw [if_neg e]
    by_cases hp : p < d.size
    · rw [getElem!_pos (d.setIfInBounds i y) p (by simpa using hp), Array.getElem_setIfInBounds (by simpa using hp), if_neg (fun e' => e e'.symm), getElem!_pos d p hp]
    · rw [getElem!_neg (d.setIfInBounds i y) p (by simpa using hp), getElem!_neg d p hp]

def peerT (x : TP) : Int := x.2.1.dot.1
/-- What is left of the first versions of a row. -/
def cpt (dk : Array TP) : Nat → List TP
  | 0 => []
  | i + 1 => if i = 0 ∨ peerT dk[i]! ≠ peerT dk[i - 1]! then cpt dk i ++ [dk[i]!] else cpt dk i
theorem cpt_keep {dk : Array TP} {i : Nat} (h : (peerT dk[i]! == peerT dk[i - 1]!) = false) : cpt dk (i + 1) = cpt dk i ++ [dk[i]!] := by
  rw [cpt, if_pos (.inr (by simpa using h))]
theorem cpt_skip {dk : Array TP} {i : Nat} (h0 : 0 < i) (h : (peerT dk[i]! == peerT dk[i - 1]!) = true) : cpt dk (i + 1) = cpt dk i := by
  rw [cpt, if_neg]
  rintro (h1 | h1)
  · omega
  · exact h1 (by simpa using h)
/-- All of the first q are left. -/
structure AllOf (dk : Array TP) (q : Nat) : Prop where
  len : (cpt dk q).length = q
  at_ : ∀ (i : Nat) (x : TP), (cpt dk q)[i]? = some x → dk[i]! = x
theorem AllOf.one (dk : Array TP) : AllOf dk 1 := ⟨rfl, fun i x h => by
  have e : cpt dk 1 = [dk[0]!] := rfl
  rw [e] at h
  cases i with
  | zero => simpa using h
  | succ i => simp at h⟩
theorem AllOf.zero (dk : Array TP) : AllOf dk 0 := ⟨rfl, fun i x h => by simp [cpt] at h⟩
theorem AllOf.keep {dk : Array TP} {q : Nat} (h : AllOf dk q) (hk : (peerT dk[q]! == peerT dk[q - 1]!) = false) : AllOf dk (q + 1) := by
  rw [show (AllOf dk (q + 1)) = (AllOf dk (q + 1)) from rfl]
  refine ⟨by rw [cpt_keep hk, List.length_append, h.len]; rfl, fun i x hx => ?_⟩
  rw [cpt_keep hk] at hx
  by_cases hi : i < (cpt dk q).length
  · rw [List.getElem?_append_left hi] at hx; exact h.at_ i x hx
  · rw [List.getElem?_append_right (by omega)] at hx
    have hi2 : i = q := by
      have := (List.getElem?_eq_some_iff.1 hx).1
      simp at this
      have := h.len
      omega
    subst hi2
    rw [h.len] at hx
    simpa using hx
/-- Those that are left of the first r stand at the head of a row, the others from the last one on as they stood. -/
structure CInv (dk : Array TP) (r kw : Nat) (dj : Array TP) : Prop where
  size : dj.size = dk.size
  len : (cpt dk r).length = kw
  lt : kw + 1 ≤ r
  at_ : ∀ (i : Nat) (x : TP), (cpt dk r)[i]? = some x → dj[i]! = x
  high : ∀ p, r ≤ p + 1 → dj[p]! = dk[p]!
theorem CInv.start {dk : Array TP} {st : Nat} (h : AllOf dk st) (h0 : 0 < st) (hk : (peerT dk[st]! == peerT dk[st - 1]!) = true) : CInv dk (st + 1) st dk :=
  ⟨rfl, by rw [cpt_skip h0 hk]; exact h.len, Nat.le_refl _, fun i x hx => by rw [cpt_skip h0 hk] at hx; exact h.at_ i x hx, fun _ _ => rfl⟩
theorem CInv.skip {dk dj : Array TP} {r kw : Nat} (h : CInv dk r kw dj) (h0 : 0 < r) (hk : (peerT dk[r]! == peerT dk[r - 1]!) = true) : CInv dk (r + 1) kw dj :=
  ⟨h.size, by rw [cpt_skip h0 hk]; exact h.len, by have := h.lt; omega, fun i x hx => by rw [cpt_skip h0 hk] at hx; exact h.at_ i x hx, fun p hp => h.high p (by omega)⟩
theorem CInv.keep {dk dj : Array TP} {r kw : Nat} (h : CInv dk r kw dj) (hr : r < dk.size) (hk : (peerT dk[r]! == peerT dk[r - 1]!) = false) : CInv dk (r + 1) (kw + 1) (dj.setIfInBounds kw dk[r]!) := by
  have hlt := h.lt
  have hsz := h.size
  refine ⟨by simpa using h.size, by rw [cpt_keep hk, List.length_append, h.len]; rfl, by omega, fun i x hx => ?_, fun p hp => ?_⟩
  · rw [set_get _ _ _ _ (by omega)]
    rw [cpt_keep hk] at hx
    by_cases hi : i < (cpt dk r).length
    · rw [if_neg (by rw [h.len] at hi; omega)]
      rw [List.getElem?_append_left hi] at hx; exact h.at_ i x hx
    · rw [List.getElem?_append_right (by omega)] at hx
      have hi2 : i = kw := by
        have h1 := (List.getElem?_eq_some_iff.1 hx).1
        simp at h1
        have := h.len
        omega
      rw [if_pos hi2]
      rw [hi2, h.len] at hx
      simpa using hx
  · rw [set_get _ _ _ _ (by omega), if_neg (by omega)]
    exact h.high p (by omega)
def Compacted (k : Nat) (w0 : World) (g sz cap : Nat) (dk : Array TP) (e : Ending) (W' : World) : Prop :=
  e = .returned (.slice (some ⟨g, 0, none⟩) (cpt dk sz).length cap) ∧ ∃ (dj : Array TP) (W1 : World) (zs : List Value), SWK encT k w0 g 0 dj W1 ∧ dj.size = sz ∧ (∀ (i : Nat) (x : TP), (cpt dk sz)[i]? = some x → dj[i]! = x) ∧ (W' = W1 ∨ W' = W1.setCells g ((cpt dk sz).length * k) zs)

end Go.Proofs.Ytbghekolfcakeaa

namespace Go.Proofs.Ytbghekolfcakeaa
open Go.Shelf Go.RowKit Go.Lib Go.Sort

set_option maxRecDepth 100000 in
set_option maxHeartbeats 2000000 in
theorem compact_gen {P : Program} {k : Nat} (L : Lay P k) (F59 : P.funcs[59]? = some Try.f59) (gc : Nat) (cb : Array Value) (eg : ∀ args w, (callFunc gc args).run P w = .ok (.enter gc args) w)
    (w0 : World) (g : Nat) (d0 : Array TP) (R : RowK encT k w0 g 0 d0) (sz cap : Nat) (h0 : d0.size = sz) (hsz : sz ≤ 100000) (hcap : sz ≤ cap)
    (ke : ∀ (x y : TP) W, Calls P gc (#[.agg (encT x).toArray, .agg (encT y).toArray] ++ cb) W fun e w' => e = .returned (.bool (peerT x == peerT y)) ∧ ∃ n os, w' = grow (W.drewN n) os)
    (kc : ∀ (kw : Nat) (dj : Array TP) (W : World), kw < sz → dj.size = sz → SWK encT k w0 g 0 dj W → ∃ zs, ∀ ty, (Builtin.clear_ #[22] ty #[.slice (some ⟨g, kw * k, none⟩) (sz - kw) (cap - kw)]).run P W = .ok (.tuple #[]) (W.setCells g (kw * k) zs))
    (dk : Array TP) (hs : dk.size = sz) (W : World) (S : SWK encT k w0 g 0 dk W) :
    Calls P 59 #[.slice (some ⟨g, 0, none⟩) sz cap, .func (.func gc) #[] cb] W (Compacted k w0 g sz cap dk) := by
  have mixed := L.mixed; have t3 := L.t3; have a3 := L.a3; have z3 := L.z3; have t4 := L.t4; have a4 := L.a4; have z4 := L.z4; have t22 := L.t22; have a22 := L.a22; have z22 := L.z22; have aE := L.aE; have zE := L.zE
  have u22 := run_underlying L.t22
  have SS : Aside (SWK encT k w0 g 0 dk W) := S
  have RR : Aside (RowK encT k w0 g 0 d0) := R
  have KE : Aside _ := ke
  have KC : Aside _ := kc
  have HS := hide hs
  have H0 := hide h0
  clear S R ke kc hs h0
  by_cases h2 : sz < 2
  · have h2z : (sz : Int) < 2 := by omega
    have HA : Hid (AllOf dk sz) := hide (by rcases (show sz = 0 ∨ sz = 1 by omega) with rfl | rfl; · exact AllOf.zero dk
                                            · exact AllOf.one dk)
    go_enter F59, Try.ntmps59
    go_wp2
    go_ret
    exact ⟨by rw [(unhide HA).len]; rfl, dk, W, [], SS.out, unhide HS, (unhide HA).at_, .inl rfl⟩
  · have h2z : ¬ (sz : Int) < 2 := by omega
    go_enter F59, Try.ntmps59
    go_wp2
    go_loopg [5] sz (fun gh vk wr => ∃ q : Nat, vk = .int .i64 q ∧ 1 ≤ q ∧ q ≤ sz ∧ sz - q ≤ gh ∧ Aside (SWK encT k w0 g 0 dk wr) ∧ Hid (AllOf dk q))
    case atStart => exact ⟨1, rfl, Nat.le_refl _, by omega, by omega, SS, hide (AllOf.one dk)⟩
    case round =>
      obtain ⟨q, rfl, hq1, hq, hgh, S1, HA⟩ := hrel
      by_cases hlt : q < sz
      · have hltz : (q : Int) < (sz : Int) := by omega
        obtain ⟨qp, rfl⟩ : ∃ x, q = x + 1 := ⟨q - 1, by omega⟩
        have hltz' : (qp : Int) + 1 < (sz : Int) := by omega
        have hltz2 : (qp : Int) < (sz : Int) := by omega
        have p0 : (0 : Int) ≤ (qp : Int) + 1 := by omega
        have e0 : ((qp : Int) + 1).toNat = qp + 1 := by omega
        have hwp : IntKind.i64.wrap (qp : Int) = (qp : Int) := by rw [IntKind.wrap_i64]; omega
        have l1 := fun n' os' => zadd (S1.out.ld RR.out ((unhide HS).trans (unhide H0).symm) P (qp + 1) (by have := unhide HS; omega) n' os')
        have l2 := fun n' os' => zadd (S1.out.ld RR.out ((unhide HS).trans (unhide H0).symm) P qp (by have := unhide HS; omega) n' os')
        have hcg := fun n' os' => KE.out dk[qp + 1]! dk[qp]! (grow (wr.drewN n') os')
        cases hE : (peerT dk[qp + 1]! == peerT dk[qp]!) with
        | true =>
          rw [hE] at hcg
          have HI : Hid (CInv dk (qp + 1 + 1) (qp + 1) dk) := hide (CInv.start (unhide HA) (by omega) hE)
          clear hE
          go_wp2_with fail
          go_quiet_grown (first | (go_at_fn gc; refine Calls.grown_of (hcg _ _)))
          have S2 : Aside (SWK encT k w0 g 0 dk (grow (wr.drewN nq) osq)) := S1.out.grown nq osq
          clear l1 l2 hcg S1
          have hcs : ¬ cap = qp + 1 := by omega
          have hcs1 : ¬ cap - (qp + 1) = 0 := by omega
          have hcs2 : (qp : Int) + 1 ≤ (sz : Int) := by omega
          have hcs3 : (qp : Int) + 1 ≤ (cap : Int) := by omega
          have hcs4 : qp + 1 ≤ cap := by omega
          generalize grow (wr.drewN nq) osq = wq at S2 ⊢
          go_wp2
          obtain ⟨n2, hn2⟩ : ∃ x, x = sz - (qp + 1) := ⟨_, rfl⟩
          have HN2 : Hid (qp + 1 + n2 = sz ∧ 1 ≤ n2) := hide ⟨by omega, by omega⟩
          have hn2z : (n2 : Int) ≤ 100000 := by omega
          rw [← hn2]
          generalize cap - (qp + 1) = c2
          clear hn2 hcs hcs1 hcs2 hcs3 hcs4 hltz' hltz2 hlt hltz
          go_loopg [5, 7] sz (fun gh v5 v7 wr => ∃ (kw k2 : Nat) (dj : Array TP), v5 = .int .i64 kw ∧ v7 = .int .i64 k2 ∧ 1 ≤ k2 ∧ k2 ≤ n2 ∧ n2 - k2 ≤ gh ∧ Aside (SWK encT k w0 g 0 dj wr) ∧ Hid (CInv dk (qp + 1 + k2) kw dj))
          case atStart => exact ⟨qp + 1, 1, dk, rfl, rfl, Nat.le_refl _, (unhide HN2).2, by have := unhide HN2; omega, S2, HI⟩
          case round =>
            obtain ⟨kw, k2, dj, rfl, rfl, hk1, hk2, hgh2, S3, HJ⟩ := hrel
            have HZJ : Hid (dj.size = sz) := hide ((unhide HJ).size.trans (unhide HS))
            have HKW : Hid (kw + 1 ≤ qp + 1 + k2) := hide (unhide HJ).lt
            by_cases hlt2 : k2 < n2
            · have hlt2z : (k2 : Int) < (n2 : Int) := by omega
              obtain ⟨kp, rfl⟩ : ∃ x, k2 = x + 1 := ⟨k2 - 1, by omega⟩
              have f1 : (kp : Int) + 1 < (n2 : Int) := by omega
              have f2 : (kp : Int) < (n2 : Int) := by omega
              have f3 : (0 : Int) ≤ (kp : Int) + 1 := by omega
              have f4 : ((kp : Int) + 1).toNat = kp + 1 := by omega
              have f5 : IntKind.i64.wrap (kp : Int) = (kp : Int) := by rw [IntKind.wrap_i64]; omega
              have ex : dj[qp + 1 + (kp + 1)]! = dk[qp + 1 + (kp + 1)]! := (unhide HJ).high _ (by omega)
              have ey : dj[qp + 1 + kp]! = dk[qp + 1 + kp]! := (unhide HJ).high _ (by omega)
              have l1 : ∀ n' os', Sem.run P (loadCellsFrom ⟨g, (qp + 1) * k + (kp + 1) * k, none⟩ 0 k #[]) (grow (wr.drewN n') os') = .ok (encT dk[qp + 1 + (kp + 1)]!).toArray (grow (wr.drewN n') os') := fun n' os' => by
                have h := zadd (S3.out.ld RR.out ((unhide HZJ).trans (unhide H0).symm) P (qp + 1 + (kp + 1)) (by have := unhide HZJ; have := unhide HN2; omega) n' os')
                rw [ex, Nat.add_mul] at h
                exact h
              have l2 : ∀ n' os', Sem.run P (loadCellsFrom ⟨g, (qp + 1) * k + kp * k, none⟩ 0 k #[]) (grow (wr.drewN n') os') = .ok (encT dk[qp + 1 + kp]!).toArray (grow (wr.drewN n') os') := fun n' os' => by
                have h := zadd (S3.out.ld RR.out ((unhide HZJ).trans (unhide H0).symm) P (qp + 1 + kp) (by have := unhide HZJ; have := unhide HN2; omega) n' os')
                rw [ey, Nat.add_mul] at h
                exact h
              have hcg := fun n' os' => KE.out dk[qp + 1 + (kp + 1)]! dk[qp + 1 + kp]! (grow (wr.drewN n') os')
              have EX := hide ex
              clear ex ey
              cases hE : (peerT dk[qp + 1 + (kp + 1)]! == peerT dk[qp + 1 + kp]!) with
              | true =>
                rw [hE] at hcg
                have HJ2 : Hid (CInv dk (qp + 1 + (kp + 1) + 1) kw dj) := hide ((unhide HJ).skip (by omega) hE)
                have hnot : (!true) = false := rfl
                clear hE
                go_wp2_with fail
                go_quiet_grown (first | (go_at_fn gc; refine Calls.grown_of (hcg _ _)))
                have S4 : Aside (SWK encT k w0 g 0 dj (grow (wr.drewN nq) osq)) := S3.out.grown nq osq
                clear l1 l2 hcg S3
                go_wp2
                go_roundg (n2 - (kp + 1 + 1))
                case measure => omega
                case rel => exact ⟨kw, kp + 1 + 1, dj, rfl, by go_num, by omega, by omega, Nat.le_refl _, S4, HJ2⟩
              | false =>
                rw [hE] at hcg
                have HJ2 : Hid (CInv dk (qp + 1 + (kp + 1) + 1) (kw + 1) (dj.setIfInBounds kw dk[qp + 1 + (kp + 1)]!)) := hide ((unhide HJ).keep (by have := unhide HS; have := unhide HN2; omega) hE)
                have hnot : (!false) = true := rfl
                clear hE
                go_wp2_with fail
                go_quiet_grown (first | (go_at_fn gc; refine Calls.grown_of (hcg _ _)))
                have S4 : Aside (SWK encT k w0 g 0 dj (grow (wr.drewN nq) osq)) := S3.out.grown nq osq
                clear l1 l2 hcg S3
                generalize grow (wr.drewN nq) osq = wq2 at S4 ⊢
                have hkwl : kw < dj.size := by have := unhide HZJ; have := unhide HKW; have := unhide HN2; omega
                have g1 : (kw : Int) < (sz : Int) := by have := unhide HZJ; omega
                have m1 : Sem.run P (loadCellsFrom ⟨g, (qp + 1) * k + (kp + 1) * k, none⟩ 0 k #[]) wq2 = .ok (encT dk[qp + 1 + (kp + 1)]!).toArray wq2 := by
                  have h := zadd (S4.out.load RR.out ((unhide HZJ).trans (unhide H0).symm) P (qp + 1 + (kp + 1)) (by have := unhide HZJ; have := unhide HN2; omega))
                  rw [unhide EX, Nat.add_mul] at h
                  exact h
                have s1 := SWstore S4.out RR.out ((unhide HZJ).trans (unhide H0).symm) P kw hkwl dk[qp + 1 + (kp + 1)]!
                have S5 : Aside (SWK encT k w0 g 0 (dj.setIfInBounds kw dk[qp + 1 + (kp + 1)]!) (wq2.setCells g (0 + kw * k) (encT dk[qp + 1 + (kp + 1)]!))) := SWput S4.out RR.out kw hkwl _
                have n1 : (encT dk[qp + 1 + (kp + 1)]!).length = k := RR.out.hk _
                rw [Nat.zero_add] at s1 S5
                generalize encT dk[qp + 1 + (kp + 1)]! = cI at m1 s1 n1 S5
                clear hkwl S4
                have hkb : (kw : Int) + 1 ≤ 100000 := by omega
                go_wp2_with fail
                generalize wq2.setCells g (kw * k) cI = w3 at S5 ⊢
                go_roundg (n2 - (kp + 1 + 1))
                case measure => omega
                case rel => exact ⟨kw + 1, kp + 1 + 1, _, by go_num, by go_num, by omega, by omega, Nat.le_refl _, S5, HJ2⟩
            · have hlt2z : ¬ (k2 : Int) < (n2 : Int) := by omega
              obtain rfl : k2 = n2 := by omega
              rw [(unhide HN2).1] at HJ HKW
              obtain ⟨zs, hcl⟩ := KC.out kw dj wr (by have := unhide HKW; omega) (unhide HZJ) S3.out
              have g0 : kw < sz := by have := unhide HKW; omega
              have g1 : (kw : Int) < (sz : Int) := by omega
              have g2 : ¬ cap = kw := by omega
              have g3 : ¬ cap - kw = 0 := by omega
              have g4 : (kw : Int) ≤ (cap : Int) := by omega
              have g5 : (kw : Int) ≤ (sz : Int) := by omega
              go_wp2
              go_ret
              exact ⟨by rw [(unhide HJ).len]; rfl, dj, wr, zs, S3.out, unhide HZJ, (unhide HJ).at_, .inr (by rw [(unhide HJ).len])⟩
        | false =>
          rw [hE] at hcg
          have HA2 : Hid (AllOf dk (qp + 1 + 1)) := hide ((unhide HA).keep hE)
          clear hE
          go_wp2_with fail
          go_quiet_grown (first | (go_at_fn gc; refine Calls.grown_of (hcg _ _)))
          have S2 : Aside (SWK encT k w0 g 0 dk (grow (wr.drewN nq) osq)) := S1.out.grown nq osq
          clear l1 l2 hcg S1
          go_wp2
          go_roundg (sz - (qp + 1 + 1))
          case measure => omega
          case rel => exact ⟨qp + 1 + 1, by go_num, by omega, by omega, Nat.le_refl _, S2, HA2⟩
      · have hltz : ¬ (q : Int) < (sz : Int) := by omega
        obtain rfl : q = sz := by omega
        go_wp2
        go_ret
        exact ⟨by rw [(unhide HA).len]; rfl, dk, wr, [], S1.out, unhide HS, (unhide HA).at_, .inl rfl⟩
end Go.Proofs.Ytbghekolfcakeaa

/-
  The walk of the law that says what pieces are taken of a text.
-/
import Derived.Test.YtcgjcpnpkjahdaaBack
namespace Go.Proofs.Ytcgjcpnpkjahdaa
open Go.RowKit

theorem rText_len (st : St) (most : Int) : (rText st most).2.1.length ≤ st.1.length := by
  have h := rNumber_len st most
  unfold rText
  split
  · exact h
  · split
    · exact Nat.le_refl _
    · rw [List.length_drop]; omega
theorem rFlag_len (st : St) : (rFlag st).2.1.length ≤ st.1.length := by
  obtain ⟨b, e⟩ := st
  unfold rFlag
  split
  · exact Nat.le_refl _
  · cases b with
    | nil => exact Nat.le_refl _
    | cons x r =>
      dsimp only
      split
      · exact Nat.le_refl _
      · simp
theorem rDigest_len (st : St) : (rDigest st).2.1.length ≤ st.1.length := by
  unfold rDigest
  split
  · exact Nat.le_refl _
  · split
    · exact Nat.le_refl _
    · rw [List.length_drop]; omega
theorem rDigest_32 (st : St) : (rDigest st).1.length = 32 := by
  unfold rDigest
  split
  · rfl
  · split
    · rfl
    · rename_i h; rw [List.length_take]; omega
theorem fail_len (st : St) (e : Int) : (fail st e).1.length = st.1.length := by
  unfold fail
  split <;> rfl

set_option maxRecDepth 100000 in
set_option maxHeartbeats 8000000 in
theorem reads_any {Wr Rd} (P : Prg Wr Rd) (s : ByteArray) (hs : s.size ≤ 9223372036854775807) (ad : Option Addr) (cap : Nat) (l : List Pc) (hl : l.length ≤ 9223372036854775807) (hall : ∀ x ∈ l, Pok x) (w : World) (h : PL w ad l) :
    Calls Try.prog 4 #[.string s, .slice ad l.length cap] w fun e w' => e = .returned (.bool true) ∧ Below w.heap.size w w' := by
  have PP := hide P
  have HKR := hide P.rk
  have HA := hide hall
  have HP := hide h
  have KG := hide (great_any ad cap l hl w h)
  clear P h hall
  go_enter Try.func4, Try.ntmps4
  go_wp2_with fail
  refine (unhide KG).mono ?_
  rintro e w0 ⟨G, rfl, hw, hG⟩
  have hw' := hw.symm
  subst hw'
  cases G with
  | true =>
    go_wp2_with fail
    refine (awake_any (unhide PP) _).mono ?_
    rintro e w1 ⟨rfl, hb⟩
    have HB := hide hb
    clear hb
    go_wp2_with fail
    go_ret
    exact ⟨rfl, unhide HB⟩
  | false =>
    have h60 := hG rfl
    clear hG
    by_cases h5 : 5000 < s.size
    · have hz : (5000 : Int) < s.size := by omega
      go_wp2_with fail
      refine (awake_any (unhide PP) _).mono ?_
      rintro e w1 ⟨rfl, hb⟩
      have HB := hide hb
      clear hb
      go_wp2_with fail
      go_ret
      exact ⟨rfl, unhide HB⟩
    · have hz : ¬ (5000 : Int) < s.size := by omega
      have KN := hide ((unhide PP).new s w (by omega))
      have HS5 : Hid (s.data.toList.length ≤ 5000) := hide (by rw [size_data]; omega)
      have HSO := hide (str_of s)
      generalize s.data.toList = b0 at KN HS5 HSO
      clear h5
      go_wp2_with fail
      refine (unhide KN).mono ?_
      rintro e w1 ⟨p, own, rfl, hr, ho, hb⟩
      have HD0 : Hid (Duo Rd w p w1.heap.size 48 (b0, 0) (b0, 0) own (w1.alloc (.cells #[.string s, .int .i64 0] 48)) ∧ b0.length ≤ 5000) := hide (by
        have h1 := (unhide HKR).lt hr
        have hb2 := below_alloc' (w := w1) (.cells #[.string s, .int .i64 0] 48)
        refine ⟨⟨(unhide PP).rafter hr hb2, fun g hg => Nat.lt_of_lt_of_le (h1 g hg) hb2.size, ho, ?_, hb.size, fun hg => Nat.lt_irrefl _ (h1 _ hg), below_grow hb (Nat.le_refl _) hb2⟩, unhide HS5⟩
        have h3 := VRow.new w1 48 [.string s, .int .i64 0]
        rw [← unhide HSO] at h3
        rw [← unhide HSO]
        exact h3)
      clear hr ho hb HS5 HSO KN
      go_wp2_with fail
      generalize w1.heap.size = q at HD0 ⊢
      go_loopw [7] (fun i wr => ∃ (k : Nat) (own : Nat → Prop) (st : St), k ≤ l.length ∧ i = .int .i64 k ∧ Hid (Duo Rd w p q 48 st st own wr ∧ st.1.length ≤ 5000)) (fun i _ => l.length - (intOf i).toNat)
      case atStart => exact ⟨0, own, (b0, 0), Nat.zero_le _, rfl, HD0⟩
      case round =>
        clear HD0
        obtain ⟨k, own, st, hk, rfl, HH⟩ := hrel
        by_cases hlt : k < l.length
        · obtain ⟨x, hx⟩ : ∃ x, l[k]? = some x := ⟨_, List.getElem?_eq_getElem hlt⟩
          have hok := unhide HA x (List.mem_of_getElem? hx)
          obtain ⟨g, o, rfl, hg, hc⟩ := (unhide HP) (by omega)
          have HOK := hide hok
          have SC : Hid (∀ W, Below w.heap.size w W → W.rangeAt g (o + k * 35) (pcL x)) := hide (fun W hb => range_after (hc k x hx) hg hb)
          have c0 := (unhide SC wr (unhide HH).1.below) 0 _ rfl
          rw [Nat.add_zero] at c0
          have S1 : Hid (∀ W, Below w.heap.size w W → W.cell? ⟨g, o + k * 35 + 1, none⟩ = some (.int .i64 x.n)) := hide (fun W hb => (unhide SC W hb) 1 _ rfl)
          have HFL := hide (Nat.le_trans (unhide HH).2 (show 5000 ≤ 50000000 by decide))
          have HFL2 := hide (Nat.le_trans (unhide HH).2 (show 5000 ≤ 100000000 by decide))
          clear hok hg hc hx
          rcases Classical.em (x.kind = 0) with h0 | h0
          · rw [h0] at c0
            obtain ⟨v, st2, hR⟩ : ∃ v st2, rNumber st x.n = (v, st2) := ⟨_, _, rfl⟩
            have HL2 : Hid (st2.1.length ≤ 5000) := hide (by have h1 := rNumber_len st x.n; rw [hR] at h1; exact Nat.le_trans h1 (unhide HH).2)
            have KC : Hid (∀ W, Duo Rd w p q 48 st st own W → Calls Try.prog 18 #[.pointer (some p), .int .i64 x.n] W fun e w' => e = .returned (.int .i64 v) ∧ ∃ own', Duo Rd w p q 48 st2 st own' w') := hide (fun W hd => by have h1 := (unhide PP).rNumber hd.wr (unhide HFL) x.n (unhide HOK).2.1; rw [hR] at h1; exact h1.mono fun e w' hm => hd.turn (unhide HKR) hm)
            have KD : Hid (∀ W own, Duo Rd w p q 48 st2 st own W → Calls Try.prog 19 #[.pointer (some ⟨q, 0, none⟩), .int .i64 x.n] W fun e w' => e = .returned (.int .i64 v) ∧ Duo Rd w p q 48 st2 st2 own w') := hide (fun W own hd => by have h1 := refNumberR_any q st x.n (unhide HFL2) W hd.doc; rw [hR] at h1; exact h1.mono fun e w' hm => hd.docs (unhide HKR) hm)
            clear hR
            go_wp2_with fail
            go_region_held3 (fun w' => w'.cell? ⟨g, o + k * 35 + 1, none⟩ = some (.int .i64 x.n))
              (first | exact unhide S1 _ (below_drew (unhide HH).1.below) | exact unhide S1 _ (Duo.below (by assumption)))
              (first
                | (go_at_call 18; refine (unhide KC _ ((unhide HH).1.after (unhide HKR) (below_drew (Below.refl _ _)))).mono ?_; rintro e w2 ⟨rfl, own2, hd2⟩)
                | (go_at_call 19; refine (unhide KD _ own2 (by assumption)).mono ?_; rintro e w3 ⟨rfl, hd3⟩))
            have HX := hide (And.intro hd3 (unhide HL2))
            clear hd3 KC KD HL2 HH hd2
            obtain ⟨hd9, hl9⟩ := unhide HX
            have q0 := hd9.doc.c0
            have q1 := hd9.doc.c1
            have HDE := hide (fun W (hb : Below w3.heap.size w3 W) => hd9.after (unhide HKR) hb)
            have HQ : Hid (∀ W, Below w3.heap.size w3 W → W.cell? ⟨q, 0, none⟩ = some (.string (str st2.1)) ∧ W.cell? ⟨q, 1, none⟩ = some (.int .i64 st2.2) ∧ Below w3.heap.size w3 W) := hide (fun W hb => ⟨(unhide HDE W hb).doc.c0, (unhide HDE W hb).doc.c1, hb⟩)
            have KE := hide (fun W hb => (unhide PP).rErr (unhide HDE W hb).wr)
            have KL := hide (fun W hb => (unhide PP).rLeft (unhide HDE W hb).wr)
            have KF := hide (fun W hb => (unhide PP).rDone (unhide HDE W hb).wr)
            have KQ := hide (fun W hb => refDoneR_any q st2 W (unhide HDE W hb).doc)
            have hsz := str_size st2.1
            have hn1 : ((st2.1.length : Int) != ((str st2.1).size : Int)) = false := by rw [hsz]; simp
            obtain ⟨e2, he2⟩ : ∃ e2, st2.2 = e2 := ⟨_, rfl⟩
            obtain ⟨d2, hd2⟩ : ∃ d2, rDone st2 = d2 := ⟨_, rfl⟩
            rw [he2] at HQ KE q1
            rw [hd2] at KF KQ
            have hn2 : (e2 != e2) = false := by simp
            have hn3 : (d2 != d2) = false := by simp
            have HX9 := hide hl9
            clear hd9 hl9 hd2 he2 HX hsz
            go_wp2_with fail
            go_region_held3 (fun w' => w'.cell? ⟨q, 0, none⟩ = some (.string (str st2.1)) ∧ w'.cell? ⟨q, 1, none⟩ = some (.int .i64 e2) ∧ Below w3.heap.size w3 w')
              (first | exact unhide HQ _ (below_drew (Below.refl _ _)) | exact unhide HQ _ (by assumption))
              (first
                | (go_at_call 28; refine (unhide KE _ (And.right (And.right (by assumption)))).mono ?_; rintro e v1 ⟨rfl, hb⟩; have hb1 := below_grow (And.right (And.right (by assumption))) (Nat.le_refl _) hb; clear hb)
                | (go_at_call 29; refine (unhide KL _ (And.right (And.right (by assumption)))).mono ?_; rintro e v2 ⟨rfl, hb⟩; have hb2 := below_grow (And.right (And.right (by assumption))) (Nat.le_refl _) hb; clear hb)
                | (go_at_call 30; refine (unhide KF _ (And.right (And.right (by assumption)))).mono ?_; rintro e v3 ⟨rfl, hb⟩; have hb3 := below_grow (And.right (And.right (by assumption))) (Nat.le_refl _) hb; clear hb)
                | (go_at_call 31; refine (unhide KQ _ (And.right (And.right (by assumption)))).mono ?_; rintro e v4 ⟨rfl, hv⟩; subst hv))
            have H9 : Hid (Duo Rd w p q 48 st2 st2 own2 v4 ∧ st2.1.length ≤ 5000) := hide ⟨unhide HDE _ hb3, unhide HX9⟩
            clear hb3 hb2 hb1 HDE HX9 KE KL KF KQ HQ
            go_wp2_with fail
            go_roundw
            case rel => exact ⟨k + 1, own2, st2, by omega, by go_num, H9⟩
            case measure => simp [intOf]; omega
          · rcases Classical.em (x.kind = 1) with h1 | h1
            · rw [h1] at c0
              obtain ⟨v, st2, hR⟩ : ∃ v st2, rText st x.n = (v, st2) := ⟨_, _, rfl⟩
              have HL2 : Hid (st2.1.length ≤ 5000) := hide (by have h1 := rText_len st x.n; rw [hR] at h1; exact Nat.le_trans h1 (unhide HH).2)
              have KC : Hid (∀ W, Duo Rd w p q 48 st st own W → Calls Try.prog 20 #[.pointer (some p), .int .i64 x.n] W fun e w' => e = .returned (.string (str v)) ∧ ∃ own', Duo Rd w p q 48 st2 st own' w') := hide (fun W hd => by have h1 := (unhide PP).rText hd.wr (unhide HFL) x.n (unhide HOK).2.1; rw [hR] at h1; exact h1.mono fun e w' hm => hd.turn (unhide HKR) hm)
              have KD : Hid (∀ W own, Duo Rd w p q 48 st2 st own W → Calls Try.prog 21 #[.pointer (some ⟨q, 0, none⟩), .int .i64 x.n] W fun e w' => e = .returned (.string (str v)) ∧ Duo Rd w p q 48 st2 st2 own w') := hide (fun W own hd => by have h1 := refTextR_any q st x.n (unhide HFL2) W hd.doc; rw [hR] at h1; exact h1.mono fun e w' hm => hd.docs (unhide HKR) hm)
              clear hR
              go_wp2_with fail
              go_region_held3 (fun w' => w'.cell? ⟨g, o + k * 35 + 1, none⟩ = some (.int .i64 x.n))
                (first | exact unhide S1 _ (below_drew (unhide HH).1.below) | exact unhide S1 _ (Duo.below (by assumption)))
                (first
                  | (go_at_call 20; refine (unhide KC _ ((unhide HH).1.after (unhide HKR) (below_drew (Below.refl _ _)))).mono ?_; rintro e w2 ⟨rfl, own2, hd2⟩)
                  | (go_at_call 21; refine (unhide KD _ own2 (by assumption)).mono ?_; rintro e w3 ⟨rfl, hd3⟩))
              have HX := hide (And.intro hd3 (unhide HL2))
              clear hd3 KC KD HL2 HH hd2
              obtain ⟨hd9, hl9⟩ := unhide HX
              have q0 := hd9.doc.c0
              have q1 := hd9.doc.c1
              have HDE := hide (fun W (hb : Below w3.heap.size w3 W) => hd9.after (unhide HKR) hb)
              have HQ : Hid (∀ W, Below w3.heap.size w3 W → W.cell? ⟨q, 0, none⟩ = some (.string (str st2.1)) ∧ W.cell? ⟨q, 1, none⟩ = some (.int .i64 st2.2) ∧ Below w3.heap.size w3 W) := hide (fun W hb => ⟨(unhide HDE W hb).doc.c0, (unhide HDE W hb).doc.c1, hb⟩)
              have KE := hide (fun W hb => (unhide PP).rErr (unhide HDE W hb).wr)
              have KL := hide (fun W hb => (unhide PP).rLeft (unhide HDE W hb).wr)
              have KF := hide (fun W hb => (unhide PP).rDone (unhide HDE W hb).wr)
              have KQ := hide (fun W hb => refDoneR_any q st2 W (unhide HDE W hb).doc)
              have hsz := str_size st2.1
              have hn1 : ((st2.1.length : Int) != ((str st2.1).size : Int)) = false := by rw [hsz]; simp
              obtain ⟨e2, he2⟩ : ∃ e2, st2.2 = e2 := ⟨_, rfl⟩
              obtain ⟨d2, hd2⟩ : ∃ d2, rDone st2 = d2 := ⟨_, rfl⟩
              rw [he2] at HQ KE q1
              rw [hd2] at KF KQ
              have hn2 : (e2 != e2) = false := by simp
              have hn3 : (d2 != d2) = false := by simp
              have HX9 := hide hl9
              clear hd9 hl9 hd2 he2 HX hsz
              go_wp2_with fail
              go_region_held3 (fun w' => w'.cell? ⟨q, 0, none⟩ = some (.string (str st2.1)) ∧ w'.cell? ⟨q, 1, none⟩ = some (.int .i64 e2) ∧ Below w3.heap.size w3 w')
                (first | exact unhide HQ _ (below_drew (Below.refl _ _)) | exact unhide HQ _ (by assumption))
                (first
                  | (go_at_call 28; refine (unhide KE _ (And.right (And.right (by assumption)))).mono ?_; rintro e v1 ⟨rfl, hb⟩; have hb1 := below_grow (And.right (And.right (by assumption))) (Nat.le_refl _) hb; clear hb)
                  | (go_at_call 29; refine (unhide KL _ (And.right (And.right (by assumption)))).mono ?_; rintro e v2 ⟨rfl, hb⟩; have hb2 := below_grow (And.right (And.right (by assumption))) (Nat.le_refl _) hb; clear hb)
                  | (go_at_call 30; refine (unhide KF _ (And.right (And.right (by assumption)))).mono ?_; rintro e v3 ⟨rfl, hb⟩; have hb3 := below_grow (And.right (And.right (by assumption))) (Nat.le_refl _) hb; clear hb)
                  | (go_at_call 31; refine (unhide KQ _ (And.right (And.right (by assumption)))).mono ?_; rintro e v4 ⟨rfl, hv⟩; subst hv))
              have H9 : Hid (Duo Rd w p q 48 st2 st2 own2 v4 ∧ st2.1.length ≤ 5000) := hide ⟨unhide HDE _ hb3, unhide HX9⟩
              clear hb3 hb2 hb1 HDE HX9 KE KL KF KQ HQ
              go_wp2_with fail
              go_roundw
              case rel => exact ⟨k + 1, own2, st2, by omega, by go_num, H9⟩
              case measure => simp [intOf]; omega
            · rcases Classical.em (x.kind = 2) with h2 | h2
              · rw [h2] at c0
                obtain ⟨v, st2, hR⟩ : ∃ v st2, rFlag st = (v, st2) := ⟨_, _, rfl⟩
                have HL2 : Hid (st2.1.length ≤ 5000) := hide (by have h1 := rFlag_len st; rw [hR] at h1; exact Nat.le_trans h1 (unhide HH).2)
                have KC : Hid (∀ W, Duo Rd w p q 48 st st own W → Calls Try.prog 22 #[.pointer (some p)] W fun e w' => e = .returned (.bool v) ∧ ∃ own', Duo Rd w p q 48 st2 st own' w') := hide (fun W hd => by have h1 := (unhide PP).rFlag hd.wr (unhide HFL); rw [hR] at h1; exact h1.mono fun e w' hm => hd.turn (unhide HKR) hm)
                have KD : Hid (∀ W own, Duo Rd w p q 48 st2 st own W → Calls Try.prog 23 #[.pointer (some ⟨q, 0, none⟩)] W fun e w' => e = .returned (.bool v) ∧ Duo Rd w p q 48 st2 st2 own w') := hide (fun W own hd => by have h1 := refFlagR_any q st (unhide HFL2) W hd.doc; rw [hR] at h1; exact h1.mono fun e w' hm => hd.docs (unhide HKR) hm)
                clear hR
                go_wp2_with fail
                refine (unhide KC _ (unhide HH).1).mono ?_
                rintro e w2 ⟨rfl, own2, hd2⟩
                have HD2 := hide hd2
                clear hd2
                go_wp2_with fail
                refine (unhide KD _ own2 (unhide HD2)).mono ?_
                rintro e w3 ⟨rfl, hd3⟩
                have HX := hide (And.intro hd3 (unhide HL2))
                clear hd3 KC KD HL2 HH HD2
                obtain ⟨hd9, hl9⟩ := unhide HX
                have q0 := hd9.doc.c0
                have q1 := hd9.doc.c1
                have HDE := hide (fun W (hb : Below w3.heap.size w3 W) => hd9.after (unhide HKR) hb)
                have HQ : Hid (∀ W, Below w3.heap.size w3 W → W.cell? ⟨q, 0, none⟩ = some (.string (str st2.1)) ∧ W.cell? ⟨q, 1, none⟩ = some (.int .i64 st2.2) ∧ Below w3.heap.size w3 W) := hide (fun W hb => ⟨(unhide HDE W hb).doc.c0, (unhide HDE W hb).doc.c1, hb⟩)
                have KE := hide (fun W hb => (unhide PP).rErr (unhide HDE W hb).wr)
                have KL := hide (fun W hb => (unhide PP).rLeft (unhide HDE W hb).wr)
                have KF := hide (fun W hb => (unhide PP).rDone (unhide HDE W hb).wr)
                have KQ := hide (fun W hb => refDoneR_any q st2 W (unhide HDE W hb).doc)
                have hsz := str_size st2.1
                have hn1 : ((st2.1.length : Int) != ((str st2.1).size : Int)) = false := by rw [hsz]; simp
                obtain ⟨e2, he2⟩ : ∃ e2, st2.2 = e2 := ⟨_, rfl⟩
                obtain ⟨d2, hd2⟩ : ∃ d2, rDone st2 = d2 := ⟨_, rfl⟩
                rw [he2] at HQ KE q1
                rw [hd2] at KF KQ
                have hn2 : (e2 != e2) = false := by simp
                have hn3 : (d2 != d2) = false := by simp
                have HX9 := hide hl9
                clear hd9 hl9 hd2 he2 HX hsz
                go_wp2_with fail
                go_region_held3 (fun w' => w'.cell? ⟨q, 0, none⟩ = some (.string (str st2.1)) ∧ w'.cell? ⟨q, 1, none⟩ = some (.int .i64 e2) ∧ Below w3.heap.size w3 w')
                  (first | exact unhide HQ _ (below_drew (Below.refl _ _)) | exact unhide HQ _ (by assumption))
                  (first
                    | (go_at_call 28; refine (unhide KE _ (And.right (And.right (by assumption)))).mono ?_; rintro e v1 ⟨rfl, hb⟩; have hb1 := below_grow (And.right (And.right (by assumption))) (Nat.le_refl _) hb; clear hb)
                    | (go_at_call 29; refine (unhide KL _ (And.right (And.right (by assumption)))).mono ?_; rintro e v2 ⟨rfl, hb⟩; have hb2 := below_grow (And.right (And.right (by assumption))) (Nat.le_refl _) hb; clear hb)
                    | (go_at_call 30; refine (unhide KF _ (And.right (And.right (by assumption)))).mono ?_; rintro e v3 ⟨rfl, hb⟩; have hb3 := below_grow (And.right (And.right (by assumption))) (Nat.le_refl _) hb; clear hb)
                    | (go_at_call 31; refine (unhide KQ _ (And.right (And.right (by assumption)))).mono ?_; rintro e v4 ⟨rfl, hv⟩; subst hv))
                have H9 : Hid (Duo Rd w p q 48 st2 st2 own2 v4 ∧ st2.1.length ≤ 5000) := hide ⟨unhide HDE _ hb3, unhide HX9⟩
                clear hb3 hb2 hb1 HDE HX9 KE KL KF KQ HQ
                go_wp2_with fail
                go_roundw
                case rel => exact ⟨k + 1, own2, st2, by omega, by go_num, H9⟩
                case measure => simp [intOf]; omega
              · rcases Classical.em (x.kind = 3) with h3 | h3
                · rw [h3] at c0
                  obtain ⟨v, st2, hR⟩ : ∃ v st2, rDigest st = (v, st2) := ⟨_, _, rfl⟩
                  have hv32 : v.length = 32 := by have h1 := rDigest_32 st; rw [hR] at h1; exact h1
                  have hsm := same33 v hv32
                  clear hv32
                  have HL2 : Hid (st2.1.length ≤ 5000) := hide (by have h1 := rDigest_len st; rw [hR] at h1; exact Nat.le_trans h1 (unhide HH).2)
                  have KC : Hid (∀ W, Duo Rd w p q 48 st st own W → Calls Try.prog 24 #[.pointer (some p)] W fun e w' => e = .returned (.agg (v.map byteVal).toArray) ∧ ∃ own', Duo Rd w p q 48 st2 st own' w') := hide (fun W hd => by have h1 := (unhide PP).rDigest hd.wr (unhide HFL); rw [hR] at h1; exact h1.mono fun e w' hm => hd.turn (unhide HKR) hm)
                  have KD : Hid (∀ W own, Duo Rd w p q 48 st2 st own W → Calls Try.prog 25 #[.pointer (some ⟨q, 0, none⟩)] W fun e w' => e = .returned (.agg (v.map byteVal).toArray) ∧ Duo Rd w p q 48 st2 st2 own w') := hide (fun W own hd => by have h1 := refDigestR_any q st (unhide HFL2) W hd.doc; rw [hR] at h1; exact h1.mono fun e w' hm => hd.docs (unhide HKR) hm)
                  clear hR
                  generalize (v.map byteVal).toArray = V at KC KD hsm
                  go_wp2_with fail
                  refine (unhide KC _ (unhide HH).1).mono ?_
                  rintro e w2 ⟨rfl, own2, hd2⟩
                  have HD2 := hide hd2
                  clear hd2
                  go_wp2_with fail
                  refine (unhide KD _ own2 (unhide HD2)).mono ?_
                  rintro e w3 ⟨rfl, hd3⟩
                  have HX := hide (And.intro hd3 (unhide HL2))
                  clear hd3 KC KD HL2 HH HD2
                  obtain ⟨hd9, hl9⟩ := unhide HX
                  have q0 := hd9.doc.c0
                  have q1 := hd9.doc.c1
                  have HDE := hide (fun W (hb : Below w3.heap.size w3 W) => hd9.after (unhide HKR) hb)
                  have HQ : Hid (∀ W, Below w3.heap.size w3 W → W.cell? ⟨q, 0, none⟩ = some (.string (str st2.1)) ∧ W.cell? ⟨q, 1, none⟩ = some (.int .i64 st2.2) ∧ Below w3.heap.size w3 W) := hide (fun W hb => ⟨(unhide HDE W hb).doc.c0, (unhide HDE W hb).doc.c1, hb⟩)
                  have KE := hide (fun W hb => (unhide PP).rErr (unhide HDE W hb).wr)
                  have KL := hide (fun W hb => (unhide PP).rLeft (unhide HDE W hb).wr)
                  have KF := hide (fun W hb => (unhide PP).rDone (unhide HDE W hb).wr)
                  have KQ := hide (fun W hb => refDoneR_any q st2 W (unhide HDE W hb).doc)
                  have hsz := str_size st2.1
                  have hn1 : ((st2.1.length : Int) != ((str st2.1).size : Int)) = false := by rw [hsz]; simp
                  obtain ⟨e2, he2⟩ : ∃ e2, st2.2 = e2 := ⟨_, rfl⟩
                  obtain ⟨d2, hd2⟩ : ∃ d2, rDone st2 = d2 := ⟨_, rfl⟩
                  rw [he2] at HQ KE q1
                  rw [hd2] at KF KQ
                  have hn2 : (e2 != e2) = false := by simp
                  have hn3 : (d2 != d2) = false := by simp
                  have HX9 := hide hl9
                  clear hd9 hl9 hd2 he2 HX hsz
                  go_wp2_with fail
                  go_region_held3 (fun w' => w'.cell? ⟨q, 0, none⟩ = some (.string (str st2.1)) ∧ w'.cell? ⟨q, 1, none⟩ = some (.int .i64 e2) ∧ Below w3.heap.size w3 w')
                    (first | exact unhide HQ _ (below_drew (Below.refl _ _)) | exact unhide HQ _ (by assumption))
                    (first
                      | (go_at_call 28; refine (unhide KE _ (And.right (And.right (by assumption)))).mono ?_; rintro e v1 ⟨rfl, hb⟩; have hb1 := below_grow (And.right (And.right (by assumption))) (Nat.le_refl _) hb; clear hb)
                      | (go_at_call 29; refine (unhide KL _ (And.right (And.right (by assumption)))).mono ?_; rintro e v2 ⟨rfl, hb⟩; have hb2 := below_grow (And.right (And.right (by assumption))) (Nat.le_refl _) hb; clear hb)
                      | (go_at_call 30; refine (unhide KF _ (And.right (And.right (by assumption)))).mono ?_; rintro e v3 ⟨rfl, hb⟩; have hb3 := below_grow (And.right (And.right (by assumption))) (Nat.le_refl _) hb; clear hb)
                      | (go_at_call 31; refine (unhide KQ _ (And.right (And.right (by assumption)))).mono ?_; rintro e v4 ⟨rfl, hv⟩; subst hv))
                  have H9 : Hid (Duo Rd w p q 48 st2 st2 own2 v4 ∧ st2.1.length ≤ 5000) := hide ⟨unhide HDE _ hb3, unhide HX9⟩
                  clear hb3 hb2 hb1 HDE HX9 KE KL KF KQ HQ
                  go_wp2_with fail
                  go_roundw
                  case rel => exact ⟨k + 1, own2, st2, by omega, by go_num, H9⟩
                  case measure => simp [intOf]; omega
                · rcases Classical.em (x.kind = 4) with h4 | h4
                  · rw [h4] at c0
                    obtain ⟨st2, hR⟩ : ∃ st2, fail st (low4 x.n) = st2 := ⟨_, rfl⟩
                    have HL2 : Hid (st2.1.length ≤ 5000) := hide (by have h1 := Nat.le_of_eq (fail_len st (low4 x.n)); rw [hR] at h1; exact Nat.le_trans h1 (unhide HH).2)
                    have KC : Hid (∀ W, Duo Rd w p q 48 st st own W → Calls Try.prog 26 #[.pointer (some p), .int .i64 (low4 x.n)] W fun e w' => e = .returned (.tuple #[]) ∧ ∃ own', Duo Rd w p q 48 st2 st own' w') := hide (fun W hd => by have h1 := (unhide PP).rFail hd.wr (low4 x.n) (low4_i64 x.n); rw [hR] at h1; exact h1.mono fun e w' hm => hd.turn (unhide HKR) hm)
                    have KD : Hid (∀ W own, Duo Rd w p q 48 st2 st own W → Calls Try.prog 27 #[.pointer (some ⟨q, 0, none⟩), .int .i64 (low4 x.n)] W fun e w' => e = .returned (.tuple #[]) ∧ Duo Rd w p q 48 st2 st2 own w') := hide (fun W own hd => by have h1 := refFailR_any q st (low4 x.n) W hd.doc; rw [hR] at h1; exact h1.mono fun e w' hm => hd.docs (unhide HKR) hm)
                    clear hR
                    have hand := and15 x.n
                    have c1 := unhide S1 wr (unhide HH).1.below
                    go_wp2_with fail
                    refine (unhide KC _ (unhide HH).1).mono ?_
                    rintro e w2 ⟨rfl, own2, hd2⟩
                    have HD2 := hide hd2
                    have c2 := unhide S1 w2 hd2.below
                    clear hd2
                    go_wp2_with fail
                    refine (unhide KD _ own2 (unhide HD2)).mono ?_
                    rintro e w3 ⟨rfl, hd3⟩
                    have HX := hide (And.intro hd3 (unhide HL2))
                    clear hd3 KC KD HL2 HH HD2
                    obtain ⟨hd9, hl9⟩ := unhide HX
                    have q0 := hd9.doc.c0
                    have q1 := hd9.doc.c1
                    have HDE := hide (fun W (hb : Below w3.heap.size w3 W) => hd9.after (unhide HKR) hb)
                    have HQ : Hid (∀ W, Below w3.heap.size w3 W → W.cell? ⟨q, 0, none⟩ = some (.string (str st2.1)) ∧ W.cell? ⟨q, 1, none⟩ = some (.int .i64 st2.2) ∧ Below w3.heap.size w3 W) := hide (fun W hb => ⟨(unhide HDE W hb).doc.c0, (unhide HDE W hb).doc.c1, hb⟩)
                    have KE := hide (fun W hb => (unhide PP).rErr (unhide HDE W hb).wr)
                    have KL := hide (fun W hb => (unhide PP).rLeft (unhide HDE W hb).wr)
                    have KF := hide (fun W hb => (unhide PP).rDone (unhide HDE W hb).wr)
                    have KQ := hide (fun W hb => refDoneR_any q st2 W (unhide HDE W hb).doc)
                    have hsz := str_size st2.1
                    have hn1 : ((st2.1.length : Int) != ((str st2.1).size : Int)) = false := by rw [hsz]; simp
                    obtain ⟨e2, he2⟩ : ∃ e2, st2.2 = e2 := ⟨_, rfl⟩
                    obtain ⟨d2, hd2⟩ : ∃ d2, rDone st2 = d2 := ⟨_, rfl⟩
                    rw [he2] at HQ KE q1
                    rw [hd2] at KF KQ
                    have hn2 : (e2 != e2) = false := by simp
                    have hn3 : (d2 != d2) = false := by simp
                    have HX9 := hide hl9
                    clear hd9 hl9 hd2 he2 HX hsz
                    go_wp2_with fail
                    go_region_held3 (fun w' => w'.cell? ⟨q, 0, none⟩ = some (.string (str st2.1)) ∧ w'.cell? ⟨q, 1, none⟩ = some (.int .i64 e2) ∧ Below w3.heap.size w3 w')
                      (first | exact unhide HQ _ (below_drew (Below.refl _ _)) | exact unhide HQ _ (by assumption))
                      (first
                        | (go_at_call 28; refine (unhide KE _ (And.right (And.right (by assumption)))).mono ?_; rintro e v1 ⟨rfl, hb⟩; have hb1 := below_grow (And.right (And.right (by assumption))) (Nat.le_refl _) hb; clear hb)
                        | (go_at_call 29; refine (unhide KL _ (And.right (And.right (by assumption)))).mono ?_; rintro e v2 ⟨rfl, hb⟩; have hb2 := below_grow (And.right (And.right (by assumption))) (Nat.le_refl _) hb; clear hb)
                        | (go_at_call 30; refine (unhide KF _ (And.right (And.right (by assumption)))).mono ?_; rintro e v3 ⟨rfl, hb⟩; have hb3 := below_grow (And.right (And.right (by assumption))) (Nat.le_refl _) hb; clear hb)
                        | (go_at_call 31; refine (unhide KQ _ (And.right (And.right (by assumption)))).mono ?_; rintro e v4 ⟨rfl, hv⟩; subst hv))
                    have H9 : Hid (Duo Rd w p q 48 st2 st2 own2 v4 ∧ st2.1.length ≤ 5000) := hide ⟨unhide HDE _ hb3, unhide HX9⟩
                    clear hb3 hb2 hb1 HDE HX9 KE KL KF KQ HQ
                    go_wp2_with fail
                    go_roundw
                    case rel => exact ⟨k + 1, own2, st2, by omega, by go_num, H9⟩
                    case measure => simp [intOf]; omega
                  · obtain ⟨st2, hst2⟩ : ∃ s, st = s := ⟨_, rfl⟩
                    rw [hst2] at HH
                    have HX := HH
                    clear HH HFL HFL2 hst2
                    obtain ⟨hd9, hl9⟩ := unhide HX
                    have q0 := hd9.doc.c0
                    have q1 := hd9.doc.c1
                    have HDE := hide (fun W (hb : Below wr.heap.size wr W) => hd9.after (unhide HKR) hb)
                    have HQ : Hid (∀ W, Below wr.heap.size wr W → W.cell? ⟨q, 0, none⟩ = some (.string (str st2.1)) ∧ W.cell? ⟨q, 1, none⟩ = some (.int .i64 st2.2) ∧ Below wr.heap.size wr W) := hide (fun W hb => ⟨(unhide HDE W hb).doc.c0, (unhide HDE W hb).doc.c1, hb⟩)
                    have KE := hide (fun W hb => (unhide PP).rErr (unhide HDE W hb).wr)
                    have KL := hide (fun W hb => (unhide PP).rLeft (unhide HDE W hb).wr)
                    have KF := hide (fun W hb => (unhide PP).rDone (unhide HDE W hb).wr)
                    have KQ := hide (fun W hb => refDoneR_any q st2 W (unhide HDE W hb).doc)
                    have hsz := str_size st2.1
                    have hn1 : ((st2.1.length : Int) != ((str st2.1).size : Int)) = false := by rw [hsz]; simp
                    obtain ⟨e2, he2⟩ : ∃ e2, st2.2 = e2 := ⟨_, rfl⟩
                    obtain ⟨d2, hd2⟩ : ∃ d2, rDone st2 = d2 := ⟨_, rfl⟩
                    rw [he2] at HQ KE q1
                    rw [hd2] at KF KQ
                    have hn2 : (e2 != e2) = false := by simp
                    have hn3 : (d2 != d2) = false := by simp
                    have HX9 := hide hl9
                    clear hd9 hl9 hd2 he2 HX hsz
                    go_wp2_with fail
                    go_region_held3 (fun w' => w'.cell? ⟨q, 0, none⟩ = some (.string (str st2.1)) ∧ w'.cell? ⟨q, 1, none⟩ = some (.int .i64 e2) ∧ Below wr.heap.size wr w')
                      (first | exact unhide HQ _ (below_drew (Below.refl _ _)) | exact unhide HQ _ (by assumption))
                      (first
                        | (go_at_call 28; refine (unhide KE _ (And.right (And.right (by assumption)))).mono ?_; rintro e v1 ⟨rfl, hb⟩; have hb1 := below_grow (And.right (And.right (by assumption))) (Nat.le_refl _) hb; clear hb)
                        | (go_at_call 29; refine (unhide KL _ (And.right (And.right (by assumption)))).mono ?_; rintro e v2 ⟨rfl, hb⟩; have hb2 := below_grow (And.right (And.right (by assumption))) (Nat.le_refl _) hb; clear hb)
                        | (go_at_call 30; refine (unhide KF _ (And.right (And.right (by assumption)))).mono ?_; rintro e v3 ⟨rfl, hb⟩; have hb3 := below_grow (And.right (And.right (by assumption))) (Nat.le_refl _) hb; clear hb)
                        | (go_at_call 31; refine (unhide KQ _ (And.right (And.right (by assumption)))).mono ?_; rintro e v4 ⟨rfl, hv⟩; subst hv))
                    have H9 : Hid (Duo Rd w p q 48 st2 st2 own v4 ∧ st2.1.length ≤ 5000) := hide ⟨unhide HDE _ hb3, unhide HX9⟩
                    clear hb3 hb2 hb1 HDE HX9 KE KL KF KQ HQ
                    go_wp2_with fail
                    go_roundw
                    case rel => exact ⟨k + 1, own, st2, by omega, by go_num, H9⟩
                    case measure => simp [intOf]; omega
        · obtain rfl : k = l.length := by omega
          go_wp2_with fail
          refine (awake_any (unhide PP) _).mono ?_
          rintro e w5 ⟨rfl, hb⟩
          have HB := hide (below_grow (unhide HH).1.below (Nat.le_refl _) hb)
          clear hb
          go_wp2_with fail
          go_ret
          exact ⟨rfl, unhide HB⟩
end Go.Proofs.Ytcgjcpnpkjahdaa

/-
  Plain facts: what is left of two leaves, sorted and of each peer the first, is what they come to together. No program, no world.
-/
import Derived.Test.YtbghekolfcakeaaS11
namespace Go.Proofs.Ytbghekolfcakeaa
open Go.Sort

theorem vup_pair : ∀ {l : List Vc.V} {q : Int}, Vc.VUp q l → ∀ {i j : Nat} {u v : Vc.V}, i < j → l[i]? = some u → l[j]? = some v → u.dot.1 < v.dot.1
  | [], _, _, i, j, u, v, _, h, _ => by simp at h
  | x :: l, q, h, 0, j + 1, u, v, _, hu, hv => by
    simp at hu
    subst hu
    exact (h.2.2.mem (List.mem_of_getElem? (by simpa using hv))).2
  | x :: l, q, h, i + 1, j + 1, u, v, hij, hu, hv => vup_pair h.2.2 (i := i) (j := j) (by omega) (by simpa using hu) (by simpa using hv)
theorem vup_inj {l : List Vc.V} {q : Int} (h : Vc.VUp q l) {i j : Nat} {u v : Vc.V} (hu : l[i]? = some u) (hv : l[j]? = some v) (e : u.dot.1 = v.dot.1) : i = j := by
  rcases Nat.lt_trichotomy i j with hij | hij | hij
  · have := vup_pair h hij hu hv; omega
  · exact hij
  · have := vup_pair h hij hv hu; omega
theorem vup_filter : ∀ {l : List Vc.V} {q : Int} (p : Vc.V → Bool), Vc.VUp q l → Vc.VUp q (l.filter p)
  | [], _, _, _ => trivial
  | x :: l, q, p, h => by
    rw [List.filter_cons]
    split
    · exact ⟨h.1, h.2.1, vup_filter p h.2.2⟩
    · exact (vup_filter p h.2.2).weak (by have := h.2.1; omega)
theorem cpt_mem {d : Array TP} : ∀ {n : Nat} {x : TP}, x ∈ cpt d n → ∃ i, i < n ∧ d[i]! = x ∧ (i = 0 ∨ peerT d[i]! ≠ peerT d[i - 1]!)
  | 0, x, h => by simp [cpt] at h
  | n + 1, x, h => by
    rw [cpt] at h
    split at h
    · rename_i hk
      rcases List.mem_append.1 h with h | h
      · obtain ⟨i, h1, h2, h3⟩ := cpt_mem h
        exact ⟨i, by omega, h2, h3⟩
      · rw [List.mem_singleton.1 h]
        exact ⟨n, by omega, rfl, hk⟩
    · obtain ⟨i, h1, h2, h3⟩ := cpt_mem h
      exact ⟨i, by omega, h2, h3⟩
theorem mem_cpt {d : Array TP} : ∀ {n i : Nat}, i < n → (i = 0 ∨ peerT d[i]! ≠ peerT d[i - 1]!) → d[i]! ∈ cpt d n
  | 0, i, h, _ => by omega
  | n + 1, i, h, hk => by
    rw [cpt]
    by_cases e : i = n
    · subst e
      rw [if_pos hk]
      simp
    · have := mem_cpt (n := n) (by omega) hk
      split
      · exact List.mem_append_left _ this
      · exact this
theorem ltT_peer {x y : TP} (h : ltT x y) : peerT x ≤ peerT y := by unfold ltT at h; unfold peerT; omega
theorem ltT_irr {x : TP} (h : ltT x x) : False := by unfold ltT at h; omega
theorem ltT_asymm {x y : TP} (h : ltT x y) (h' : ltT y x) : False := ltT_irr (ordT.trans h h')
theorem cpt_up {d : Array TP} {n : Nat} (hs : Srt ltT d 0 n) (hok : ∀ i, i < n → Vc.OkV d[i]!.2.1) : ∀ m, m ≤ n → Vc.VUp (-1) ((cpt d m).map fun x => x.2.1)
  | 0, _ => trivial
  | m + 1, hm => by
    have ih := cpt_up hs hok m (by omega)
    rw [cpt]
    split
    · rename_i hk
      rw [List.map_append]
      have ho := hok m (by omega)
      have hd := ho.dot
      unfold Vc.Ok at hd
      refine ih.snoc ho (show (-1 : Int) < d[m]!.2.1.dot.1 by omega) fun u hu => ?_
      obtain ⟨x, hx, rfl⟩ := List.mem_map.1 hu
      obtain ⟨i, h1, rfl, _⟩ := cpt_mem hx
      have hne : peerT d[m]! ≠ peerT d[m - 1]! := hk.resolve_left (by omega)
      have h2 := ltT_peer (hs (m - 1) m (by omega) (by omega) (by omega))
      have h3 : peerT d[i]! ≤ peerT d[m - 1]! := by
        by_cases e : i = m - 1
        · rw [e]; exact Int.le_refl _
        · exact ltT_peer (hs i (m - 1) (by omega) (by omega) (by omega))
      show peerT d[i]! < peerT d[m]!
      omega
    · exact ih

/-- How the row of what is left lies to its list. -/
structure Laid (left : List Vc.V) (d0 : Array TP) : Prop where
  size : d0.size = left.length
  tag : ∀ p, p < left.length → d0[p]!.1 = p
  at_ : ∀ p, p < left.length → left[p]? = some d0[p]!.2.1
theorem sync_of {a b : List Vc.V} (ha : Vc.LeafOk a) (hb : Vc.LeafOk b) (G : Vc.V → Bool) (hG : ∀ x, G x = true ↔ Vc.Free a b x) {d0 d1 : Array TP} {n : Nat} (hn : n = ((a ++ b).filter G).length) (hl : Laid ((a ++ b).filter G) d0) (hm : Mix 0 n d0 d1) (hs : Srt ltT d1 0 n) :
    Vc.IsSync a b ((cpt d1 n).map fun x => x.2.1) := by
  subst hn
  obtain ⟨fa, hfa⟩ : ∃ l, a.filter G = l := ⟨_, rfl⟩
  obtain ⟨fb, hfb⟩ : ∃ l, b.filter G = l := ⟨_, rfl⟩
  rw [List.filter_append, hfa, hfb] at hl hm hs ⊢
  have ua : Vc.VUp (-1) fa := by rw [← hfa]; exact vup_filter G ha.up
  have ub : Vc.VUp (-1) fb := by rw [← hfb]; exact vup_filter G hb.up
  have ma : ∀ x, x ∈ fa ↔ x ∈ a ∧ Vc.Free a b x := fun x => by rw [← hfa, List.mem_filter, hG]
  have mb : ∀ x, x ∈ fb ↔ x ∈ b ∧ Vc.Free a b x := fun x => by rw [← hfb, List.mem_filter, hG]
  -- each place of the sorted row, as it stood
  have back : ∀ i, i < (fa ++ fb).length → ∃ t, t < (fa ++ fb).length ∧ d1[i]! = d0[t]! ∧ d1[i]!.1 = t ∧ (fa ++ fb)[t]? = some d1[i]!.2.1 := fun i hi => by
    obtain ⟨t, _, h2, e⟩ := hm.into i (Nat.zero_le _) hi
    exact ⟨t, h2, e, by rw [e]; exact hl.tag t h2, by rw [e]; exact hl.at_ t h2⟩
  have forth : ∀ t y, (fa ++ fb)[t]? = some y → ∃ i, i < (fa ++ fb).length ∧ d1[i]!.1 = t ∧ d1[i]!.2.1 = y := fun t y ht => by
    have h2 := (List.getElem?_eq_some_iff.1 ht).1
    obtain ⟨i, _, h3, e⟩ := hm.onto t (Nat.zero_le _) h2
    refine ⟨i, h3, by rw [e]; exact hl.tag t h2, ?_⟩
    rw [e]
    have := hl.at_ t h2
    rw [ht] at this
    injection this with this
    exact this.symm
  have inA : ∀ t y, t < fa.length → (fa ++ fb)[t]? = some y → y ∈ a ∧ Vc.Free a b y ∧ fa[t]? = some y := fun t y ht h => by
    rw [List.getElem?_append_left ht] at h
    have := (ma y).1 (List.mem_of_getElem? h)
    exact ⟨this.1, this.2, h⟩
  have inB : ∀ t y, ¬ t < fa.length → (fa ++ fb)[t]? = some y → y ∈ b ∧ Vc.Free a b y ∧ fb[t - fa.length]? = some y := fun t y ht h => by
    rw [List.getElem?_append_right (by omega)] at h
    have := (mb y).1 (List.mem_of_getElem? h)
    exact ⟨this.1, this.2, h⟩
  have exA : ∀ y, y ∈ a → Vc.Free a b y → ∃ t, t < fa.length ∧ (fa ++ fb)[t]? = some y := fun y h1 h2 => by
    obtain ⟨t, ht⟩ := List.getElem?_of_mem ((ma y).2 ⟨h1, h2⟩)
    have hl2 := (List.getElem?_eq_some_iff.1 ht).1
    exact ⟨t, hl2, by rw [List.getElem?_append_left hl2]; exact ht⟩
  have exB : ∀ y, y ∈ b → Vc.Free a b y → ∃ t, ¬ t < fa.length ∧ (fa ++ fb)[t]? = some y := fun y h1 h2 => by
    obtain ⟨t, ht⟩ := List.getElem?_of_mem ((mb y).2 ⟨h1, h2⟩)
    exact ⟨fa.length + t, by omega, by rw [List.getElem?_append_right (by omega), Nat.add_sub_cancel_left]; exact ht⟩
  have hok : ∀ i, i < (fa ++ fb).length → Vc.OkV d1[i]!.2.1 := fun i hi => by
    obtain ⟨t, _, _, _, h⟩ := back i hi
    by_cases ht : t < fa.length
    · exact (ha.up.mem (inA t _ ht h).1).1
    · exact (hb.up.mem (inB t _ ht h).1).1
  refine ⟨cpt_up hs hok _ (Nat.le_refl _), fun x => ⟨fun hx => ?_, fun hx => ?_⟩⟩
  · obtain ⟨z, hz, rfl⟩ := List.mem_map.1 hx
    obtain ⟨i, hi, rfl, hkeep⟩ := cpt_mem hz
    obtain ⟨t, ht, _, htag, hat⟩ := back i hi
    -- nothing of its peer is ahead of it
    have none : ∀ j, j < (fa ++ fb).length → peerT d1[j]! = peerT d1[i]! → ¬ ltT d1[j]! d1[i]! := fun j hj hp hlt => by
      by_cases hji : j < i
      · have hne : peerT d1[i]! ≠ peerT d1[i - 1]! := hkeep.resolve_left (by omega)
        have h2 := ltT_peer (hs (i - 1) i (by omega) (by omega) hi)
        have h3 : peerT d1[j]! ≤ peerT d1[i - 1]! := by
          by_cases e : j = i - 1
          · rw [e]; exact Int.le_refl _
          · exact ltT_peer (hs j (i - 1) (by omega) (by omega) (by omega))
        omega
      · by_cases e : j = i
        · rw [e] at hlt; exact ltT_irr hlt
        · exact ltT_asymm hlt (hs i j (by omega) (by omega) hj)
    by_cases htA : t < fa.length
    · obtain ⟨h1, h2, _⟩ := inA t _ htA hat
      refine .inl ⟨h1, h2, fun y hy hp hf => ?_⟩
      obtain ⟨t', ht', hat'⟩ := exB y hy hf
      obtain ⟨j, hj, hjt, hjy⟩ := forth t' y hat'
      have h3 := none j hj (by unfold peerT; rw [hjy]; exact hp)
      unfold ltT at h3
      rw [hjy] at h3
      omega
    · obtain ⟨h1, h2, _⟩ := inB t _ htA hat
      refine .inr ⟨h1, h2, fun y hy hp hf => ?_⟩
      obtain ⟨t', ht', hat'⟩ := exA y hy hf
      obtain ⟨j, hj, hjt, hjy⟩ := forth t' y hat'
      have h3 := none j hj (by unfold peerT; rw [hjy]; exact hp)
      unfold ltT at h3
      rw [hjy, hjt, htag] at h3
      omega
  · have key : ∀ t, (fa ++ fb)[t]? = some x → (∀ (t' : Nat) (y : Vc.V), (fa ++ fb)[t']? = some y → y.dot.1 = x.dot.1 → t' ≠ t → ¬ (x.dot.2 < y.dot.2 ∨ (y.dot.2 = x.dot.2 ∧ t' < t))) → x ∈ (cpt d1 (fa ++ fb).length).map fun z => z.2.1 := fun t hat hno => by
      obtain ⟨i, hi, hit, hix⟩ := forth t x hat
      refine List.mem_map.2 ⟨d1[i]!, mem_cpt hi ?_, hix⟩
      by_cases h0 : i = 0
      · exact .inl h0
      · refine .inr fun hp => ?_
        have hlt := hs (i - 1) i (by omega) (by omega) hi
        obtain ⟨t', _, _, htag', hat'⟩ := back (i - 1) (by omega)
        have hpy : d1[i - 1]!.2.1.dot.1 = x.dot.1 := by rw [← hix]; exact hp.symm
        have hne : t' ≠ t := fun e => by
          rw [e, hat] at hat'
          injection hat' with hat'
          unfold ltT at hlt
          rw [htag', hit, ← hat', hix, e] at hlt
          omega
        have h3 := hno t' _ hat' hpy hne
        unfold ltT at hlt
        rw [htag', hit, hix] at hlt
        omega
    rcases hx with ⟨h1, h2, h3⟩ | ⟨h1, h2, h3⟩
    · obtain ⟨t, ht, hat⟩ := exA x h1 h2
      refine key t hat fun t' y hat' hp hne => ?_
      by_cases ht' : t' < fa.length
      · exact absurd (vup_inj ua (inA t' y ht' hat').2.2 (inA t x ht hat).2.2 hp) hne
      · obtain ⟨y1, y2, _⟩ := inB t' y ht' hat'
        have := h3 y y1 hp y2
        omega
    · obtain ⟨t, ht, hat⟩ := exB x h1 h2
      refine key t hat fun t' y hat' hp hne => ?_
      by_cases ht' : t' < fa.length
      · obtain ⟨y1, y2, _⟩ := inA t' y ht' hat'
        have := h3 y y1 hp y2
        omega
      · exact absurd (vup_inj ub (inB t' y ht' hat').2.2 (inB t x ht hat).2.2 hp) (by omega)
end Go.Proofs.Ytbghekolfcakeaa

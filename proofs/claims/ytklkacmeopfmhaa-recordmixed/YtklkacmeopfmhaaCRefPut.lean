/-
  What the document's Put answers, for every number: the same bytes as the program's; nothing that lay in memory turns.
-/
import Derived.Test.YtklkacmeopfmhaaCPut
import Derived.Deep.RegionWith
import Derived.Deep.QuietTactic
import Derived.BigQuiet
namespace Go.Proofs.Ytklkacmeopfmhaa
open Go.RowKit

theorem bcell {W w1 : World} (hb : Below W.heap.size W w1) : (∀ b o, b < W.heap.size → w1.cell? ⟨b, o, none⟩ = W.cell? ⟨b, o, none⟩) ∧ (∀ b o, b < W.heap.size → w1.frozen? ⟨b, o, none⟩ = W.frozen? ⟨b, o, none⟩) :=
  ⟨fun b o h => hb.cell (p := ⟨b, o, none⟩) h, fun b o h => hb.frozen (p := ⟨b, o, none⟩) h⟩

theorem wrap_smallC {m : Int} (h0 : 0 ≤ m) (h1 : m < 4611686018427387904) : IntKind.i64.wrap m = m := by simp [IntKind.wrap, IntKind.signed, IntKind.bits]; omega
theorem wrap_byte {m : Int} (h0 : 0 ≤ m) (h1 : m < 256) : IntKind.u8.wrap m = m := by simp [IntKind.wrap, IntKind.signed, IntKind.bits]; omega

theorem cat_small (x : UInt8) (m : Int) : ¬ (ByteArray.size ⟨#[x]⟩ + ByteArray.size ⟨(Cnt.putL m).toArray⟩ > 9223372036854775807) := by
  have := Cnt.putL_len m
  simp [ByteArray.size]
  omega

theorem ret_cat {x : UInt8} {m : Int} {l : List UInt8} (h : l = x :: Cnt.putL m) :
    Ending.returned (.string (⟨#[x]⟩ ++ ⟨(Cnt.putL m).toArray⟩)) = Ending.returned (.string ⟨l.toArray⟩) := by
  rw [h]
  exact congrArg (fun b => Ending.returned (.string b)) (ByteArray.mk_append_mk [x] (Cnt.putL m))

theorem run_string_one (x : UInt8) (m : Int) (hm : (x.toNat : Int) = m) (b : Nat) (W : World) (h : W.cell? ⟨b, 0, none⟩ = some (.int .u8 m)) :
    (convert 41 9 (.slice (some ⟨b, 0, none⟩) 1 1)).run Try.prog W = .ok (.string ⟨#[x]⟩) W := by
  refine run_convert_bytes_back W 41 9 5 ⟨b, 0, none⟩ 1 [x] Try.underlying41 Try.underlying5 Try.underlying9 fun j hj => ?_
  obtain rfl : j = 0 := by simpa using hj
  rw [← hm] at h
  simpa [Addr.add] using h

set_option maxRecDepth 100000 in
set_option maxHeartbeats 1000000 in
theorem refPut_any (k : Nat) : ∀ (n : Int) (w : World), n < 128 ^ k → 0 < k →
    Calls Try.prog 71 #[.int .i64 n] w fun e w' => e = .returned (.string ⟨(Cnt.putL n).toArray⟩) ∧ Below w.heap.size w w' := by
  induction k with
  | zero => intro n w _ h; omega
  | succ k ih =>
    intro n w hk _
    have IH := hide ih
    have HK := hide hk
    clear ih hk
    by_cases hneg : n < 0
    · have HP := hide (Cnt.putL_no n (.inl hneg))
      go_enter Try.func71, Try.ntmps71
      go_wp2_with fail
      go_ret
      exact ⟨by rw [unhide HP]; rfl, Below.refl _ _⟩
    · by_cases hbig : 1073741824 < n
      · have HP := hide (Cnt.putL_no n (.inr hbig))
        go_enter Try.func71, Try.ntmps71
        go_wp2_with fail
        go_ret
        exact ⟨by rw [unhide HP]; rfl, Below.refl _ _⟩
      · by_cases hsm : n < 128
        · have hp := Cnt.putL_small n (by omega) hsm
          obtain ⟨x, hx⟩ : ∃ x, UInt8.ofNat n.toNat = x := ⟨_, rfl⟩
          have hxi : (x.toNat : Int) = n := by rw [← hx, Cnt.u8_lt (by omega)]; omega
          rw [hx] at hp
          have HP := hide hp
          have hcv := run_string_one x n hxi
          clear hp hx hxi
          go_enter Try.func71, Try.ntmps71
          go_wp2_with fail
          go_ret
          exact ⟨by rw [unhide HP]; rfl, (Below.refl _ _).alloc (Nat.le_refl _) _⟩
        · have hp := Cnt.putL_big n (by omega) (by omega)
          obtain ⟨x, hx⟩ : ∃ x, UInt8.ofNat (n.toNat % 128 + 128) = x := ⟨_, rfl⟩
          have hxi : (x.toNat : Int) = n % 128 + 128 := by rw [← hx, Cnt.u8_lt (by omega)]; omega
          rw [hx] at hp
          have HP := hide hp
          have hcv := run_string_one x (n % 128 + 128) hxi
          have hd : n / 128 < 128 ^ k ∧ 0 < k := by
            have h := unhide HK
            rw [Int.pow_succ] at h
            refine ⟨by omega, ?_⟩
            rcases Nat.eq_zero_or_pos k with h0 | h0
            · subst h0; simp at h; omega
            · exact h0
          have HD := hide hd
          clear hp hx hxi hd
          have e1 : n.tmod 128 = n % 128 := Int.tmod_eq_emod_of_nonneg (by omega)
          have e2 : n.tdiv 128 = n / 128 := Int.tdiv_eq_ediv_of_nonneg (by omega)
          have e3 : IntKind.i64.wrap (n % 128 + 128) = n % 128 + 128 := wrap_smallC (by omega) (by omega)
          have e4 : IntKind.u8.wrap (n % 128 + 128) = n % 128 + 128 := wrap_byte (by omega) (by omega)
          have hcat := cat_small x (n / 128)
          have e5 : IntKind.i64.wrap (n / 128) = n / 128 := wrap_smallC (by omega) (by omega)
          go_enter Try.func71, Try.ntmps71
          go_wp2_with fail
          go_region_with (go_at_call 71; refine ((unhide IH) _ _ (unhide HD).1 (unhide HD).2).mono ?_; rintro e w' ⟨rfl, hb⟩; obtain ⟨hc, hf⟩ := bcell hb)
          all_goals go_wp2_with fail
          all_goals go_ret
          all_goals refine ⟨ret_cat (unhide HP), ?_⟩
          all_goals first
            | exact (Below.refl w.heap.size w).drew.trans hb
            | exact ((Below.refl w.heap.size w).drew.trans hb).alloc hb.size _
            | exact (((Below.refl w.heap.size w).alloc (Nat.le_refl _) _).drew).trans (hb.mono (by simp))

theorem refPut_all (n : Int) (w : World) :
    Calls Try.prog 71 #[.int .i64 n] w fun e w' => e = .returned (.string ⟨(Cnt.putL n).toArray⟩) ∧ Below w.heap.size w w' := by
  refine refPut_any (n.toNat + 1) n w ?_ (by omega)
  have h1 : n.toNat + 1 < 128 ^ (n.toNat + 1) := Nat.lt_pow_self (by decide)
  have h2 : (n : Int) ≤ (n.toNat : Int) := by omega
  have h3 : ((128 ^ (n.toNat + 1) : Nat) : Int) = (128 : Int) ^ (n.toNat + 1) := by simp
  rw [← h3]
  omega
end Go.Proofs.Ytklkacmeopfmhaa

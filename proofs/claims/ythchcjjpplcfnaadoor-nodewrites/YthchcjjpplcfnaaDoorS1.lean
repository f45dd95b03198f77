/-
  A node's digest: the program's Sum and the document's. The condition: the package's tables hold what its text lays there.
-/
import Derived.Test.YthchcjjpplcfnaaDoorN3
import Derived.Test.YthchcjjpplcfnaaDoorD2
import Derived.Test.YthchcjjpplcfnaaDoorHLaid
import Derived.Test.YthchcjjpplcfnaaDoorHRefOf
namespace Go.Proofs.YthchcjjpplcfnaaDoor
open Go.RowKit

def sumN (n : Nd) : List UInt8 := if chkN n ≠ 0 then zero32 else Hsh.Sha.sha (encN n)
theorem sumN_len (n : Nd) : (sumN n).length = 32 := by
  unfold sumN
  split
  · rfl
  · exact Hsh.Sha.sha_len _
theorem encT_len (l : List UInt8) : (encT l).length ≤ 5 + l.length := by
  have := Cnt.putL_len l.length
  unfold encT
  rw [List.length_append]
  omega
theorem encKs_len : ∀ (l : List Kd), Digs l → (∀ k ∈ l, k.1.size ≤ 12) → (encKs l).length ≤ 49 * l.length
  | [], _, _ => by simp [encKs]
  | k :: l, hd, hn => by
    have h1 := encKs_len l (fun x hx => hd x (List.mem_cons_of_mem _ hx)) fun x hx => hn x (List.mem_cons_of_mem _ hx)
    have h2 := encT_len k.1.data.toList
    rw [size_data] at h2
    have h3 := hn k (List.mem_cons_self ..)
    have h4 := hd k (List.mem_cons_self ..)
    have e : encKs (k :: l) = (encT k.1.data.toList ++ k.2) ++ encKs l := by simp [encKs, encK]
    rw [e, List.length_append, List.length_append, List.length_cons]
    omega
theorem encN_small {n : Nd} (hn : Nok n) (h : chkN n = 0) : (encN n).length ≤ 60000 := by
  obtain ⟨h1, h2, h3⟩ := chkN_zero h
  have h4 := wLeaf_len ([], 0) n.vs
  rw [wLeaf_enc _ h1] at h4
  have h5 := encKs_len n.ks hn.digs (chkK_names _ _ h3)
  have h6 := Cnt.putL_len n.ks.length
  unfold encN
  simp only [List.nil_append, List.length_append, List.length_nil] at h4 ⊢
  omega
theorem results_dig {fn : Func} (hf : fn.results = #[.cell 2 33]) (tmps : Array Value) (w : World) (g : Nat) (vs : List Value) (hp : tmps.getD 2 undef = .pointer (some ⟨g, 0, none⟩)) (hr : VRow w g 33 vs) (hn : vs.length = 32) :
    (results fn tmps).run Tryd.prog w = .ok (.agg vs.toArray) w := by
  have hp' : tmps[2]?.getD undef = .pointer (some ⟨g, 0, none⟩) := by simpa using hp
  have hl := run_loadVar_row (P := Tryd.prog) w g 33 33 vs.toArray (0, 0) _ hr Tryd.underlying33 rfl (by rw [sizeDg]; simp [hn])
  simp [results, hf, hp', asAddr, hl]
theorem of_digest (t : ByteArray) (ht : t.size < 10000000) (w : World) (hG : Hsh.Glob w) :
    Calls Tryd.prog 34 #[.string t] w fun e w' => e = .returned (.agg ((Hsh.Sha.sha t.data.toList).map byteVal).toArray) ∧ Below w.heap.size w w' := Hsh.Of_any t ht w hG
theorem refOf_digest (t : ByteArray) (ht : t.size ≤ 90000) (w : World) (hK : Hsh.RefKeys w) :
    Calls Tryd.prog 35 #[.string t] w fun e w' => e = .returned (.agg ((Hsh.Sha.sha t.data.toList).map byteVal).toArray) ∧ Below w.heap.size w w' := Hsh.refOf_any t ht _ rfl w hK

set_option maxRecDepth 100000 in
set_option maxHeartbeats 2000000 in
theorem sumN_any (a : Option Addr) (c : Nat) (b : Option Addr) (d : Nat) (n : Nd) (hn : Nok n) (w : World) (h : NdAt w n a c b d) (hG : Hsh.Glob w) (h2 : 2 < w.heap.size) :
    Calls Tryd.prog 10 #[.agg (ndL n a c b d).toArray] w fun e w' => e = .returned (.agg ((sumN n).map byteVal).toArray) ∧ Below w.heap.size w w' := by
  have HB0 := hide ((below_alloc' (w := w) (.cells (ndL n a c b d).toArray 25)).alloc (by simp) (.cells (zero32.map byteVal).toArray 33))
  have HR0 := hide ((VRow.new w 25 (ndL n a c b d)).alloc (.cells (zero32.map byteVal).toArray 33))
  have HZ0 := hide (VRow.newAt (W := w.alloc (.cells (ndL n a c b d).toArray 25)) (T := 33) (n := w.heap.size + 1) (vs := zero32.map byteVal) (by simp))
  have KB := hide (bytesN_any a c b d n hn _ (h.after (unhide HB0)))
  have HG := hide hG
  have HL32 : Hid (((sumN n).map byteVal).length = 32) := hide (by rw [List.length_map]; exact sumN_len n)
  have hz32 : (zero32.map byteVal).length = 32 := rfl
  have hbd : ∀ w, (Instr.build 33 #[]).run Tryd.prog w = .ok (.agg (zero32.map byteVal).toArray) w := fun w => run_buildDg w
  have HON := hide (one_bytes (sumN n))
  have HOZ := hide (one_bytes zero32)
  have HSM := hide (fun hz => encN_small hn (n := n) hz)
  have HX1 := hide (fun (hz : chkN n = 0) => (by unfold sumN; rw [if_neg (by simpa using hz)] : sumN n = Hsh.Sha.sha (encN n)))
  have HX2 := hide (fun (hz : chkN n ≠ 0) => show sumN n = zero32 from if_pos hz)
  generalize sumN n = S at HL32 HON HX1 HX2 ⊢
  by_cases hz : chkN n = 0
  · have KO := hide fun W hW => of_digest (str (encN n)) (by rw [str_size]; have := unhide HSM hz; omega) W hW
    rw [str_data, ← unhide HX1 hz] at KO
    rw [bytes_ok hz] at KB
    dsimp only at KB
    generalize str (encN n) = T at KB KO
    clear h hG hz HX1 HX2 HSM hn
    go_enter Tryd.func10, Tryd.ntmps10
    go_wp2_with (refine load_node (by rfl) (.tmp 1) (by rfl) w.heap.size (by rfl) (ndL n a c b d) (unhide HR0) rfl ?_)
    refine (unhide KB).mono ?_
    rintro e w1 ⟨rfl, hb⟩
    have HB1 := hide (below_grow (unhide HB0) (Nat.le_refl _) hb)
    have HZ1 := hide ((unhide HZ0).after hb)
    clear hb KB
    go_wp2_with fail
    refine (unhide KO _ ((unhide HG).below (unhide HB1) (by omega))).mono ?_
    rintro e w2 ⟨rfl, hb⟩
    have HB2 := hide (below_grow (unhide HB1) (Nat.le_refl _) hb)
    have HZ2 := hide ((unhide HZ1).after hb)
    clear hb KO
    go_wp2_with (refine store_row (by rfl) 33 (.tmp 2) (.tmp 14) (by rfl) (w.heap.size + 1) (S.map byteVal) (by rfl) (by rfl) 33 (zero32.map byteVal) (unhide HZ2) 32 sizeDg (unhide HL32) hz32 (unhide HON) ?_; intro w3 ho3 hr3; have HO3 := hide ho3; have HR3 := hide hr3; clear ho3 hr3)
    refine bodyPost_ret (v := .agg (S.map byteVal).toArray) ?_ rfl ⟨rfl, (unhide HB2).trans ((unhide HO3).below (Nat.le_succ _))⟩
    exact results_dig rfl _ _ (w.heap.size + 1) _ rfl (unhide HR3) (unhide HL32)
  · obtain rfl := unhide HX2 hz
    rw [bytes_bad hz] at KB
    dsimp only at KB
    have hne : (chkN n != 0) = true := bne_iff_ne.2 hz
    generalize chkN n = E at KB hne
    clear h hG hz HX1 HX2 HSM hn
    go_enter Tryd.func10, Tryd.ntmps10
    go_wp2_with (refine load_node (by rfl) (.tmp 1) (by rfl) w.heap.size (by rfl) (ndL n a c b d) (unhide HR0) rfl ?_)
    refine (unhide KB).mono ?_
    rintro e w1 ⟨rfl, hb⟩
    have HB1 := hide (below_grow (unhide HB0) (Nat.le_refl _) hb)
    have HZ1 := hide ((unhide HZ0).after hb)
    clear hb KB
    go_wp2_with (refine store_row (by rfl) 33 (.tmp 2) (.tmp 12) (by rfl) (w.heap.size + 1) (zero32.map byteVal) (by rfl) (by rfl) 33 (zero32.map byteVal) (unhide HZ1) 32 sizeDg hz32 hz32 (unhide HOZ) ?_; intro w3 ho3 hr3; have HO3 := hide ho3; have HR3 := hide hr3; clear ho3 hr3)
    refine bodyPost_ret (v := .agg (zero32.map byteVal).toArray) ?_ rfl ⟨rfl, (unhide HB1).trans ((unhide HO3).below (Nat.le_succ _))⟩
    exact results_dig rfl _ _ (w.heap.size + 1) _ rfl (unhide HR3) hz32

set_option maxRecDepth 100000 in
set_option maxHeartbeats 2000000 in
theorem refSumN_any (a : Option Addr) (c : Nat) (b : Option Addr) (d : Nat) (n : Nd) (hn : Nok n) (hdata : ∀ v ∈ n.vs, v.data.size ≤ 9223372036854775807) (w : World) (h : NdAt w n a c b d) (hG : Hsh.RefKeys w) (h2 : 2 < w.heap.size) :
    Calls Tryd.prog 11 #[.agg (ndL n a c b d).toArray] w fun e w' => e = .returned (.agg ((sumN n).map byteVal).toArray) ∧ Below w.heap.size w w' := by
  have HB0 := hide ((below_alloc' (w := w) (.cells (ndL n a c b d).toArray 25)).alloc (by simp) (.cells (zero32.map byteVal).toArray 33))
  have HR0 := hide ((VRow.new w 25 (ndL n a c b d)).alloc (.cells (zero32.map byteVal).toArray 33))
  have HZ0 := hide (VRow.newAt (W := w.alloc (.cells (ndL n a c b d).toArray 25)) (T := 33) (n := w.heap.size + 1) (vs := zero32.map byteVal) (by simp))
  have KB := hide (refBytesN_any a c b d n hn hdata _ (h.after (unhide HB0)))
  have HG := hide hG
  have HL32 : Hid (((sumN n).map byteVal).length = 32) := hide (by rw [List.length_map]; exact sumN_len n)
  have hz32 : (zero32.map byteVal).length = 32 := rfl
  have hbd : ∀ w, (Instr.build 33 #[]).run Tryd.prog w = .ok (.agg (zero32.map byteVal).toArray) w := fun w => run_buildDg w
  have HON := hide (one_bytes (sumN n))
  have HOZ := hide (one_bytes zero32)
  have HSM := hide (fun hz => encN_small hn (n := n) hz)
  have HX1 := hide (fun (hz : chkN n = 0) => (by unfold sumN; rw [if_neg (by simpa using hz)] : sumN n = Hsh.Sha.sha (encN n)))
  have HX2 := hide (fun (hz : chkN n ≠ 0) => show sumN n = zero32 from if_pos hz)
  generalize sumN n = S at HL32 HON HX1 HX2 ⊢
  by_cases hz : chkN n = 0
  · have KO := hide fun W hW => refOf_digest (str (encN n)) (by rw [str_size]; have := unhide HSM hz; omega) W hW
    rw [str_data, ← unhide HX1 hz] at KO
    rw [bytes_ok hz] at KB
    dsimp only at KB
    generalize str (encN n) = T at KB KO
    clear h hG hz HX1 HX2 HSM hn
    go_enter Tryd.func11, Tryd.ntmps11
    go_wp2_with (refine load_node (by rfl) (.tmp 1) (by rfl) w.heap.size (by rfl) (ndL n a c b d) (unhide HR0) rfl ?_)
    refine (unhide KB).mono ?_
    rintro e w1 ⟨rfl, hb⟩
    have HB1 := hide (below_grow (unhide HB0) (Nat.le_refl _) hb)
    have HZ1 := hide ((unhide HZ0).after hb)
    clear hb KB
    go_wp2_with fail
    refine (unhide KO _ ((unhide HG).below (unhide HB1) (by omega))).mono ?_
    rintro e w2 ⟨rfl, hb⟩
    have HB2 := hide (below_grow (unhide HB1) (Nat.le_refl _) hb)
    have HZ2 := hide ((unhide HZ1).after hb)
    clear hb KO
    go_wp2_with (refine store_row (by rfl) 33 (.tmp 2) (.tmp 14) (by rfl) (w.heap.size + 1) (S.map byteVal) (by rfl) (by rfl) 33 (zero32.map byteVal) (unhide HZ2) 32 sizeDg (unhide HL32) hz32 (unhide HON) ?_; intro w3 ho3 hr3; have HO3 := hide ho3; have HR3 := hide hr3; clear ho3 hr3)
    refine bodyPost_ret (v := .agg (S.map byteVal).toArray) ?_ rfl ⟨rfl, (unhide HB2).trans ((unhide HO3).below (Nat.le_succ _))⟩
    exact results_dig rfl _ _ (w.heap.size + 1) _ rfl (unhide HR3) (unhide HL32)
  · obtain rfl := unhide HX2 hz
    rw [bytes_bad hz] at KB
    dsimp only at KB
    have hne : (chkN n != 0) = true := bne_iff_ne.2 hz
    generalize chkN n = E at KB hne
    clear h hG hz HX1 HX2 HSM hn
    go_enter Tryd.func11, Tryd.ntmps11
    go_wp2_with (refine load_node (by rfl) (.tmp 1) (by rfl) w.heap.size (by rfl) (ndL n a c b d) (unhide HR0) rfl ?_)
    refine (unhide KB).mono ?_
    rintro e w1 ⟨rfl, hb⟩
    have HB1 := hide (below_grow (unhide HB0) (Nat.le_refl _) hb)
    have HZ1 := hide ((unhide HZ0).after hb)
    clear hb KB
    go_wp2_with (refine store_row (by rfl) 33 (.tmp 2) (.tmp 12) (by rfl) (w.heap.size + 1) (zero32.map byteVal) (by rfl) (by rfl) 33 (zero32.map byteVal) (unhide HZ1) 32 sizeDg hz32 hz32 (unhide HOZ) ?_; intro w3 ho3 hr3; have HO3 := hide ho3; have HR3 := hide hr3; clear ho3 hr3)
    refine bodyPost_ret (v := .agg (zero32.map byteVal).toArray) ?_ rfl ⟨rfl, (unhide HB1).trans ((unhide HO3).below (Nat.le_succ _))⟩
    exact results_dig rfl _ _ (w.heap.size + 1) _ rfl (unhide HR3) hz32
end Go.Proofs.YthchcjjpplcfnaaDoor

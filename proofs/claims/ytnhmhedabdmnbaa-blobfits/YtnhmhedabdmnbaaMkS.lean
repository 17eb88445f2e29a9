import Derived.Test.YtnhmhedabdmnbaaMk
set_option linter.unusedSimpArgs false
set_option linter.unusedVariables false
namespace Go.Proofs.Ytnhmhedabdmnbaa
open Go.RowKit

/-! Another byte, another mark. -/
theorem mul_inj (x y : Nat) (hx : x < 18446744073709551616) (hy : y < 18446744073709551616) (h : x * 1099511628211 % 18446744073709551616 = y * 1099511628211 % 18446744073709551616) : x = y := by
  have inv : ∀ z, z < 18446744073709551616 → z * 1099511628211 % 18446744073709551616 * 14886173955864302971 % 18446744073709551616 = z := by
    intro z hz
    rw [Nat.mod_mul_mod, Nat.mul_assoc, Nat.mul_mod, show 1099511628211 * 14886173955864302971 % 18446744073709551616 = 1 by decide, Nat.mul_one, Nat.mod_mod, Nat.mod_eq_of_lt hz]
  rw [← inv x hx, ← inv y hy, h]
theorem mstep_inj (m m' b : Nat) (hm : m < 18446744073709551616) (hm' : m' < 18446744073709551616) (hb : b < 256) (h : mstep m b = mstep m' b) : m = m' := by
  have h1 : m ^^^ b < 2 ^ 64 := Nat.xor_lt_two_pow (by omega) (by omega)
  have h2 : m' ^^^ b < 2 ^ 64 := Nat.xor_lt_two_pow (by omega) (by omega)
  have e := mul_inj _ _ (by omega) (by omega) h
  have e2 := congrArg (fun z => z ^^^ b) e
  simpa [Nat.xor_assoc] using e2
theorem mstep_byte (m b b' : Nat) (hm : m < 18446744073709551616) (hb : b < 256) (hb' : b' < 256) (h : mstep m b = mstep m b') : b = b' := by
  have h1 : m ^^^ b < 2 ^ 64 := Nat.xor_lt_two_pow (by omega) (by omega)
  have h2 : m ^^^ b' < 2 ^ 64 := Nat.xor_lt_two_pow (by omega) (by omega)
  have e := mul_inj _ _ (by omega) (by omega) h
  have e2 := congrArg (fun z => m ^^^ z) e
  simpa [← Nat.xor_assoc] using e2
def mkl (i : Nat) (l : List UInt8) : Nat := l.foldl (fun m b => mstep m b.toNat) i
theorem mkl_lt (l : List UInt8) : ∀ i, i < 18446744073709551616 → mkl i l < 18446744073709551616 := by
  induction l with
  | nil => intro i h; exact h
  | cons x l ih => intro i h; unfold mkl; rw [List.foldl_cons]; exact ih _ (mstep_lt _ _)
theorem mkl_inj (l : List UInt8) : ∀ i j, i < 18446744073709551616 → j < 18446744073709551616 → mkl i l = mkl j l → i = j := by
  induction l with
  | nil => intro i j _ _ h; exact h
  | cons x l ih =>
    intro i j hi hj h
    unfold mkl at h
    rw [List.foldl_cons, List.foldl_cons] at h
    exact mstep_inj _ _ _ hi hj (byte_lt x) (ih _ _ (mstep_lt _ _) (mstep_lt _ _) h)
theorem ees_bytes (s : ByteArray) : (ees s s.size).map Prod.snd = s.data.toList := by
  apply List.ext_getElem
  · simp [ees, data_len]
  · intro i h1 h2
    have hi : i < s.size := by rw [← data_len]; exact h2
    simp only [ees, List.getElem_map, List.getElem_range]
    unfold byt
    rw [List.getD_eq_getElem?_getD, List.getElem?_eq_getElem h2]
    rfl
theorem mkg_mkl (l : List (Nat × UInt8)) : ∀ i, mkg i l = mkl i (l.map Prod.snd) := by
  induction l with
  | nil => intro i; rfl
  | cons x l ih => intro i; unfold mkg mkl; rw [List.foldl_cons, List.map_cons, List.foldl_cons]; exact ih _
theorem mk_mkl (s : ByteArray) : mk s = mkl 14695981039346656037 s.data.toList := by
  unfold mk mkf
  rw [mkg_mkl, ees_bytes]
theorem mk_set (s : ByteArray) (k : Nat) (c : UInt8) (hk : k < s.size) (hc : c ≠ s[k]) : mk ⟨(s.data.toList.set k c).toArray⟩ ≠ mk s := by
  intro h
  have hl : k < s.data.toList.length := by rw [data_len]; exact hk
  rw [mk_mkl, mk_mkl] at h
  simp only [List.toList_toArray] at h
  have e1 : s.data.toList = s.data.toList.take k ++ s.data.toList[k] :: s.data.toList.drop (k + 1) := by rw [List.getElem_cons_drop, List.take_append_drop]
  have e2 : s.data.toList.set k c = s.data.toList.take k ++ c :: s.data.toList.drop (k + 1) := by rw [List.set_eq_take_append_cons_drop, if_pos hl]
  rw [e2] at h
  conv at h => rhs; rw [e1]
  unfold mkl at h
  rw [List.foldl_append, List.foldl_append, List.foldl_cons, List.foldl_cons] at h
  have h0 := mkl_lt (s.data.toList.take k) 14695981039346656037 (by omega)
  have h1 := mkl_inj (s.data.toList.drop (k + 1)) _ _ (mstep_lt _ _) (mstep_lt _ _) h
  have h2 := mstep_byte _ _ _ h0 (byte_lt _) (byte_lt _) h1
  apply hc
  exact UInt8.toNat_inj.1 h2
theorem bstep {n : Nat} {a b c : World} (h : Below n a b) (h2 : Below b.drew.heap.size b.drew c) (hn : n ≤ a.heap.size := by exact Nat.le_refl _) : Below n a c :=
  h.drew.trans (h2.mono (Nat.le_trans hn h.size))
theorem bstep2 {n : Nat} {a b c : World} (h : Below n a b) (h2 : Below b.heap.size b c) (hn : n ≤ a.heap.size := by exact Nat.le_refl _) : Below n a c :=
  h.trans (h2.mono (Nat.le_trans hn h.size))
end Go.Proofs.Ytnhmhedabdmnbaa

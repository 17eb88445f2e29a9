import Derived.Test.YtljfenjpnanoiaaRMulM
import Derived.Test.YtljfenjpnanoiaaBits
import Derived.Test.YtljfenjpnanoiaaNBitsM
set_option linter.unusedSimpArgs false
set_option linter.unusedVariables false
namespace Go.Proofs.Ytljfenjpnanoiaa
open Go.RowKit

/-- What a long division holds: q and what is left, when j bits of the quotient are still to come. -/
def DInv (j n m q c : Nat) : Prop := n = q * m + c ∧ c < m * 2 ^ j ∧ q % 2 ^ j = 0
theorem dInv_end {n m q c : Nat} (h : DInv 0 n m q c) : q = n / m ∧ c = n % m := by
  obtain ⟨h1, h2, _⟩ := h
  rw [Nat.pow_zero, Nat.mul_one] at h2
  have hm : 0 < m := by omega
  rw [h1, Nat.mul_comm, Nat.mul_add_div hm, Nat.mul_add_mod, Nat.div_eq_of_lt h2, Nat.mod_eq_of_lt h2]
  simp
theorem dInv_yes {j n m q c : Nat} (h : DInv (j + 1) n m q c) (hc : m * 2 ^ j ≤ c) : DInv j n m (q + 2 ^ j) (c - m * 2 ^ j) := by
  obtain ⟨h1, h2, h3⟩ := h
  have e : m * 2 ^ (j + 1) = m * 2 ^ j + m * 2 ^ j := by rw [Nat.pow_succ, ← Nat.mul_assoc]; omega
  refine ⟨?_, by omega, ?_⟩
  · rw [Nat.add_mul, Nat.mul_comm (2 ^ j) m]; omega
  · rw [Nat.add_mod_right]
    have := Nat.mod_mod_of_dvd q (Nat.pow_dvd_pow 2 (Nat.le_succ j))
    rw [← this, h3, Nat.zero_mod]
theorem dInv_no {j n m q c : Nat} (h : DInv (j + 1) n m q c) (hc : ¬ m * 2 ^ j ≤ c) : DInv j n m q c := by
  obtain ⟨h1, h2, h3⟩ := h
  refine ⟨h1, by omega, ?_⟩
  have := Nat.mod_mod_of_dvd q (Nat.pow_dvd_pow 2 (Nat.le_succ j))
  rw [← this, h3, Nat.zero_mod]
theorem bl_lt (n : Nat) : n < 2 ^ bl n := (bl_iff n (bl n)).1 (Nat.le_refl _)
theorem bl_ge (m : Nat) (h : 0 < m) : 2 ^ (bl m - 1) ≤ m ∧ 0 < bl m := by
  have h0 : 0 < bl m := by
    rcases Nat.eq_zero_or_pos (bl m) with e | e
    · have := bl_lt m
      rw [e] at this
      omega
    · exact e
  refine ⟨?_, h0⟩
  apply Nat.le_of_not_lt
  intro hl
  have := (bl_iff m (bl m - 1)).2 hl
  omega
theorem M256_pow : M256 = 2 ^ 256 := by decide
theorem dInv_start (n m : Nat) (hm : 0 < m) (hn : n < M256) (j : Nat) (hj : (j : Int) = (bl n : Int) - bl m) : m * 2 ^ j < M256 ∧ DInv (j + 1) n m 0 n := by
  have hb := bl_ge m hm
  have hl := bl_lt m
  have hbn := bl_le n hn
  constructor
  · have h1 : m * 2 ^ j < 2 ^ bl m * 2 ^ j := Nat.mul_lt_mul_of_pos_right hl (Nat.two_pow_pos _)
    rw [← Nat.pow_add] at h1
    have h2 : (2 : Nat) ^ (bl m + j) ≤ 2 ^ 256 := Nat.pow_le_pow_right (by omega) (by omega)
    rw [M256_pow]
    exact Nat.lt_of_lt_of_le h1 h2
  · refine ⟨by omega, ?_, Nat.zero_mod _⟩
    have h1 : 2 ^ (bl m - 1) * 2 ^ (j + 1) ≤ m * 2 ^ (j + 1) := Nat.mul_le_mul_right _ hb.1
    rw [← Nat.pow_add, show bl m - 1 + (j + 1) = bl n by omega] at h1
    exact Nat.lt_of_lt_of_le (bl_lt n) h1
theorem dInv_short (n m : Nat) (hm : 0 < m) (h : bl n < bl m) : DInv 0 n m 0 n := by
  have hb := bl_ge m hm
  refine ⟨by omega, ?_, Nat.zero_mod _⟩
  rw [Nat.pow_zero, Nat.mul_one]
  have h2 : (2 : Nat) ^ bl n ≤ 2 ^ (bl m - 1) := Nat.pow_le_pow_right (by omega) (by omega)
  exact Nat.lt_of_lt_of_le (bl_lt n) (Nat.le_trans h2 hb.1)
theorem dInv_q {j n m q c : Nat} (h : DInv j n m q c) (hm : 0 < m) (hn : n < M256) : q < M256 ∧ c < M256 := by
  have h1 := h.1
  have : q * 1 ≤ q * m := Nat.mul_le_mul_left _ hm
  omega
theorem bit_free (q k : Nat) (h : q % 2 ^ (k + 1) = 0) : q / 2 ^ (64 * (k / 64)) % 2 ^ 64 / 2 ^ (k % 64) % 2 ^ 1 = 0 := by
  have e : (q / 2 ^ (64 * (k / 64)) % 2 ^ 64).testBit (k % 64) = false := by
    rw [Nat.testBit_mod_two_pow, Nat.testBit_div_two_pow, show k % 64 + 64 * (k / 64) = k by omega]
    have : q.testBit k = (q % 2 ^ (k + 1)).testBit k := by rw [Nat.testBit_mod_two_pow]; simp
    rw [this, h]
    simp
  rw [Nat.testBit_eq_decide_div_mod_eq] at e
  simp at e
  rw [Nat.pow_one]
  generalize q / 2 ^ (64 * (k / 64)) % 2 ^ 64 / 2 ^ (k % 64) = x at *
  omega
theorem or_bit (q k : Nat) (h : q % 2 ^ (k + 1) = 0) : Go.bits BinOp.or IntKind.u64 (lb q (k / 64)) (IntKind.u64.wrap (2 ^ (k % 64))) = lb q (k / 64) + (2 ^ (k % 64) : Nat) ∧ lb q (k / 64) + (2 ^ (k % 64) : Nat) < 18446744073709551616 := by
  have hf := bit_free q k h
  have ht : (2 : Nat) ^ (k % 64) ≤ 2 ^ 63 := Nat.pow_le_pow_right (by omega) (by omega)
  have e0 : IntKind.u64.wrap (2 ^ (k % 64)) = ((1 * 2 ^ (k % 64) : Nat) : Int) := by
    have e2 : (2 : Int) ^ (k % 64) = ((1 * 2 ^ (k % 64) : Nat) : Int) := by rw [Nat.one_mul, Int.natCast_pow]; rfl
    rw [e2, IntKind.wrap_u64]
    omega
  rw [e0]
  unfold lb
  rw [show (18446744073709551616 : Nat) = 2 ^ 64 from rfl]
  have hx : q / 2 ^ (64 * (k / 64)) % 2 ^ 64 < 2 ^ 64 := Nat.mod_lt _ (Nat.two_pow_pos _)
  generalize q / 2 ^ (64 * (k / 64)) % 2 ^ 64 = x at *
  have ho := or_field x 1 (k % 64) 1 (by omega) hf
  have hb : x ||| 1 * 2 ^ (k % 64) < 2 ^ 64 := Nat.or_lt_two_pow hx (by omega)
  rw [bits_or_u64_nat _ _ (by omega) (by omega), ho]
  rw [ho] at hb
  omega
theorem bit_set (q k : Nat) (hk : k < 256) (hq : q + 2 ^ k < M256) (h : q % 2 ^ (k + 1) = 0) :
    (A4 (lb q 0) (lb q 1) (lb q 2) (lb q 3)).setIfInBounds (k / 64) (.int .u64 (Go.bits BinOp.or IntKind.u64 (lb q (k / 64)) (IntKind.u64.wrap (2 ^ (k % 64))))) = A4 (lb (q + 2 ^ k) 0) (lb (q + 2 ^ k) 1) (lb (q + 2 ^ k) 2) (lb (q + 2 ^ k) 3) := by
  obtain ⟨e, hlt⟩ := or_bit q k h
  rw [e]
  have hv := lb_val q (by omega)
  have hl := lb_lim q
  have hp : (2 : Nat) ^ k = 2 ^ (64 * (k / 64)) * 2 ^ (k % 64) := by rw [← Nat.pow_add]; congr 1; omega
  generalize (2 : Nat) ^ (k % 64) = T at *
  have hL : k / 64 = 0 ∨ k / 64 = 1 ∨ k / 64 = 2 ∨ k / 64 = 3 := by omega
  generalize k / 64 = L at *
  rcases hL with rfl | rfl | rfl | rfl
  · obtain ⟨a0, a1, a2, a3⟩ := lb_of (q + 2 ^ k) (lb q 0 + T) (lb q 1) (lb q 2) (lb q 3) (by unfold Lim at *; omega) (by unfold val at *; rw [hp]; simp only [Nat.mul_zero, Nat.pow_zero, Nat.one_mul]; omega)
    rw [← a0, ← a1, ← a2, ← a3]; rfl
  · obtain ⟨a0, a1, a2, a3⟩ := lb_of (q + 2 ^ k) (lb q 0) (lb q 1 + T) (lb q 2) (lb q 3) (by unfold Lim at *; omega) (by unfold val at *; rw [hp]; simp only [Nat.reduceMul, Nat.reducePow]; omega)
    rw [← a0, ← a1, ← a2, ← a3]; rfl
  · obtain ⟨a0, a1, a2, a3⟩ := lb_of (q + 2 ^ k) (lb q 0) (lb q 1) (lb q 2 + T) (lb q 3) (by unfold Lim at *; omega) (by unfold val at *; rw [hp]; simp only [Nat.reduceMul, Nat.reducePow]; omega)
    rw [← a0, ← a1, ← a2, ← a3]; rfl
  · obtain ⟨a0, a1, a2, a3⟩ := lb_of (q + 2 ^ k) (lb q 0) (lb q 1) (lb q 2) (lb q 3 + T) (by unfold Lim at *; omega) (by unfold val at *; rw [hp]; simp only [Nat.reduceMul, Nat.reducePow]; omega)
    rw [← a0, ← a1, ← a2, ← a3]; rfl
end Go.Proofs.Ytljfenjpnanoiaa

import Derived.Test.YtgolpadmcalimaaRBits
import Derived.Test.YtgolpadmcalimaaDivM
set_option linter.unusedSimpArgs false
set_option linter.unusedVariables false
namespace Go.Proofs.Ytgolpadmcalimaa
open Go.RowKit

/-! The page's own quotient, bit by bit: the arithmetic. -/
def RInv (j n m q r : Nat) : Prop := ∃ Q, q = Q * 2 ^ j ∧ n / 2 ^ j = Q * m + r ∧ r < m
def bitN (n i : Nat) : Nat := n / 2 ^ i % 2
theorem bitN_lt (n i : Nat) : bitN n i < 2 := Nat.mod_lt _ (by omega)
theorem bitAt_N (n i : Nat) : bitAt n i = (bitN n i == 1) := rfl
theorem rInv_start (n m : Nat) (hm : 0 < m) : RInv (bl n) n m 0 0 := ⟨0, by simp, by rw [Nat.div_eq_of_lt ((bl_iff n (bl n)).1 (Nat.le_refl _))]; simp, hm⟩
theorem rInv_end {n m q r : Nat} (h : RInv 0 n m q r) : q = n / m ∧ r = n % m := by
  obtain ⟨Q, rfl, h2, h3⟩ := h
  simp only [Nat.pow_zero, Nat.div_one, Nat.mul_one] at h2 ⊢
  subst h2
  have hm : 0 < m := by omega
  rw [Nat.mul_comm Q m]
  exact ⟨by rw [Nat.mul_add_div hm, Nat.div_eq_of_lt h3, Nat.add_zero], by rw [Nat.mul_add_mod, Nat.mod_eq_of_lt h3]⟩
theorem half_div (n i : Nat) : n / 2 ^ i = 2 * (n / 2 ^ (i + 1)) + bitN n i := by
  unfold bitN
  rw [Nat.pow_succ, ← Nat.div_div_eq_div_mul]
  omega
theorem rInv_yes {i n m q r : Nat} (h : RInv (i + 1) n m q r) (hc : m ≤ 2 * r + bitN n i) : RInv i n m (q + 2 ^ i) (2 * r + bitN n i - m) := by
  obtain ⟨Q, rfl, h2, h3⟩ := h
  have hb := bitN_lt n i
  refine ⟨2 * Q + 1, ?_, ?_, by omega⟩
  · rw [Nat.pow_succ, Nat.add_mul, Nat.one_mul, Nat.mul_comm (2 ^ i) 2, ← Nat.mul_assoc, Nat.mul_comm Q 2]
  · rw [half_div, h2, Nat.add_mul, Nat.mul_assoc]; omega
theorem rInv_no {i n m q r : Nat} (h : RInv (i + 1) n m q r) (hc : ¬ m ≤ 2 * r + bitN n i) : RInv i n m q (2 * r + bitN n i) := by
  obtain ⟨Q, rfl, h2, h3⟩ := h
  refine ⟨2 * Q, ?_, ?_, by omega⟩
  · rw [Nat.pow_succ, Nat.mul_comm (2 ^ i) 2, ← Nat.mul_assoc, Nat.mul_comm Q 2]
  · rw [half_div, h2, Nat.mul_assoc]; omega
theorem rInv_q {j n m q r : Nat} (h : RInv j n m q r) (hn : n < M256) (hm : m < M256) : q < M256 ∧ r < M256 ∧ q % 2 ^ j = 0 := by
  obtain ⟨Q, rfl, h2, h3⟩ := h
  refine ⟨?_, by omega, Nat.mul_mod_left _ _⟩
  have a : Q ≤ n / 2 ^ j := by rw [h2]; have : Q * 1 ≤ Q * m := Nat.mul_le_mul_left _ (by omega); omega
  have b : Q * 2 ^ j ≤ n / 2 ^ j * 2 ^ j := Nat.mul_le_mul_right _ a
  have c : n / 2 ^ j * 2 ^ j ≤ n := Nat.div_mul_le_self _ _
  omega
/-- The highest bit: twice as great it would be over. -/
theorem top_bit (r : Nat) (hr : r < M256) : bitAt r 255 = decide (M256 ≤ 2 * r) := by
  rw [bitAt_N]
  unfold bitN
  have e : (2 : Nat) ^ 255 = 57896044618658097711785492504343953926634992332820282019728792003956564819968 := by decide
  rw [e]
  unfold M256 at *
  by_cases h : 57896044618658097711785492504343953926634992332820282019728792003956564819968 ≤ r
  · rw [show r / 57896044618658097711785492504343953926634992332820282019728792003956564819968 = 1 by omega, decide_eq_true (by omega)]; rfl
  · rw [show r / 57896044618658097711785492504343953926634992332820282019728792003956564819968 = 0 by omega, decide_eq_false (by omega)]; rfl
/-- Its lowest bit set. -/
theorem low_one (r : Nat) : Go.bits BinOp.or IntKind.u64 (lb (2 * r % M256) 0) 1 = lb ((2 * r + 1) % M256) 0 ∧ (lb (2 * r % M256) 1 = lb ((2 * r + 1) % M256) 1 ∧ lb (2 * r % M256) 2 = lb ((2 * r + 1) % M256) 2 ∧ lb (2 * r % M256) 3 = lb ((2 * r + 1) % M256) 3) := by
  have hl := lb_lim (2 * r % M256)
  have hv := lb_val (2 * r % M256) (Nat.mod_lt _ (by decide))
  have he : lb (2 * r % M256) 0 % 2 = 0 := by
    unfold lb M256; simp only [Nat.mul_zero, Nat.pow_zero, Nat.div_one]; omega
  have key : val (lb (2 * r % M256) 0 + 1) (lb (2 * r % M256) 1) (lb (2 * r % M256) 2) (lb (2 * r % M256) 3) = (((2 * r + 1) % M256 : Nat) : Int) := by
    have : (2 * r + 1) % M256 = 2 * r % M256 + 1 := by unfold M256; omega
    rw [this]; unfold val at *; omega
  obtain ⟨e0, e1, e2, e3⟩ := lb_of ((2 * r + 1) % M256) _ _ _ _ (by unfold Lim at *; omega) key
  refine ⟨?_, e1, e2, e3⟩
  rw [← e0]
  obtain ⟨x, hx⟩ := Int.eq_ofNat_of_zero_le hl.1.1
  rw [hx] at he hl ⊢
  have h1 : (1 : Int) = ((1 : Nat) : Int) := rfl
  have h2 : x = x / 2 * 2 ^ 1 := by omega
  rw [h1, bits_or_u64_nat x 1 (by unfold Lim at hl; omega) (by omega), h2, Nat.mul_comm, (Nat.two_pow_add_eq_or_of_lt (show 1 < 2 ^ 1 by omega) _).symm]
  omega
/-- What the limbs make behind a difference round 2^256. -/
theorem subRound (R m : Nat) (hm : m < M256) (h1 : m ≤ R) (h2 : R - m < M256) (h3 : R < 2 * M256) (x0 x1 x2 x3 c : Int) (h : SubInv 4 (R % M256) m x0 x1 x2 x3 c) : x0 = lb (R - m) 0 ∧ x1 = lb (R - m) 1 ∧ x2 = lb (R - m) 2 ∧ x3 = lb (R - m) 3 := by
  unfold SubInv at h
  obtain ⟨hl, c0, c1, _, _, _, _, hv⟩ := h
  have hn := val_nonneg _ _ _ _ hl
  have e : (2 : Nat) ^ (64 * 4) = M256 := by decide
  rw [e, Nat.mod_mod, Nat.mod_eq_of_lt hm] at hv
  refine lb_of (R - m) _ _ _ _ hl ?_
  generalize val x0 x1 x2 x3 = v at *
  have hc : c = 0 ∨ c = 1 := by omega
  unfold M256 at *
  rcases hc with rfl | rfl <;> omega
end Go.Proofs.Ytgolpadmcalimaa

import Derived.Test.YtljfenjpnanoiaaSubM
set_option linter.unusedSimpArgs false
set_option linter.unusedVariables false
namespace Go.Proofs.Ytljfenjpnanoiaa
open Go.RowKit

/-! math/bits.Div64's arithmetic: a step by half a word. u: what is left, below the divisor y1 2^32 + y0; un: the next half. -/
def KInv (u un y1 y0 q r : Nat) : Prop := (u * 4294967296 + un) / (y1 * 4294967296 + y0) ≤ q ∧ q ≤ 4294967297 ∧ q * y1 + r = u
theorem k_start (u un y1 y0 : Nat) (h1 : 2147483648 ≤ y1) (h1' : y1 < 4294967296) (h0 : y0 < 4294967296) (hu : u < y1 * 4294967296 + y0) (hn : un < 4294967296) :
    KInv u un y1 y0 (u / y1) (u % y1) ∧ u % y1 < 4294967296 := by
  have hm : u % y1 < y1 := Nat.mod_lt _ (by omega)
  have hd : u / y1 * y1 + u % y1 = u := by rw [Nat.mul_comm]; exact Nat.div_add_mod u y1
  refine ⟨⟨?_, ?_, hd⟩, by omega⟩
  · have e : u * 4294967296 + un < (u / y1 + 1) * (y1 * 4294967296 + y0) := by
      have a : (u / y1 + 1) * (y1 * 4294967296) ≤ (u / y1 + 1) * (y1 * 4294967296 + y0) := Nat.mul_le_mul_left _ (by omega)
      have b : (u / y1 + 1) * (y1 * 4294967296) = (u / y1 * y1 + y1) * 4294967296 := by rw [← Nat.mul_assoc, Nat.add_mul, Nat.one_mul]
      omega
    have := (Nat.div_lt_iff_lt_mul (show 0 < y1 * 4294967296 + y0 by omega)).2 e
    omega
  · have e : u < 4294967298 * y1 := by omega
    have := (Nat.div_lt_iff_lt_mul (show 0 < y1 by omega)).2 e
    omega
theorem k_mul (q y1 y0 : Nat) : q * (y1 * 4294967296 + y0) = q * y1 * 4294967296 + q * y0 := by rw [Nat.mul_add, Nat.mul_assoc]
theorem k_stop {u un y1 y0 q r : Nat} (h1 : 2147483648 ≤ y1) (h : KInv u un y1 y0 q r) (ht : q * y0 ≤ 4294967296 * r + un) : q = (u * 4294967296 + un) / (y1 * 4294967296 + y0) := by
  obtain ⟨a, b, c⟩ := h
  have e := k_mul q y1 y0
  have : q ≤ (u * 4294967296 + un) / (y1 * 4294967296 + y0) := (Nat.le_div_iff_mul_le (by omega)).2 (by omega)
  omega
theorem k_over {u un y1 y0 q r : Nat} (h1 : 2147483648 ≤ y1) (h0 : y0 < 4294967296) (hu : u < y1 * 4294967296 + y0) (hn : un < 4294967296) (h : KInv u un y1 y0 q r) (ht : 4294967296 ≤ q ∨ 4294967296 * r + un < q * y0) :
    1 ≤ q ∧ KInv u un y1 y0 (q - 1) (r + y1) ∧ q - 1 ≤ 4294967296 := by
  obtain ⟨a, b, c⟩ := h
  have e := k_mul q y1 y0
  unfold KInv
  have lt : (u * 4294967296 + un) / (y1 * 4294967296 + y0) < q := by
    rcases ht with ht | ht
    · have : (u * 4294967296 + un) / (y1 * 4294967296 + y0) < 4294967296 := (Nat.div_lt_iff_lt_mul (by omega)).2 (by omega)
      omega
    · exact (Nat.div_lt_iff_lt_mul (by omega)).2 (by omega)
  generalize (u * 4294967296 + un) / (y1 * 4294967296 + y0) = Q at *
  refine ⟨by omega, ⟨by omega, by omega, ?_⟩, by omega⟩
  obtain ⟨p, rfl⟩ : ∃ p, q = p + 1 := ⟨q - 1, by omega⟩
  rw [Nat.add_mul] at c
  simp only [Nat.add_sub_cancel]
  omega
theorem k_break {u un y1 y0 q r : Nat} (h1 : 2147483648 ≤ y1) (h0 : y0 < 4294967296) (h : KInv u un y1 y0 q r) (hq : q ≤ 4294967296) (hr : 4294967296 ≤ r) : q = (u * 4294967296 + un) / (y1 * 4294967296 + y0) := by
  refine k_stop h1 h ?_
  have : q * y0 ≤ 4294967296 * y0 := Nat.mul_le_mul_right _ hq
  omega
/-- What is left behind a step. -/
theorem k_left (u un y q : Nat) (h : q = (u * 4294967296 + un) / y) : u * 4294967296 + un = q * y + (u * 4294967296 + un) % y := by
  subst h; rw [Nat.mul_comm _ y]; exact (Nat.div_add_mod _ _).symm
/-- Both steps together. -/
theorem k_two (u un1 un0 y q r : Nat) (hn0 : un0 < 4294967296) (hy : 0 < y) (e : u * 4294967296 + un1 = q * y + r) :
    q * 4294967296 + (r * 4294967296 + un0) / y = (u * 18446744073709551616 + un1 * 4294967296 + un0) / y ∧ (r * 4294967296 + un0) % y = (u * 18446744073709551616 + un1 * 4294967296 + un0) % y := by
  have e2 : u * 18446744073709551616 + un1 * 4294967296 + un0 = (r * 4294967296 + un0) + y * (q * 4294967296) := by
    have a : u * 18446744073709551616 = u * 4294967296 * 4294967296 := by rw [Nat.mul_assoc]
    have b : (u * 4294967296 + un1) * 4294967296 = (q * y + r) * 4294967296 := by rw [e]
    have c : y * (q * 4294967296) = q * y * 4294967296 := by rw [← Nat.mul_assoc, Nat.mul_comm y q]
    rw [Nat.add_mul, Nat.add_mul] at b
    rw [a, c, b, Nat.add_comm (q * y * 4294967296), Nat.add_right_comm]
  rw [e2]
  refine ⟨?_, (Nat.add_mul_mod_self_left (r * 4294967296 + un0) y (q * 4294967296)).symm⟩
  rw [Nat.add_mul_div_left _ _ hy, Nat.add_comm]
/-- Divisor and number moved up alike. -/
theorem k_up (n y s : Nat) (hy : 0 < y) : n * 2 ^ s / (y * 2 ^ s) = n / y ∧ n * 2 ^ s % (y * 2 ^ s) = n % y * 2 ^ s := by
  have hs : 0 < 2 ^ s := Nat.two_pow_pos s
  exact ⟨Nat.mul_div_mul_right _ _ hs, Nat.mul_mod_mul_right _ _ _⟩
/-- The upper word of a number of two, moved up by s bits; its lower word. -/
theorem k_hi (hi lo s : Nat) (hs : s ≤ 64) (hl : lo < 18446744073709551616) : (hi * 18446744073709551616 + lo) * 2 ^ s = (hi * 2 ^ s + lo / 2 ^ (64 - s)) * 18446744073709551616 + lo * 2 ^ s % 18446744073709551616 := by
  have e : 2 ^ (64 - s) * 2 ^ s = 18446744073709551616 := by rw [← Nat.pow_add, show 64 - s + s = 64 by omega]
  have d : lo * 2 ^ s / 18446744073709551616 = lo / 2 ^ (64 - s) := by
    rw [← e]; exact Nat.mul_div_mul_right _ _ (Nat.two_pow_pos s)
  have m := Nat.div_add_mod (lo * 2 ^ s) 18446744073709551616
  rw [d] at m
  rw [Nat.add_mul, Nat.mul_right_comm, Nat.add_mul]
  omega
end Go.Proofs.Ytljfenjpnanoiaa

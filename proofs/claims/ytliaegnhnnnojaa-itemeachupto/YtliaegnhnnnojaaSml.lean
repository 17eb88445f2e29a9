import Derived.Test.YtliaegnhnnnojaaText
set_option linter.unusedSimpArgs false
set_option linter.unusedVariables false
namespace Go.Proofs.Ytliaegnhnnnojaa
open Go.RowKit

theorem lb_small (n : Nat) (h : n < 18446744073709551616) : lb n 0 = n ∧ lb n 1 = 0 ∧ lb n 2 = 0 ∧ lb n 3 = 0 := by
  unfold lb
  simp only [Nat.mul_zero, Nat.pow_zero, Nat.div_one, Nat.reduceMul, Nat.reducePow]
  omega
theorem V_small (n : Nat) (h : n < 18446744073709551616) : V n = .agg (A4 n 0 0 0) := by
  obtain ⟨h0, h1, h2, h3⟩ := lb_small n h
  rw [V, h0, h1, h2, h3]
end Go.Proofs.Ytliaegnhnnnojaa

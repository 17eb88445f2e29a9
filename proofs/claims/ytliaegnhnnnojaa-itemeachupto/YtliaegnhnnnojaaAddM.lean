import Derived.Test.YtliaegnhnnnojaaBase
set_option linter.unusedSimpArgs false
set_option linter.unusedVariables false
namespace Go.Proofs.Ytliaegnhnnnojaa
open Go.RowKit

/-! The plain arithmetic of sums, limb by limb. -/
def AddInv (k n m : Nat) (x0 x1 x2 x3 c : Int) : Prop :=
  Lim x0 x1 x2 x3 ∧ 0 ≤ c ∧ c ≤ 1 ∧ (k ≤ 0 → x0 = 0) ∧ (k ≤ 1 → x1 = 0) ∧ (k ≤ 2 → x2 = 0) ∧ (k ≤ 3 → x3 = 0) ∧
    val x0 x1 x2 x3 + c * ((2 ^ (64 * k) : Nat) : Int) = ((n % 2 ^ (64 * k) : Nat) : Int) + ((m % 2 ^ (64 * k) : Nat) : Int)
def addOk (n m : Nat) : Bool := decide (n + m < M256)
def addV (n m : Nat) : Nat := if n + m < M256 then n + m else 0
theorem addInv0 (n m : Nat) : AddInv 0 n m 0 0 0 0 0 := by
  unfold AddInv Lim val; simp
theorem addStep0 (n m : Nat) (x0 x1 x2 x3 c : Int) (h : AddInv 0 n m x0 x1 x2 x3 c) :
    AddInv 1 n m ((lb n 0 + lb m 0 + c) % 18446744073709551616) x1 x2 x3 ((lb n 0 + lb m 0 + c) / 18446744073709551616) := by
  unfold AddInv Lim val lb at *
  simp only [Nat.mul_zero, Nat.pow_zero, Nat.div_one, Nat.reduceMul, Nat.reducePow] at *
  omega
theorem addStep1 (n m : Nat) (x0 x1 x2 x3 c : Int) (h : AddInv 1 n m x0 x1 x2 x3 c) :
    AddInv 2 n m x0 ((lb n 1 + lb m 1 + c) % 18446744073709551616) x2 x3 ((lb n 1 + lb m 1 + c) / 18446744073709551616) := by
  unfold AddInv Lim val lb at *
  simp only [Nat.mul_zero, Nat.pow_zero, Nat.div_one, Nat.reduceMul, Nat.reducePow] at *
  omega
theorem addStep2 (n m : Nat) (x0 x1 x2 x3 c : Int) (h : AddInv 2 n m x0 x1 x2 x3 c) :
    AddInv 3 n m x0 x1 ((lb n 2 + lb m 2 + c) % 18446744073709551616) x3 ((lb n 2 + lb m 2 + c) / 18446744073709551616) := by
  unfold AddInv Lim val lb at *
  simp only [Nat.mul_zero, Nat.pow_zero, Nat.div_one, Nat.reduceMul, Nat.reducePow] at *
  omega
theorem addStep3 (n m : Nat) (x0 x1 x2 x3 c : Int) (h : AddInv 3 n m x0 x1 x2 x3 c) :
    AddInv 4 n m x0 x1 x2 ((lb n 3 + lb m 3 + c) % 18446744073709551616) ((lb n 3 + lb m 3 + c) / 18446744073709551616) := by
  unfold AddInv Lim val lb at *
  simp only [Nat.mul_zero, Nat.pow_zero, Nat.div_one, Nat.reduceMul, Nat.reducePow] at *
  omega
theorem addEnd (n m : Nat) (hn : n < M256) (hm : m < M256) (x0 x1 x2 x3 c : Int) (h : AddInv 4 n m x0 x1 x2 x3 c) :
    (c = 0 ∧ n + m < M256 ∧ x0 = lb (n + m) 0 ∧ x1 = lb (n + m) 1 ∧ x2 = lb (n + m) 2 ∧ x3 = lb (n + m) 3) ∨ (c = 1 ∧ ¬ n + m < M256) := by
  unfold AddInv at h
  obtain ⟨hl, c0, c1, _, _, _, _, hv⟩ := h
  have := val_nonneg _ _ _ _ hl
  simp only [Nat.reduceMul, Nat.reducePow] at hv
  by_cases e : c = 0
  · left
    subst e
    have hlt : n + m < M256 := by unfold M256 at *; omega
    exact ⟨rfl, hlt, lb_of (n + m) _ _ _ _ hl (by unfold M256 at *; omega)⟩
  · right
    exact ⟨by omega, by unfold M256 at *; omega⟩
/-- What the page's own two tests make of a limb. -/
theorem refLimb (a b c : Int) (ha : 0 ≤ a ∧ a < 18446744073709551616) (hb : 0 ≤ b ∧ b < 18446744073709551616) (hc : 0 ≤ c ∧ c ≤ 1) :
    IntKind.u64.wrap (IntKind.u64.wrap (a + b) + c) = (a + b + c) % 18446744073709551616 ∧
    (IntKind.u64.wrap (a + b) < a → 1 = (a + b + c) / 18446744073709551616) ∧
    (IntKind.u64.wrap (IntKind.u64.wrap (a + b) + c) < IntKind.u64.wrap (a + b) → 1 = (a + b + c) / 18446744073709551616) ∧
    (a ≤ IntKind.u64.wrap (a + b) → IntKind.u64.wrap (a + b) ≤ IntKind.u64.wrap (IntKind.u64.wrap (a + b) + c) → 0 = (a + b + c) / 18446744073709551616) := by
  simp only [IntKind.wrap_u64]; omega
theorem lb_bd (n i : Nat) : 0 ≤ lb n i ∧ lb n i < 18446744073709551616 := by unfold lb; omega
theorem addInv_c {k n m : Nat} {x0 x1 x2 x3 c : Int} (h : AddInv k n m x0 x1 x2 x3 c) : 0 ≤ c ∧ c ≤ 1 := ⟨h.2.1, h.2.2.1⟩

end Go.Proofs.Ytliaegnhnnnojaa

import Derived.Test.YtliaegnhnnnojaaAddM
set_option linter.unusedSimpArgs false
set_option linter.unusedVariables false
namespace Go.Proofs.Ytliaegnhnnnojaa
open Go.RowKit

/-! The plain arithmetic of differences. -/
def lo64 (x : Int) : Int := x % 18446744073709551616
def hi64 (x : Int) : Int := x / 18446744073709551616
def bor (x y c : Int) : Int := if x < y + c then 1 else 0
def SubInv (k n m : Nat) (x0 x1 x2 x3 c : Int) : Prop :=
  Lim x0 x1 x2 x3 ∧ 0 ≤ c ∧ c ≤ 1 ∧ (k ≤ 0 → x0 = 0) ∧ (k ≤ 1 → x1 = 0) ∧ (k ≤ 2 → x2 = 0) ∧ (k ≤ 3 → x3 = 0) ∧
    val x0 x1 x2 x3 - c * ((2 ^ (64 * k) : Nat) : Int) = ((n % 2 ^ (64 * k) : Nat) : Int) - ((m % 2 ^ (64 * k) : Nat) : Int)
def addOkE (n m : Nat) : Int := if n + m < M256 then 0 else 8
def subOkE (n m : Nat) : Int := if m ≤ n then 0 else 8
def subOk (n m : Nat) : Bool := decide (m ≤ n)
def subV (n m : Nat) : Nat := if m ≤ n then n - m else 0
theorem subInv0 (n m : Nat) : SubInv 0 n m 0 0 0 0 0 := by
  unfold SubInv Lim val; simp
theorem subInv_c {k n m : Nat} {x0 x1 x2 x3 c : Int} (h : SubInv k n m x0 x1 x2 x3 c) : 0 ≤ c ∧ c ≤ 1 := ⟨h.2.1, h.2.2.1⟩
theorem subStep0 (n m : Nat) (x0 x1 x2 x3 c : Int) (h : SubInv 0 n m x0 x1 x2 x3 c) :
    SubInv 1 n m (lo64 (lb n 0 - lb m 0 - c)) x1 x2 x3 (bor (lb n 0) (lb m 0) c) := by
  unfold SubInv Lim val lb lo64 bor at *
  simp only [Nat.mul_zero, Nat.pow_zero, Nat.div_one, Nat.reduceMul, Nat.reducePow] at *
  split <;> omega
theorem subStep1 (n m : Nat) (x0 x1 x2 x3 c : Int) (h : SubInv 1 n m x0 x1 x2 x3 c) :
    SubInv 2 n m x0 (lo64 (lb n 1 - lb m 1 - c)) x2 x3 (bor (lb n 1) (lb m 1) c) := by
  unfold SubInv Lim val lb lo64 bor at *
  simp only [Nat.mul_zero, Nat.pow_zero, Nat.div_one, Nat.reduceMul, Nat.reducePow] at *
  split <;> omega
theorem subStep2 (n m : Nat) (x0 x1 x2 x3 c : Int) (h : SubInv 2 n m x0 x1 x2 x3 c) :
    SubInv 3 n m x0 x1 (lo64 (lb n 2 - lb m 2 - c)) x3 (bor (lb n 2) (lb m 2) c) := by
  unfold SubInv Lim val lb lo64 bor at *
  simp only [Nat.mul_zero, Nat.pow_zero, Nat.div_one, Nat.reduceMul, Nat.reducePow] at *
  split <;> omega
theorem subStep3 (n m : Nat) (x0 x1 x2 x3 c : Int) (h : SubInv 3 n m x0 x1 x2 x3 c) :
    SubInv 4 n m x0 x1 x2 (lo64 (lb n 3 - lb m 3 - c)) (bor (lb n 3) (lb m 3) c) := by
  unfold SubInv Lim val lb lo64 bor at *
  simp only [Nat.mul_zero, Nat.pow_zero, Nat.div_one, Nat.reduceMul, Nat.reducePow] at *
  split <;> omega
theorem subEnd (n m : Nat) (hn : n < M256) (hm : m < M256) (x0 x1 x2 x3 c : Int) (h : SubInv 4 n m x0 x1 x2 x3 c) :
    (c = 0 ∧ m ≤ n ∧ x0 = lb (n - m) 0 ∧ x1 = lb (n - m) 1 ∧ x2 = lb (n - m) 2 ∧ x3 = lb (n - m) 3) ∨ (c = 1 ∧ ¬ m ≤ n) := by
  unfold SubInv at h
  obtain ⟨hl, c0, c1, _, _, _, _, hv⟩ := h
  have := val_nonneg _ _ _ _ hl
  simp only [Nat.reduceMul, Nat.reducePow] at hv
  by_cases e : c = 0
  · left
    subst e
    have hlt : m ≤ n := by unfold M256 at *; omega
    exact ⟨rfl, hlt, lb_of (n - m) _ _ _ _ hl (by unfold M256 at *; omega)⟩
  · right
    exact ⟨by omega, by unfold M256 at *; omega⟩
/-- What the page's own two tests make of a limb. -/
theorem refLimbS (a b c : Int) (ha : 0 ≤ a ∧ a < 18446744073709551616) (hb : 0 ≤ b ∧ b < 18446744073709551616) (hc : 0 ≤ c ∧ c ≤ 1) :
    IntKind.u64.wrap (IntKind.u64.wrap (a - b) - c) = lo64 (a - b - c) ∧
    (a < b → 1 = bor a b c) ∧
    (IntKind.u64.wrap (a - b) < c → 1 = bor a b c) ∧
    (b ≤ a → c ≤ IntKind.u64.wrap (a - b) → 0 = bor a b c) := by
  unfold lo64 bor
  simp only [IntKind.wrap_u64]
  refine ⟨by omega, ?_, ?_, ?_⟩ <;> intros <;> split <;> omega
def cmpV (n m : Nat) : Int := if n < m then -1 else if n = m then 0 else 1
/-- The limbs from k on are alike. -/
def Alk (k n m : Nat) : Prop := (k ≤ 0 → lb n 0 = lb m 0) ∧ (k ≤ 1 → lb n 1 = lb m 1) ∧ (k ≤ 2 → lb n 2 = lb m 2) ∧ (k ≤ 3 → lb n 3 = lb m 3)
theorem alk4 (n m : Nat) : Alk 4 n m := by unfold Alk; omega
theorem alkStep {k n m : Nat} (hk : k < 4) (h : Alk (k + 1) n m) (h1 : lb n k ≤ lb m k) (h2 : lb m k ≤ lb n k) : Alk k n m := by
  have : k = 0 ∨ k = 1 ∨ k = 2 ∨ k = 3 := by omega
  rcases this with rfl | rfl | rfl | rfl <;> unfold Alk at * <;> omega
theorem alkLess {k n m : Nat} (hn : n < M256) (hm : m < M256) (hk : k < 4) (h : Alk (k + 1) n m) (h1 : lb n k < lb m k) : n < m := by
  have a := lb_val n hn
  have b := lb_val m hm
  have c := lb_lim n
  have d := lb_lim m
  have : k = 0 ∨ k = 1 ∨ k = 2 ∨ k = 3 := by omega
  unfold val at a b; unfold Lim at c d; unfold Alk at h
  rcases this with rfl | rfl | rfl | rfl <;> omega
theorem alkMore {k n m : Nat} (hn : n < M256) (hm : m < M256) (hk : k < 4) (h : Alk (k + 1) n m) (h1 : lb m k < lb n k) : m < n := by
  have a := lb_val n hn
  have b := lb_val m hm
  have c := lb_lim n
  have d := lb_lim m
  have : k = 0 ∨ k = 1 ∨ k = 2 ∨ k = 3 := by omega
  unfold val at a b; unfold Lim at c d; unfold Alk at h
  rcases this with rfl | rfl | rfl | rfl <;> omega
theorem alkSame {n m : Nat} (hn : n < M256) (hm : m < M256) (h : Alk 0 n m) : n = m := by
  have a := lb_val n hn
  have b := lb_val m hm
  unfold val at a b; unfold Alk at h
  omega
theorem cmpV_less {n m : Nat} (h : n < m) : cmpV n m = -1 := by unfold cmpV; rw [if_pos h]
theorem cmpV_more {n m : Nat} (h : m < n) : cmpV n m = 1 := by unfold cmpV; rw [if_neg (by omega), if_neg (by omega)]
theorem cmpV_same (n : Nat) : cmpV n n = 0 := by unfold cmpV; rw [if_neg (by omega), if_pos rfl]
end Go.Proofs.Ytliaegnhnnnojaa

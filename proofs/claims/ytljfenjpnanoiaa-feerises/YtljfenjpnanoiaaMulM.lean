import Derived.Test.YtljfenjpnanoiaaMul64
import Derived.Test.YtljfenjpnanoiaaBits
set_option linter.unusedSimpArgs false
set_option linter.unusedVariables false
namespace Go.Proofs.Ytljfenjpnanoiaa
open Go.RowKit

/-! The plain arithmetic of products, limb by limb. -/
def mulV (n m : Nat) : Nat := if n * m < M256 then n * m else 0
def mulOk (n m : Nat) : Bool := decide (n * m < M256)
def mulOkE (n m : Nat) : Int := if n * m < M256 then 0 else 8
def q64 (i : Nat) : Nat := 2 ^ (64 * i)
theorem q64_pos (i : Nat) : 0 < q64 i := Nat.two_pow_pos _
theorem q64_succ (i : Nat) : q64 (i + 1) = q64 i * 18446744073709551616 := by
  unfold q64; rw [Nat.mul_add, Nat.pow_add]
theorem q64_add (i j : Nat) : q64 (i + j) = q64 i * q64 j := by
  unfold q64; rw [Nat.mul_add, Nat.pow_add]
theorem q64_4 : q64 4 = M256 := by decide
theorem q64_0 : q64 0 = 1 := rfl
theorem lb_nat (n i : Nat) : lb n i = ((n / q64 i % 18446744073709551616 : Nat) : Int) := rfl
theorem mod_succ (n i : Nat) : n % q64 (i + 1) = n % q64 i + n / q64 i % 18446744073709551616 * q64 i := by
  rw [q64_succ, Nat.mod_mul, Nat.mul_comm (q64 i)]
/-- One limb, another one. -/
theorem set_limb (P p : Nat) (v : Int) (hp : p < 4) (hv : 0 ≤ v ∧ v < 18446744073709551616) (hP : P < M256) :
    ∃ P' : Nat, P' < M256 ∧ (A4 (lb P 0) (lb P 1) (lb P 2) (lb P 3)).setIfInBounds p (.int .u64 v) = A4 (lb P' 0) (lb P' 1) (lb P' 2) (lb P' 3) ∧ (P' : Int) = P + (v - lb P p) * (q64 p : Nat) := by
  have hl := lb_lim P
  have hv2 := lb_val P hP
  have : p = 0 ∨ p = 1 ∨ p = 2 ∨ p = 3 := by omega
  have key : ∀ x0 x1 x2 x3 : Int, Lim x0 x1 x2 x3 → val x0 x1 x2 x3 = P + (v - lb P p) * (q64 p : Nat) → (A4 (lb P 0) (lb P 1) (lb P 2) (lb P 3)).setIfInBounds p (.int .u64 v) = A4 x0 x1 x2 x3 → ∃ P' : Nat, P' < M256 ∧ (A4 (lb P 0) (lb P 1) (lb P 2) (lb P 3)).setIfInBounds p (.int .u64 v) = A4 (lb P' 0) (lb P' 1) (lb P' 2) (lb P' 3) ∧ (P' : Int) = P + (v - lb P p) * (q64 p : Nat) := by
    intro x0 x1 x2 x3 h1 h2 h3
    obtain ⟨P', hP', hV, hval⟩ := V_of x0 x1 x2 x3 h1
    refine ⟨P', hP', ?_, by rw [← h2, hval]⟩
    rw [h3]
    simpa [V] using hV
  unfold Lim at hl
  rcases this with rfl | rfl | rfl | rfl
  · refine key v (lb P 1) (lb P 2) (lb P 3) (by unfold Lim; omega) ?_ rfl
    unfold val at *; unfold q64; simp only [Nat.mul_zero, Nat.pow_zero]; omega
  · refine key (lb P 0) v (lb P 2) (lb P 3) (by unfold Lim; omega) ?_ rfl
    unfold val at *; unfold q64; simp only [Nat.reduceMul, Nat.reducePow]; omega
  · refine key (lb P 0) (lb P 1) v (lb P 3) (by unfold Lim; omega) ?_ rfl
    unfold val at *; unfold q64; simp only [Nat.reduceMul, Nat.reducePow]; omega
  · refine key (lb P 0) (lb P 1) (lb P 2) v (by unfold Lim; omega) ?_ rfl
    unfold val at *; unfold q64; simp only [Nat.reduceMul, Nat.reducePow]; omega
/-- What stands when j limbs of the row are done: P the product's limbs, c what is carried. -/
def Row (i j n m P : Nat) (c : Int) : Prop :=
  P < M256 ∧ 0 ≤ c ∧ c < 18446744073709551616 ∧
  ∃ jj, jj ≤ j ∧ i + jj ≤ 4 ∧ (i + j ≤ 4 → jj = j) ∧ (4 ≤ i + j → i + jj = 4) ∧ m % q64 j = m % q64 jj ∧
    (P : Int) + c * (q64 (i + jj) : Nat) = ((n % q64 i * m + n / q64 i % 18446744073709551616 * (m % q64 jj) * q64 i : Nat) : Int)
theorem row_start (i n m P : Nat) (hi : i < 4) (hP : P < M256) (h : P = n % q64 i * m) : Row i 0 n m P 0 := by
  refine ⟨hP, by omega, by omega, 0, by omega, by omega, fun _ => rfl, fun h => by omega, rfl, ?_⟩
  rw [q64_0, Nat.mod_one, h]; simp
theorem row_step (i j n m P : Nat) (c : Int) (hij : i + j < 4) (h : Row i j n m P c) :
    ∃ P', (A4 (lb P 0) (lb P 1) (lb P 2) (lb P 3)).setIfInBounds (i + j) (.int .u64 (lo64 (lb n i * lb m j + lb P (i + j) + c))) = A4 (lb P' 0) (lb P' 1) (lb P' 2) (lb P' 3) ∧ Row i (j + 1) n m P' (hi64 (lb n i * lb m j + lb P (i + j) + c)) := by
  obtain ⟨hP, c0, c1, jj, h1, h2, h3, h4, h5, h6⟩ := h
  have ej : jj = j := h3 (by omega)
  subst ej
  obtain ⟨P', hP', hset, hval⟩ := set_limb P (i + jj) (lo64 (lb n i * lb m jj + lb P (i + jj) + c)) hij (lo_bd _) hP
  refine ⟨P', hset, hP', ?_, ?_, jj + 1, by omega, by omega, fun _ => rfl, fun _ => by omega, rfl, ?_⟩
  · have hx := lb_bd n i; have hy := lb_bd m jj; have hz := lb_bd P (i + jj)
    have : 0 ≤ lb n i * lb m jj := Int.mul_nonneg hx.1 hy.1
    unfold hi64; omega
  · have hx := lb_bd n i; have hy := lb_bd m jj; have hz := lb_bd P (i + jj)
    have h8 : lb n i * lb m jj ≤ 18446744073709551615 * lb m jj := Int.mul_le_mul_of_nonneg_right (by omega) hy.1
    unfold hi64; omega
  · rw [hval, show i + (jj + 1) = i + jj + 1 by omega, q64_succ, mod_succ m jj]
    have hT : lo64 (lb n i * lb m jj + lb P (i + jj) + c) + hi64 (lb n i * lb m jj + lb P (i + jj) + c) * 18446744073709551616 = lb n i * lb m jj + lb P (i + jj) + c := by unfold lo64 hi64; omega
    generalize lo64 (lb n i * lb m jj + lb P (i + jj) + c) = lo at *
    generalize hi64 (lb n i * lb m jj + lb P (i + jj) + c) = hi at *
    generalize lb P (i + jj) = L at *
    have hab : lb n i * lb m jj = ((n / q64 i % 18446744073709551616 * (m / q64 jj % 18446744073709551616) : Nat) : Int) := by rw [lb_nat, lb_nat, ← Int.natCast_mul]
    rw [hab] at hT
    generalize hA : n / q64 i % 18446744073709551616 = a at *
    generalize hB : m / q64 jj % 18446744073709551616 = b at *
    have hq := q64_add i jj
    have e1 : a * (m % q64 jj + b * q64 jj) * q64 i = a * (m % q64 jj) * q64 i + a * b * q64 (i + jj) := by
      rw [hq, Nat.mul_add, Nat.add_mul, Nat.mul_assoc a b, Nat.mul_comm (q64 i), Nat.mul_assoc a (b * q64 jj), Nat.mul_assoc b, Nat.mul_assoc a]
    rw [e1, ← Nat.add_assoc]
    generalize n % q64 i * m + a * (m % q64 jj) * q64 i = Z at *
    generalize q64 (i + jj) = q at *
    have hTq := congrArg (· * (q : Int)) hT
    simp only [Int.add_mul] at hTq
    have e2 : hi * ((q * 18446744073709551616 : Nat) : Int) = hi * 18446744073709551616 * q := by rw [Int.natCast_mul, Int.mul_comm (q : Int), ← Int.mul_assoc]; rfl
    have e3 : ((Z + a * b * q : Nat) : Int) = Z + ((a * b : Nat) : Int) * q := by rw [Int.natCast_add, Int.natCast_mul (a * b)]
    rw [e2, e3, Int.sub_mul]
    generalize lo * (q : Int) = z1 at *
    generalize hi * 18446744073709551616 * (q : Int) = z2 at *
    generalize ((a * b : Nat) : Int) * (q : Int) = z3 at *
    generalize L * (q : Int) = z4 at *
    generalize c * (q : Int) = z5 at *
    omega
theorem row_skip (i j n m P : Nat) (c : Int) (hij : 4 ≤ i + j) (h : Row i j n m P c) (h0 : lb m j = 0) : Row i (j + 1) n m P c := by
  obtain ⟨hP, c0, c1, jj, h1, h2, h3, h4, h5, h6⟩ := h
  refine ⟨hP, c0, c1, jj, by omega, h2, fun h => by omega, fun _ => h4 hij, ?_, h6⟩
  rw [mod_succ m j]
  rw [lb_nat] at h0
  have : m / q64 j % 18446744073709551616 = 0 := by omega
  rw [this, Nat.zero_mul, Nat.add_zero, h5]
theorem row_end (i n m P : Nat) (c : Int) (hi : i < 4) (hm : m < M256) (h : Row i 4 n m P c) :
    (c = 0 → P = n % q64 (i + 1) * m ∧ P < M256) ∧ (c ≠ 0 → ¬ n * m < M256) := by
  obtain ⟨hP, c0, c1, jj, h1, h2, h3, h4, h5, h6⟩ := h
  have e4 := h4 (by omega)
  rw [e4, ← h5, q64_4, Nat.mod_eq_of_lt hm] at h6
  have e1 : n % q64 i * m + n / q64 i % 18446744073709551616 * m * q64 i = n % q64 (i + 1) * m := by
    rw [mod_succ, Nat.add_mul, Nat.mul_assoc, Nat.mul_comm m, ← Nat.mul_assoc]
  rw [e1] at h6
  constructor
  · intro hc
    subst hc
    have : P = n % q64 (i + 1) * m := by omega
    exact ⟨this, hP⟩
  · intro hc hlt
    have h7 : n % q64 (i + 1) * m ≤ n * m := Nat.mul_le_mul_right _ (Nat.mod_le _ _)
    have h8 : (M256 : Int) ≤ c * (M256 : Nat) := by
      have : (1 : Int) * (M256 : Nat) ≤ c * (M256 : Nat) := Int.mul_le_mul_of_nonneg_right (by omega) (by omega)
      omega
    omega
theorem row_over (i j n m : Nat) (hij : 4 ≤ i + j) (hx : lb n i ≠ 0) (hy : lb m j ≠ 0) : ¬ n * m < M256 := by
  have h1 : q64 i ≤ n := by
    apply Nat.le_of_not_lt
    intro h
    rw [lb_nat, Nat.div_eq_of_lt h] at hx
    simp at hx
  have h2 : q64 j ≤ m := by
    apply Nat.le_of_not_lt
    intro h
    rw [lb_nat, Nat.div_eq_of_lt h] at hy
    simp at hy
  have h3 : q64 i * q64 j ≤ n * m := Nat.mul_le_mul h1 h2
  rw [← q64_add] at h3
  have h4 : q64 4 ≤ q64 (i + j) := by unfold q64; exact Nat.pow_le_pow_right (by omega) (by omega)
  rw [q64_4] at h4
  omega
theorem row_zero (i n m : Nat) (hx : lb n i = 0) : n % q64 (i + 1) * m = n % q64 i * m := by
  rw [mod_succ]
  rw [lb_nat] at hx
  have : n / q64 i % 18446744073709551616 = 0 := by omega
  rw [this, Nat.zero_mul, Nat.add_zero]
theorem idx26 (n i : Nat) (hi : i < 4) (w : World) : (Instr.index 25 (.agg (A4 (lb n 0) (lb n 1) (lb n 2) (lb n 3))) (.int .i64 i)).run Try.prog w = .ok (.int .u64 (lb n i)) w := by
  have : i = 0 ∨ i = 1 ∨ i = 2 ∨ i = 3 := by omega
  rcases this with rfl | rfl | rfl | rfl <;> rfl
end Go.Proofs.Ytljfenjpnanoiaa

/- Texts joined: Carry Mul64 MulM RMulM Sls PCmp0. -/
import Derived.Test.YtapjonmgjccpbaaJ0
import Derived.Laws.Bits64b
import Derived.Test.YtapjonmgjccpbaaJ2
import Derived.Deep.RegionWith
import Derived.Deep.DeepCutAuto
section
set_option linter.unusedSimpArgs false
set_option linter.unusedVariables false
namespace Go.Proofs.Ytapjonmgjccpbaa
open Go.RowKit

/-! The model's own Add64. -/
theorem run38 (x y c : Int) (hc : 0 ≤ c ∧ c ≤ 1) (hx : 0 ≤ x) (hy : 0 ≤ y) (w : World) :
    (callFunc 110 #[.int .u64 x, .int .u64 y, .int .u64 c]).run Try.prog w =
      .ok (.value (.tuple #[.int .u64 (lo64 (x + y + c)), .int .u64 (hi64 (x + y + c))])) w := by
  rw [run_callFunc_extern Try.func110 (by kernel_rfl) (by kernel_rfl) (by kernel_rfl) (e := add64Entry) (by kernel_rfl), run_add64 x y c hx hy hc.1 hc.2]
  simp only [Result.andThen, lo64, hi64]
end Go.Proofs.Ytapjonmgjccpbaa
end
section
set_option linter.unusedSimpArgs false
set_option linter.unusedVariables false
namespace Go.Proofs.Ytapjonmgjccpbaa
open Go.RowKit

theorem and32 (x : Int) (h : 0 ≤ x ∧ x < 18446744073709551616) : Go.bits BinOp.and IntKind.u64 x 4294967295 = x % 4294967296 := by
  obtain ⟨X, rfl⟩ := Int.eq_ofNat_of_zero_le h.1
  have e := bits_and_u64_nat X 4294967295 (by omega) (by omega)
  have e2 : X &&& 4294967295 = X % 4294967296 := Nat.and_two_pow_sub_one_eq_mod X 32
  rw [e2] at e
  exact e.trans (by omega)
def hiE (x y : Int) : Int := (IntKind.u64.wrap
              (IntKind.u64.wrap
                  (IntKind.u64.wrap (x / 4294967296 * (y / 4294967296)) +
                    IntKind.u64.wrap
                        (IntKind.u64.wrap (x / 4294967296 * Go.bits BinOp.and IntKind.u64 y 4294967295) +
                          IntKind.u64.wrap
                              (Go.bits BinOp.and IntKind.u64 x 4294967295 * Go.bits BinOp.and IntKind.u64 y 4294967295) /
                            4294967296) /
                      4294967296) +
                IntKind.u64.wrap
                    (Go.bits BinOp.and IntKind.u64
                        (IntKind.u64.wrap
                          (IntKind.u64.wrap (x / 4294967296 * Go.bits BinOp.and IntKind.u64 y 4294967295) +
                            IntKind.u64.wrap
                                (Go.bits BinOp.and IntKind.u64 x 4294967295 * Go.bits BinOp.and IntKind.u64 y 4294967295) /
                              4294967296))
                        4294967295 +
                      IntKind.u64.wrap (Go.bits BinOp.and IntKind.u64 x 4294967295 * (y / 4294967296))) /
                  4294967296))
theorem mul_bd (a b : Int) (ha : 0 ≤ a ∧ a < 4294967296) (hb : 0 ≤ b ∧ b < 4294967296) : 0 ≤ a * b ∧ a * b ≤ 18446744065119617025 := by
  refine ⟨Int.mul_nonneg ha.1 hb.1, ?_⟩
  have h1 : a * b ≤ 4294967295 * b := Int.mul_le_mul_of_nonneg_right (by omega) hb.1
  omega
theorem hiE_eq (x y : Int) (hx : 0 ≤ x ∧ x < 18446744073709551616) (hy : 0 ≤ y ∧ y < 18446744073709551616) : hiE x y = hi64 (x * y) ∧ IntKind.u64.wrap (x * y) = lo64 (x * y) := by
  refine ⟨?_, by rw [IntKind.wrap_u64]; rfl⟩
  unfold hiE
  rw [and32 x hx, and32 y hy]
  have b1 : 0 ≤ x / 4294967296 ∧ x / 4294967296 < 4294967296 := by omega
  have b0 : 0 ≤ x % 4294967296 ∧ x % 4294967296 < 4294967296 := by omega
  have c1 : 0 ≤ y / 4294967296 ∧ y / 4294967296 < 4294967296 := by omega
  have c0 : 0 ≤ y % 4294967296 ∧ y % 4294967296 < 4294967296 := by omega
  have ex : x = x / 4294967296 * 4294967296 + x % 4294967296 := by omega
  have ey : y = y / 4294967296 * 4294967296 + y % 4294967296 := by omega
  have exy : x * y = x / 4294967296 * (y / 4294967296) * 18446744073709551616 + (x / 4294967296 * (y % 4294967296) + x % 4294967296 * (y / 4294967296)) * 4294967296 + x % 4294967296 * (y % 4294967296) := by
    generalize x / 4294967296 = x1 at *
    generalize x % 4294967296 = x0 at *
    generalize y / 4294967296 = y1 at *
    generalize y % 4294967296 = y0 at *
    subst ex ey
    have e1 : (x1 * 4294967296 + x0) * (y1 * 4294967296 + y0) = (x1 * 4294967296) * (y1 * 4294967296) + (x1 * 4294967296) * y0 + (x0 * (y1 * 4294967296) + x0 * y0) := by
      rw [Int.add_mul, Int.mul_add, Int.mul_add]
    have e2 : (x1 * 4294967296) * (y1 * 4294967296) = x1 * y1 * 18446744073709551616 := by
      rw [Int.mul_assoc, ← Int.mul_assoc 4294967296, Int.mul_comm 4294967296 y1, Int.mul_assoc y1, ← Int.mul_assoc]; rfl
    have e3 : (x1 * 4294967296) * y0 = x1 * y0 * 4294967296 := by rw [Int.mul_assoc, Int.mul_comm 4294967296, ← Int.mul_assoc]
    have e4 : x0 * (y1 * 4294967296) = x0 * y1 * 4294967296 := by rw [Int.mul_assoc]
    rw [e1, e2, e3, e4]
    omega
  have m11 := mul_bd _ _ b1 c1
  have m10 := mul_bd _ _ b1 c0
  have m01 := mul_bd _ _ b0 c1
  have m00 := mul_bd _ _ b0 c0
  rw [exy]
  clear exy ex ey
  generalize x / 4294967296 * (y / 4294967296) = p11 at *
  generalize x / 4294967296 * (y % 4294967296) = p10 at *
  generalize x % 4294967296 * (y / 4294967296) = p01 at *
  generalize x % 4294967296 * (y % 4294967296) = p00 at *
  clear b1 b0 c1 c0
  have w00 : IntKind.u64.wrap p00 = p00 := by rw [IntKind.wrap_u64]; omega
  have w10 : IntKind.u64.wrap p10 = p10 := by rw [IntKind.wrap_u64]; omega
  have w01 : IntKind.u64.wrap p01 = p01 := by rw [IntKind.wrap_u64]; omega
  have w11 : IntKind.u64.wrap p11 = p11 := by rw [IntKind.wrap_u64]; omega
  rw [w00, w10, w01, w11]
  have wt : IntKind.u64.wrap (p10 + p00 / 4294967296) = p10 + p00 / 4294967296 := by rw [IntKind.wrap_u64]; omega
  rw [wt, and32 _ (by omega)]
  unfold hi64
  simp only [IntKind.wrap_u64]
  omega
set_option maxHeartbeats 1000000 in
theorem mul64 (x y : Int) (hx : 0 ≤ x ∧ x < 18446744073709551616) (hy : 0 ≤ y ∧ y < 18446744073709551616) (w : World) :
    Calls Try.prog 122 #[.int .u64 x, .int .u64 y] w fun e w' => e = .returned (.tuple #[.int .u64 (hi64 (x * y)), .int .u64 (lo64 (x * y))]) ∧ w' = w := by
  have HE : Hid (hiE x y = hi64 (x * y) ∧ IntKind.u64.wrap (x * y) = lo64 (x * y)) := hiE_eq x y hx hy
  clear hx hy
  go_enter Try.func122, Try.ntmps122
  go_wp2
  go_ret2
  refine ⟨?_, rfl⟩
  rw [← HE.out.1, ← HE.out.2]
  rfl
theorem lo_bd (x : Int) : 0 ≤ lo64 x ∧ lo64 x < 18446744073709551616 := by unfold lo64; omega
set_option maxHeartbeats 1000000 in
theorem mulAdd (x y z c : Int) (hx : 0 ≤ x ∧ x < 18446744073709551616) (hy : 0 ≤ y ∧ y < 18446744073709551616) (hz : 0 ≤ z ∧ z < 18446744073709551616) (hc : 0 ≤ c ∧ c < 18446744073709551616) (w : World) :
    Calls Try.prog 109 #[.int .u64 x, .int .u64 y, .int .u64 z, .int .u64 c] w fun e w' => e = .returned (.tuple #[.int .u64 (lo64 (x * y + z + c)), .int .u64 (hi64 (x * y + z + c))]) ∧ w' = w := by
  have hp : 0 ≤ x * y ∧ x * y ≤ 340282366920938463426481119284349108225 := by
    refine ⟨Int.mul_nonneg hx.1 hy.1, ?_⟩
    have h1 : x * y ≤ 18446744073709551615 * y := Int.mul_le_mul_of_nonneg_right (by omega) hy.1
    omega
  have Hx : Hid (0 ≤ x ∧ x < 18446744073709551616) := hx
  have Hy : Hid (0 ≤ y ∧ y < 18446744073709551616) := hy
  have h1 := fun w => run38 (lo64 (x * y)) z 0 ⟨by omega, by omega⟩ (lo_bd _).1 hz.1 w
  have h2 := fun w => run38 (lo64 (lo64 (x * y) + z + 0)) c 0 ⟨by omega, by omega⟩ (lo_bd _).1 hc.1 w
  simp only [Int.add_zero] at h1 h2
  have HF : Hid (lo64 (lo64 (lo64 (x * y) + z) + c) = lo64 (x * y + z + c) ∧ IntKind.u64.wrap (IntKind.u64.wrap (hi64 (x * y) + hi64 (lo64 (x * y) + z)) + hi64 (lo64 (lo64 (x * y) + z) + c)) = hi64 (x * y + z + c)) := by
    generalize x * y = p at hp
    unfold lo64 hi64 Hid
    simp only [IntKind.wrap_u64]
    omega
  clear hx hy hz hc hp
  go_enter Try.func109, Try.ntmps109
  go_wp2_with (go_at_call 122; refine (mul64 x y Hx.out Hy.out _).mono ?_; rintro e w1 ⟨rfl, rfl⟩)
  go_ret2
  refine ⟨?_, rfl⟩
  rw [← HF.out.1, ← HF.out.2]
  rfl
end Go.Proofs.Ytapjonmgjccpbaa
end
section
set_option linter.unusedSimpArgs false
set_option linter.unusedVariables false
namespace Go.Proofs.Ytapjonmgjccpbaa
open Go.RowKit

/-! The plain arithmetic of products, limb by limb. -/
def mulV (n m : Nat) : Nat := if n * m < M256 then n * m else 0
def mulOk (n m : Nat) : Bool := decide (n * m < M256)
def mulOkE (n m : Nat) : Int := if n * m < M256 then 0 else 8
def q64 (i : Nat) : Nat := 2 ^ (64 * i)
theorem q64_pos (i : Nat) : 0 < q64 i := Nat.two_pow_pos _
theorem q64_succ (i : Nat) : q64 (i + 1) = q64 i * 18446744073709551616 := by
  unfold q64; rw [Nat.mul_add, Nat.pow_add]
theorem q64_add (i j : Nat) : q64 (i + j) = q64 i * q64 j := by
  unfold q64; rw [Nat.mul_add, Nat.pow_add]
theorem q64_4 : q64 4 = M256 := by decide
theorem q64_0 : q64 0 = 1 := rfl
theorem lb_nat (n i : Nat) : lb n i = ((n / q64 i % 18446744073709551616 : Nat) : Int) := rfl
theorem mod_succ (n i : Nat) : n % q64 (i + 1) = n % q64 i + n / q64 i % 18446744073709551616 * q64 i := by
  rw [q64_succ, Nat.mod_mul, Nat.mul_comm (q64 i)]
/-- One limb, another one. -/
theorem set_limb (P p : Nat) (v : Int) (hp : p < 4) (hv : 0 ≤ v ∧ v < 18446744073709551616) (hP : P < M256) :
    ∃ P' : Nat, P' < M256 ∧ (A4 (lb P 0) (lb P 1) (lb P 2) (lb P 3)).setIfInBounds p (.int .u64 v) = A4 (lb P' 0) (lb P' 1) (lb P' 2) (lb P' 3) ∧ (P' : Int) = P + (v - lb P p) * (q64 p : Nat) := by
  have hl := lb_lim P
  have hv2 := lb_val P hP
  have : p = 0 ∨ p = 1 ∨ p = 2 ∨ p = 3 := by omega
  have key : ∀ x0 x1 x2 x3 : Int, Lim x0 x1 x2 x3 → val x0 x1 x2 x3 = P + (v - lb P p) * (q64 p : Nat) → (A4 (lb P 0) (lb P 1) (lb P 2) (lb P 3)).setIfInBounds p (.int .u64 v) = A4 x0 x1 x2 x3 → ∃ P' : Nat, P' < M256 ∧ (A4 (lb P 0) (lb P 1) (lb P 2) (lb P 3)).setIfInBounds p (.int .u64 v) = A4 (lb P' 0) (lb P' 1) (lb P' 2) (lb P' 3) ∧ (P' : Int) = P + (v - lb P p) * (q64 p : Nat) := by
    intro x0 x1 x2 x3 h1 h2 h3
    obtain ⟨P', hP', hV, hval⟩ := V_of x0 x1 x2 x3 h1
    refine ⟨P', hP', ?_, by rw [← h2, hval]⟩
    rw [h3]
    simpa [V] using hV
  unfold Lim at hl
  rcases this with rfl | rfl | rfl | rfl
  · refine key v (lb P 1) (lb P 2) (lb P 3) (by unfold Lim; omega) ?_ rfl
    unfold val at *; unfold q64; simp only [Nat.mul_zero, Nat.pow_zero]; omega
  · refine key (lb P 0) v (lb P 2) (lb P 3) (by unfold Lim; omega) ?_ rfl
    unfold val at *; unfold q64; simp only [Nat.reduceMul, Nat.reducePow]; omega
  · refine key (lb P 0) (lb P 1) v (lb P 3) (by unfold Lim; omega) ?_ rfl
    unfold val at *; unfold q64; simp only [Nat.reduceMul, Nat.reducePow]; omega
  · refine key (lb P 0) (lb P 1) (lb P 2) v (by unfold Lim; omega) ?_ rfl
    unfold val at *; unfold q64; simp only [Nat.reduceMul, Nat.reducePow]; omega
/-- What stands when j limbs of the row are done: P the product's limbs, c what is carried. -/
def Row (i j n m P : Nat) (c : Int) : Prop :=
  P < M256 ∧ 0 ≤ c ∧ c < 18446744073709551616 ∧
  ∃ jj, jj ≤ j ∧ i + jj ≤ 4 ∧ (i + j ≤ 4 → jj = j) ∧ (4 ≤ i + j → i + jj = 4) ∧ m % q64 j = m % q64 jj ∧
    (P : Int) + c * (q64 (i + jj) : Nat) = ((n % q64 i * m + n / q64 i % 18446744073709551616 * (m % q64 jj) * q64 i : Nat) : Int)
theorem row_start (i n m P : Nat) (hi : i < 4) (hP : P < M256) (h : P = n % q64 i * m) : Row i 0 n m P 0 := by
  refine ⟨hP, by omega, by omega, 0, by omega, by omega, fun _ => rfl, fun h => by omega, rfl, ?_⟩
  rw [q64_0, Nat.mod_one, h]; simp
theorem row_step (i j n m P : Nat) (c : Int) (hij : i + j < 4) (h : Row i j n m P c) :
    ∃ P', (A4 (lb P 0) (lb P 1) (lb P 2) (lb P 3)).setIfInBounds (i + j) (.int .u64 (lo64 (lb n i * lb m j + lb P (i + j) + c))) = A4 (lb P' 0) (lb P' 1) (lb P' 2) (lb P' 3) ∧ Row i (j + 1) n m P' (hi64 (lb n i * lb m j + lb P (i + j) + c)) := by
  obtain ⟨hP, c0, c1, jj, h1, h2, h3, h4, h5, h6⟩ := h
  have ej : jj = j := h3 (by omega)
  subst ej
  obtain ⟨P', hP', hset, hval⟩ := set_limb P (i + jj) (lo64 (lb n i * lb m jj + lb P (i + jj) + c)) hij (lo_bd _) hP
  refine ⟨P', hset, hP', ?_, ?_, jj + 1, by omega, by omega, fun _ => rfl, fun _ => by omega, rfl, ?_⟩
  · have hx := lb_bd n i; have hy := lb_bd m jj; have hz := lb_bd P (i + jj)
    have : 0 ≤ lb n i * lb m jj := Int.mul_nonneg hx.1 hy.1
    unfold hi64; omega
  · have hx := lb_bd n i; have hy := lb_bd m jj; have hz := lb_bd P (i + jj)
    have h8 : lb n i * lb m jj ≤ 18446744073709551615 * lb m jj := Int.mul_le_mul_of_nonneg_right (by omega) hy.1
    unfold hi64; omega
  · rw [hval, show i + (jj + 1) = i + jj + 1 by omega, q64_succ, mod_succ m jj]
    have hT : lo64 (lb n i * lb m jj + lb P (i + jj) + c) + hi64 (lb n i * lb m jj + lb P (i + jj) + c) * 18446744073709551616 = lb n i * lb m jj + lb P (i + jj) + c := by unfold lo64 hi64; omega
    generalize lo64 (lb n i * lb m jj + lb P (i + jj) + c) = lo at *
    generalize hi64 (lb n i * lb m jj + lb P (i + jj) + c) = hi at *
    generalize lb P (i + jj) = L at *
    have hab : lb n i * lb m jj = ((n / q64 i % 18446744073709551616 * (m / q64 jj % 18446744073709551616) : Nat) : Int) := by rw [lb_nat, lb_nat, ← Int.natCast_mul]
    rw [hab] at hT
    generalize hA : n / q64 i % 18446744073709551616 = a at *
    generalize hB : m / q64 jj % 18446744073709551616 = b at *
    have hq := q64_add i jj
    have e1 : a * (m % q64 jj + b * q64 jj) * q64 i = a * (m % q64 jj) * q64 i + a * b * q64 (i + jj) := by
      rw [hq, Nat.mul_add, Nat.add_mul, Nat.mul_assoc a b, Nat.mul_comm (q64 i), Nat.mul_assoc a (b * q64 jj), Nat.mul_assoc b, Nat.mul_assoc a]
    rw [e1, ← Nat.add_assoc]
    generalize n % q64 i * m + a * (m % q64 jj) * q64 i = Z at *
    generalize q64 (i + jj) = q at *
    have hTq := congrArg (· * (q : Int)) hT
    simp only [Int.add_mul] at hTq
    have e2 : hi * ((q * 18446744073709551616 : Nat) : Int) = hi * 18446744073709551616 * q := by rw [Int.natCast_mul, Int.mul_comm (q : Int), ← Int.mul_assoc]; rfl
    have e3 : ((Z + a * b * q : Nat) : Int) = Z + ((a * b : Nat) : Int) * q := by rw [Int.natCast_add, Int.natCast_mul (a * b)]
    rw [e2, e3, Int.sub_mul]
    generalize lo * (q : Int) = z1 at *
    generalize hi * 18446744073709551616 * (q : Int) = z2 at *
    generalize ((a * b : Nat) : Int) * (q : Int) = z3 at *
    generalize L * (q : Int) = z4 at *
    generalize c * (q : Int) = z5 at *
    omega
theorem row_skip (i j n m P : Nat) (c : Int) (hij : 4 ≤ i + j) (h : Row i j n m P c) (h0 : lb m j = 0) : Row i (j + 1) n m P c := by
  obtain ⟨hP, c0, c1, jj, h1, h2, h3, h4, h5, h6⟩ := h
  refine ⟨hP, c0, c1, jj, by omega, h2, fun h => by omega, fun _ => h4 hij, ?_, h6⟩
  rw [mod_succ m j]
  rw [lb_nat] at h0
  have : m / q64 j % 18446744073709551616 = 0 := by omega
  rw [this, Nat.zero_mul, Nat.add_zero, h5]
theorem row_end (i n m P : Nat) (c : Int) (hi : i < 4) (hm : m < M256) (h : Row i 4 n m P c) :
    (c = 0 → P = n % q64 (i + 1) * m ∧ P < M256) ∧ (c ≠ 0 → ¬ n * m < M256) := by
  obtain ⟨hP, c0, c1, jj, h1, h2, h3, h4, h5, h6⟩ := h
  have e4 := h4 (by omega)
  rw [e4, ← h5, q64_4, Nat.mod_eq_of_lt hm] at h6
  have e1 : n % q64 i * m + n / q64 i % 18446744073709551616 * m * q64 i = n % q64 (i + 1) * m := by
    rw [mod_succ, Nat.add_mul, Nat.mul_assoc, Nat.mul_comm m, ← Nat.mul_assoc]
  rw [e1] at h6
  constructor
  · intro hc
    subst hc
    have : P = n % q64 (i + 1) * m := by omega
    exact ⟨this, hP⟩
  · intro hc hlt
    have h7 : n % q64 (i + 1) * m ≤ n * m := Nat.mul_le_mul_right _ (Nat.mod_le _ _)
    have h8 : (M256 : Int) ≤ c * (M256 : Nat) := by
      have : (1 : Int) * (M256 : Nat) ≤ c * (M256 : Nat) := Int.mul_le_mul_of_nonneg_right (by omega) (by omega)
      omega
    omega
theorem row_over (i j n m : Nat) (hij : 4 ≤ i + j) (hx : lb n i ≠ 0) (hy : lb m j ≠ 0) : ¬ n * m < M256 := by
  have h1 : q64 i ≤ n := by
    apply Nat.le_of_not_lt
    intro h
    rw [lb_nat, Nat.div_eq_of_lt h] at hx
    simp at hx
  have h2 : q64 j ≤ m := by
    apply Nat.le_of_not_lt
    intro h
    rw [lb_nat, Nat.div_eq_of_lt h] at hy
    simp at hy
  have h3 : q64 i * q64 j ≤ n * m := Nat.mul_le_mul h1 h2
  rw [← q64_add] at h3
  have h4 : q64 4 ≤ q64 (i + j) := by unfold q64; exact Nat.pow_le_pow_right (by omega) (by omega)
  rw [q64_4] at h4
  omega
theorem row_zero (i n m : Nat) (hx : lb n i = 0) : n % q64 (i + 1) * m = n % q64 i * m := by
  rw [mod_succ]
  rw [lb_nat] at hx
  have : n / q64 i % 18446744073709551616 = 0 := by omega
  rw [this, Nat.zero_mul, Nat.add_zero]
set_option maxRecDepth 100000 in
theorem idx26 (n i : Nat) (hi : i < 4) (w : World) : (Instr.index 26 (.agg (A4 (lb n 0) (lb n 1) (lb n 2) (lb n 3))) (.int .i64 i)).run Try.prog w = .ok (.int .u64 (lb n i)) w := by
  have : i = 0 ∨ i = 1 ∨ i = 2 ∨ i = 3 := by omega
  rcases this with rfl | rfl | rfl | rfl <;> rfl
end Go.Proofs.Ytapjonmgjccpbaa
end
section
set_option linter.unusedSimpArgs false
set_option linter.unusedVariables false
namespace Go.Proofs.Ytapjonmgjccpbaa
open Go.RowKit

/-! The page's own products: digits of 32 bits. -/
def d32 (i : Nat) : Nat := 2 ^ (32 * i)
theorem d32_pos (i : Nat) : 0 < d32 i := Nat.two_pow_pos _
theorem d32_succ (i : Nat) : d32 (i + 1) = d32 i * 4294967296 := by unfold d32; rw [Nat.mul_add, Nat.pow_add]
theorem d32_add (i j : Nat) : d32 (i + j) = d32 i * d32 j := by unfold d32; rw [Nat.mul_add, Nat.pow_add]
theorem d32_8 : d32 8 = M256 := by decide
def dg (n i : Nat) : Nat := n / d32 i % 4294967296
theorem dg_lt (n i : Nat) : dg n i < 4294967296 := Nat.mod_lt _ (by omega)
theorem dmod_succ (n i : Nat) : n % d32 (i + 1) = n % d32 i + dg n i * d32 i := by
  unfold dg; rw [d32_succ, Nat.mod_mul, Nat.mul_comm (d32 i)]
/-- The number of some digits, the lowest first. -/
def valD : List Nat → Nat
  | [] => 0
  | d :: t => d + 4294967296 * valD t
theorem valD_set (L : List Nat) (p v : Nat) (hp : p < L.length) : valD (L.set p v) + L[p] * d32 p = valD L + v * d32 p := by
  induction L generalizing p with
  | nil => simp at hp
  | cons d t ih =>
    cases p with
    | zero => simp [valD, d32]; omega
    | succ p =>
      have hp' : p < t.length := by simpa using hp
      have := ih p hp'
      simp only [List.set_cons_succ, valD, List.getElem_cons_succ, d32_succ]
      have e1 : t[p] * (d32 p * 4294967296) = 4294967296 * (t[p] * d32 p) := by rw [← Nat.mul_assoc, Nat.mul_comm]
      have e2 : v * (d32 p * 4294967296) = 4294967296 * (v * d32 p) := by rw [← Nat.mul_assoc, Nat.mul_comm]
      rw [e1, e2]
      omega
theorem valD_ge (L : List Nat) (p : Nat) (hp : p < L.length) : L[p] * d32 p ≤ valD L := by
  have := valD_set L p 0 hp
  omega
theorem valD_take (L : List Nat) (p : Nat) (hp : p < L.length) : valD (L.take (p + 1)) = valD (L.take p) + L[p] * d32 p := by
  induction L generalizing p with
  | nil => simp at hp
  | cons d t ih =>
    cases p with
    | zero => simp [valD, d32]
    | succ p =>
      have hp' : p < t.length := by simpa using hp
      have := ih p hp'
      simp only [List.take_succ_cons, valD, List.getElem_cons_succ, d32_succ]
      rw [this]
      have e1 : t[p] * (d32 p * 4294967296) = 4294967296 * (t[p] * d32 p) := by rw [← Nat.mul_assoc, Nat.mul_comm]
      rw [e1]
      omega
theorem valD_zero (L : List Nat) (h : ∀ d ∈ L, d = 0) : valD L = 0 := by
  induction L with
  | nil => rfl
  | cons d t ih =>
    have h1 := h d (by simp)
    have h2 := ih (fun x hx => h x (by simp [hx]))
    simp [valD, h1, h2]
theorem valD_append (a b : List Nat) : valD (a ++ b) = valD a + d32 a.length * valD b := by
  induction a with
  | nil => simp [valD, d32]
  | cons d t ih =>
    simp only [List.cons_append, valD, ih, List.length_cons, d32_succ]
    rw [Nat.mul_add, ← Nat.mul_assoc, Nat.mul_comm 4294967296 (d32 t.length)]
    omega
theorem valD_lt (L : List Nat) (h : ∀ d ∈ L, d < 4294967296) : valD L < d32 L.length := by
  induction L with
  | nil => simp [valD, d32]
  | cons d t ih =>
    have h1 := h d (by simp)
    have h2 := ih (fun x hx => h x (by simp [hx]))
    simp only [valD, List.length_cons, d32_succ]
    omega
/-- What stands when k digits of the i-th row are done. -/
def RRow (i k n m : Nat) (L : List Nat) (c : Nat) : Prop :=
  L.length = 16 ∧ (∀ d ∈ L, d < 4294967296) ∧ (∀ p (h : p < L.length), i + 8 ≤ p → L[p] = 0) ∧ c < 4294967296 ∧
    valD L + c * d32 (i + k) = n % d32 i * m + dg n i * (m % d32 k) * d32 i
theorem rrow_start (i n m : Nat) (L : List Nat) (h1 : L.length = 16) (h2 : ∀ d ∈ L, d < 4294967296) (h3 : ∀ p (h : p < L.length), i + 8 ≤ p → L[p] = 0) (h : valD L = n % d32 i * m) : RRow i 0 n m L 0 := by
  refine ⟨h1, h2, h3, by omega, ?_⟩
  have e : d32 0 = 1 := rfl
  rw [h, e, Nat.mod_one]; simp
theorem mem_set {L : List Nat} {p v : Nat} (h : ∀ d ∈ L, d < 4294967296) (hv : v < 4294967296) : ∀ d ∈ L.set p v, d < 4294967296 := by
  intro d hd
  rcases List.mem_or_eq_of_mem_set hd with h1 | h1
  · exact h d h1
  · omega
theorem rrow_step (i k n m : Nat) (L : List Nat) (c : Nat) (hi : i < 8) (hk : k < 8) (h : RRow i k n m L c) (hp : i + k < L.length) :
    RRow i (k + 1) n m (L.set (i + k) ((L[i + k] + dg n i * dg m k + c) % 4294967296)) ((L[i + k] + dg n i * dg m k + c) / 4294967296) := by
  obtain ⟨h1, h2, h3, h4, h5⟩ := h
  have hd := h2 L[i + k] (List.getElem_mem hp)
  have ha := dg_lt n i
  have hb := dg_lt m k
  have hab : dg n i * dg m k ≤ 4294967295 * 4294967295 := Nat.mul_le_mul (by omega) (by omega)
  refine ⟨by simp [h1], mem_set h2 (Nat.mod_lt _ (by omega)), ?_, by omega, ?_⟩
  · intro p hp' hge
    rw [List.getElem_set_ne (by omega)]
    exact h3 p (by simpa using hp') hge
  · have hs := valD_set L (i + k) ((L[i + k] + dg n i * dg m k + c) % 4294967296) hp
    rw [show i + (k + 1) = i + k + 1 by omega, d32_succ, dmod_succ m k]
    have e1 : dg n i * (m % d32 k + dg m k * d32 k) * d32 i = dg n i * (m % d32 k) * d32 i + dg n i * dg m k * d32 (i + k) := by
      rw [d32_add, Nat.mul_add, Nat.add_mul, Nat.mul_assoc (dg n i) (dg m k), Nat.mul_comm (d32 i), Nat.mul_assoc (dg n i) (dg m k * d32 k), Nat.mul_assoc (dg m k)]
    rw [e1, ← Nat.add_assoc, ← h5]
    generalize valD (L.set (i + k) ((L[i + k] + dg n i * dg m k + c) % 4294967296)) = X at *
    generalize L[i + k] = l at *
    generalize dg n i * dg m k = t at *
    generalize d32 (i + k) = q at *
    have hT : (l + t + c) % 4294967296 + (l + t + c) / 4294967296 * 4294967296 = l + t + c := by omega
    have hTq := congrArg (· * q) hT
    simp only [Nat.add_mul] at hTq
    have e2 : (l + t + c) / 4294967296 * (q * 4294967296) = (l + t + c) / 4294967296 * 4294967296 * q := by rw [Nat.mul_assoc, Nat.mul_comm q]
    rw [e2]
    generalize (l + t + c) % 4294967296 * q = z1 at *
    generalize (l + t + c) / 4294967296 * 4294967296 * q = z2 at *
    generalize l * q = z3 at *
    generalize t * q = z4 at *
    generalize c * q = z5 at *
    omega
theorem rrow_end (i n m : Nat) (L : List Nat) (c : Nat) (hi : i < 8) (hm : m < M256) (h : RRow i 8 n m L c) :
    (L.set (i + 8) c).length = 16 ∧ (∀ d ∈ L.set (i + 8) c, d < 4294967296) ∧ (∀ p (h : p < (L.set (i + 8) c).length), i + 1 + 8 ≤ p → (L.set (i + 8) c)[p] = 0) ∧ valD (L.set (i + 8) c) = n % d32 (i + 1) * m := by
  obtain ⟨h1, h2, h3, h4, h5⟩ := h
  refine ⟨by simp [h1], mem_set h2 h4, ?_, ?_⟩
  · intro p hp hge
    rw [List.getElem_set_ne (by omega)]
    exact h3 p (by simpa using hp) (by omega)
  · have hs := valD_set L (i + 8) c (by omega)
    rw [h3 (i + 8) (by omega) (by omega), Nat.zero_mul, Nat.add_zero] at hs
    rw [hs, h5, d32_8, Nat.mod_eq_of_lt hm, dmod_succ, Nat.add_mul, Nat.mul_assoc (dg n i) m, Nat.mul_comm m (d32 i), ← Nat.mul_assoc]
/-- A field of bits into bits that are 0. -/
theorem or_field (a c s wd : Nat) (hc : c < 2 ^ wd) (ha : a / 2 ^ s % 2 ^ wd = 0) : a ||| c * 2 ^ s = a + c * 2 ^ s := by
  have hp := Nat.two_pow_pos s
  have hw := Nat.two_pow_pos wd
  have h1 : a = 2 ^ (s + wd) * (a / 2 ^ (s + wd)) + a % 2 ^ s := by
    have e1 : a / 2 ^ s = 2 ^ wd * (a / 2 ^ s / 2 ^ wd) := by have := Nat.div_add_mod (a / 2 ^ s) (2 ^ wd); omega
    have e2 : a / 2 ^ s / 2 ^ wd = a / 2 ^ (s + wd) := by rw [Nat.div_div_eq_div_mul, Nat.pow_add]
    have e3 := Nat.div_add_mod a (2 ^ s)
    rw [e1, e2, ← Nat.mul_assoc, ← Nat.pow_add] at e3
    exact e3.symm
  have hlo : a % 2 ^ s < 2 ^ s := Nat.mod_lt _ hp
  generalize a / 2 ^ (s + wd) = hi at h1
  generalize a % 2 ^ s = lo at h1 hlo
  subst h1
  have hlo2 : lo < 2 ^ (s + wd) := by
    have : 2 ^ s ≤ 2 ^ (s + wd) := Nat.pow_le_pow_right (by omega) (by omega)
    omega
  have h2 : 2 ^ s * c + lo < 2 ^ (s + wd) := by
    rw [Nat.pow_add]
    have : 2 ^ s * (c + 1) ≤ 2 ^ s * 2 ^ wd := Nat.mul_le_mul_left _ (by omega)
    rw [Nat.mul_add] at this
    omega
  rw [Nat.two_pow_add_eq_or_of_lt hlo2, Nat.or_assoc, Nat.or_comm lo, Nat.mul_comm c, ← Nat.two_pow_add_eq_or_of_lt hlo, ← Nat.two_pow_add_eq_or_of_lt h2, ← Nat.two_pow_add_eq_or_of_lt hlo2]
  omega
/-- Half a limb more. -/
theorem half_step (X c i : Nat) (hi : i < 8) (hX : X < d32 i) (hc : c < 4294967296) :
    (A4 (lb X 0) (lb X 1) (lb X 2) (lb X 3)).setIfInBounds (i / 2) (.int .u64 (Go.bits BinOp.or IntKind.u64 (lb X (i / 2)) (IntKind.u64.wrap ((c : Int) * 2 ^ (32 * (i % 2)))))) = A4 (lb (X + c * d32 i) 0) (lb (X + c * d32 i) 1) (lb (X + c * d32 i) 2) (lb (X + c * d32 i) 3) := by
  have hX8 : X < M256 := by
    have : d32 i ≤ d32 8 := by unfold d32; exact Nat.pow_le_pow_right (by omega) (by omega)
    rw [d32_8] at this; omega
  have hl : lb X (i / 2) = ((X / q64 (i / 2) % 18446744073709551616 : Nat) : Int) := rfl
  have hr : i % 2 = 0 ∨ i % 2 = 1 := by omega
  have hd : d32 i = q64 (i / 2) * 2 ^ (32 * (i % 2)) := by unfold d32 q64; rw [← Nat.pow_add]; congr 1; omega
  have hpow : (2 : Nat) ^ (32 * (i % 2)) = 1 ∨ (2 : Nat) ^ (32 * (i % 2)) = 4294967296 := by rcases hr with e | e <;> rw [e] <;> simp
  have hcast : (c : Int) * 2 ^ (32 * (i % 2)) = ((c * 2 ^ (32 * (i % 2)) : Nat) : Int) := by rw [Int.natCast_mul, Int.natCast_pow]; rfl
  have hlt : c * 2 ^ (32 * (i % 2)) < 18446744073709551616 := by rcases hpow with e | e <;> rw [e] <;> omega
  have hdiv : X / q64 (i / 2) < 2 ^ (32 * (i % 2)) := by
    rw [Nat.div_lt_iff_lt_mul (q64_pos _), Nat.mul_comm, ← hd]; exact hX
  have hw : IntKind.u64.wrap ((c : Int) * 2 ^ (32 * (i % 2))) = ((c * 2 ^ (32 * (i % 2)) : Nat) : Int) := by rw [hcast, IntKind.wrap_u64]; omega
  have hmod : X / q64 (i / 2) % 18446744073709551616 = X / q64 (i / 2) := Nat.mod_eq_of_lt (by rcases hpow with e | e <;> rw [e] at hdiv <;> omega)
  have hor : Go.bits BinOp.or IntKind.u64 (lb X (i / 2)) (IntKind.u64.wrap ((c : Int) * 2 ^ (32 * (i % 2)))) = lb X (i / 2) + ((c * 2 ^ (32 * (i % 2)) : Nat) : Int) := by
    rw [hw, hl, bits_or_u64_nat _ _ (Nat.mod_lt _ (by omega)) hlt, or_field _ c (32 * (i % 2)) 32 (by omega) ?_, Int.natCast_add]
    rw [hmod, Nat.div_eq_of_lt hdiv]
  rw [hor]
  have hb : 0 ≤ lb X (i / 2) + ((c * 2 ^ (32 * (i % 2)) : Nat) : Int) ∧ lb X (i / 2) + ((c * 2 ^ (32 * (i % 2)) : Nat) : Int) < 18446744073709551616 := by
    rw [hl, hmod]; rcases hpow with e | e <;> rw [e] at hdiv ⊢ <;> omega
  obtain ⟨P', hP', hset, hval⟩ := set_limb X (i / 2) _ (by omega) hb hX8
  rw [hset]
  have e : P' = X + c * d32 i := by
    rw [hd, Nat.mul_comm (q64 (i / 2)), ← Nat.mul_assoc]
    have : (P' : Int) = X + ((c * 2 ^ (32 * (i % 2)) * q64 (i / 2) : Nat) : Int) := by
      rw [hval, show lb X (i / 2) + ((c * 2 ^ (32 * (i % 2)) : Nat) : Int) - lb X (i / 2) = ((c * 2 ^ (32 * (i % 2)) : Nat) : Int) by omega, Int.natCast_mul (c * 2 ^ (32 * (i % 2)))]
    omega
  rw [e]
end Go.Proofs.Ytapjonmgjccpbaa
end
section
set_option linter.unusedSimpArgs false
set_option linter.unusedVariables false
namespace Go.Proofs.Ytapjonmgjccpbaa
open Go.RowKit

/-! Slices of numbers, as the walks read them. -/
def four (n : Nat) : List Value := [.int .u64 (lb n 0), .int .u64 (lb n 1), .int .u64 (lb n 2), .int .u64 (lb n 3)]
def flat (ns : List Nat) : List Value := ns.flatMap four
theorem flat_length (ns : List Nat) : (flat ns).length = ns.length * 4 := by
  induction ns with
  | nil => rfl
  | cons n ns ih => simp only [flat, List.flatMap_cons, List.length_append, List.length_cons] at *; rw [ih]; simp [four]; omega
theorem flat_append (a b : List Nat) : flat (a ++ b) = flat a ++ flat b := by simp [flat]
theorem flat_at (ns : List Nat) (i : Nat) (h : i < ns.length) : (flat ns)[4 * i]? = some (.int .u64 (lb ns[i] 0)) ∧ (flat ns)[4 * i + 1]? = some (.int .u64 (lb ns[i] 1)) ∧ (flat ns)[4 * i + 2]? = some (.int .u64 (lb ns[i] 2)) ∧ (flat ns)[4 * i + 3]? = some (.int .u64 (lb ns[i] 3)) := by
  induction ns generalizing i with
  | nil => simp at h
  | cons n ns ih =>
    have e : flat (n :: ns) = four n ++ flat ns := by simp [flat]
    rw [e]
    cases i with
    | zero => simp [four]
    | succ j =>
      have := ih j (by simpa using h)
      have l4 : (four n).length = 4 := rfl
      rw [List.getElem?_append_right (by rw [l4]; omega), List.getElem?_append_right (by rw [l4]; omega), List.getElem?_append_right (by rw [l4]; omega), List.getElem?_append_right (by rw [l4]; omega), l4]
      simp only [List.getElem_cons_succ]
      have e0 : 4 * (j + 1) - 4 = 4 * j := by omega
      have e1 : 4 * (j + 1) + 1 - 4 = 4 * j + 1 := by omega
      have e2 : 4 * (j + 1) + 2 - 4 = 4 * j + 2 := by omega
      have e3 : 4 * (j + 1) + 3 - 4 = 4 * j + 3 := by omega
      rw [e0, e1, e2, e3]
      exact this
/-- A slice of these numbers, in this world: nil, or from an address on, four cells a number. -/
def Sl (w : World) (v : Value) (ns : List Nat) : Prop :=
  (∀ n ∈ ns, n < M256) ∧ ns.length ≤ maxLen ∧
  ((ns = [] ∧ ∃ ad cap, v = .slice ad 0 cap) ∨ ∃ b off cap, v = .slice (some ⟨b, off, none⟩) ns.length cap ∧ ∀ j u, (flat ns)[j]? = some u → w.cell? ⟨b, off + j, none⟩ = some u)
theorem cell_lt {w : World} {a : Addr} {v : Value} (h : w.cell? a = some v) : a.block < w.heap.size := by
  unfold World.cell? at h
  split at h
  · next h' => exact (Array.getElem?_eq_some_iff.1 h').1
  · simp at h
theorem Sl.below {w w' : World} {v : Value} {ns : List Nat} (h : Sl w v ns) (hb : Below w.heap.size w w') : Sl w' v ns := by
  obtain ⟨h1, h2, h3⟩ := h
  refine ⟨h1, h2, ?_⟩
  rcases h3 with h3 | ⟨b, off, cap, hv, hc⟩
  · exact .inl h3
  · refine .inr ⟨b, off, cap, hv, fun j u hj => ?_⟩
    have := hc j u hj
    rw [hb.cell (p := ⟨b, off + j, none⟩) (cell_lt this)]
    exact this
theorem Sl.of_owns {w : World} {base : Nat} {v : Value} {ns : List Nat} (hn : ∀ n ∈ ns, n < M256) (hl : ns.length ≤ maxLen) (h : w.ownsRow base 26 4 v ns.length (flat ns)) : Sl w v ns := by
  refine ⟨hn, hl, ?_⟩
  obtain ⟨h1, h2⟩ := h
  rcases h2 with ⟨h2, h3⟩ | ⟨g, cap, cur, hv, hg, hh, h4, h5, h6, h7⟩
  · left; exact ⟨List.length_eq_zero_iff.1 h3, none, 0, h2⟩
  · right
    refine ⟨g, 0, cap, hv, fun j u hj => ?_⟩
    rw [← h7, List.getElem?_take] at hj
    split at hj
    · simp only [World.cell?, hh, Nat.zero_add]
      simpa using hj
    · simp at hj
/-- Where the i-th number of such a slice lies. -/
theorem Sl.at {w : World} {v : Value} {ns : List Nat} (h : Sl w v ns) : ∃ ad cap, v = .slice ad ns.length cap ∧ ∀ i (hi : i < ns.length), ∃ b off, ad = some ⟨b, off, none⟩ ∧ w.cell? ⟨b, off + i * 4, none⟩ = some (.int .u64 (lb ns[i] 0)) ∧ w.cell? ⟨b, off + i * 4 + 1, none⟩ = some (.int .u64 (lb ns[i] 1)) ∧ w.cell? ⟨b, off + i * 4 + 2, none⟩ = some (.int .u64 (lb ns[i] 2)) ∧ w.cell? ⟨b, off + i * 4 + 3, none⟩ = some (.int .u64 (lb ns[i] 3)) := by
  obtain ⟨h1, h2, h3⟩ := h
  rcases h3 with ⟨hn, ad, cap, hv⟩ | ⟨b, off, cap, hv, hc⟩
  · subst hn; exact ⟨ad, cap, hv, fun i hi => by simp at hi⟩
  · refine ⟨_, cap, hv, fun i hi => ⟨b, off, rfl, ?_⟩⟩
    obtain ⟨f0, f1, f2, f3⟩ := flat_at ns i hi
    rw [Nat.mul_comm i 4]
    exact ⟨hc _ _ f0, by rw [Nat.add_assoc]; exact hc _ _ f1, by rw [Nat.add_assoc]; exact hc _ _ f2, by rw [Nat.add_assoc]; exact hc _ _ f3⟩
theorem owns_ge {w : World} {base : Nat} {e : TypeId} {s : Nat} {v : Value} {n : Nat} {xs : List Value} (h : w.ownsRow base e s v n xs) {j : Nat} (hj : v.ownBlock = some j) : base ≤ j := by
  rcases h.2 with ⟨rfl, _⟩ | ⟨g, cap, cur, rfl, hg, _⟩
  · simp [Value.ownBlock] at hj
  · simp [Value.ownBlock] at hj; omega
end Go.Proofs.Ytapjonmgjccpbaa
end
section
set_option linter.unusedSimpArgs false
set_option linter.unusedVariables false
namespace Go.Proofs.Ytapjonmgjccpbaa
open Go.RowKit

theorem below_at {w w' : World} {n b o : Nat} {v : Value} (hb : Below n w w') (hl : b < n) (h : w.cell? ⟨b, o, none⟩ = some v) : w'.cell? ⟨b, o, none⟩ = some v :=
  (hb.cell (p := ⟨b, o, none⟩) hl).trans h
/-- The eight cells of a number of the list and of a new variable. -/
def Two (b o B n m : Nat) (w' : World) : Prop := w'.cell? ⟨b, o, none⟩ = some (.int .u64 (lb n 0)) ∧ w'.cell? ⟨b, o + 1, none⟩ = some (.int .u64 (lb n 1)) ∧ w'.cell? ⟨b, o + 2, none⟩ = some (.int .u64 (lb n 2)) ∧ w'.cell? ⟨b, o + 3, none⟩ = some (.int .u64 (lb n 3)) ∧ w'.cell? ⟨B, 0, none⟩ = some (.int .u64 (lb m 0)) ∧ w'.cell? ⟨B, 1, none⟩ = some (.int .u64 (lb m 1)) ∧ w'.cell? ⟨B, 2, none⟩ = some (.int .u64 (lb m 2)) ∧ w'.cell? ⟨B, 3, none⟩ = some (.int .u64 (lb m 3))
theorem Two.below {b o B n m : Nat} {w w' : World} (h : Two b o B n m w) (hb : Below w.heap.size w w') : Two b o B n m w' := by
  obtain ⟨h0, h1, h2, h3, h4, h5, h6, h7⟩ := h
  exact ⟨below_at hb (cell_lt h0) h0, below_at hb (cell_lt h1) h1, below_at hb (cell_lt h2) h2, below_at hb (cell_lt h3) h3, below_at hb (cell_lt h4) h4, below_at hb (cell_lt h5) h5, below_at hb (cell_lt h6) h6, below_at hb (cell_lt h7) h7⟩
theorem Two.drew {b o B n m : Nat} {w : World} (h : Two b o B n m w) : Two b o B n m w.drew := h.below ((Below.refl _ w).drew)
theorem below_step {n : Nat} {a b c : World} (h : Below n a b) (h2 : Below b.drew.heap.size b.drew c) (hn : n ≤ a.heap.size := by exact Nat.le_refl _) : Below n a c :=
  h.drew.trans (h2.mono (Nat.le_trans hn h.size))
theorem below_step2 {n : Nat} {a b c : World} (h : Below n a b) (h2 : Below b.heap.size b c) (hn : n ≤ a.heap.size := by exact Nat.le_refl _) : Below n a c :=
  h.trans (h2.mono (Nat.le_trans hn h.size))
end Go.Proofs.Ytapjonmgjccpbaa
end

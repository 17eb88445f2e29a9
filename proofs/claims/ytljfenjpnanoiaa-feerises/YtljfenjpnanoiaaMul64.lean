import Derived.Test.YtljfenjpnanoiaaSubM
import Derived.Laws.Bits64b
set_option linter.unusedSimpArgs false
set_option linter.unusedVariables false
namespace Go.Proofs.Ytljfenjpnanoiaa
open Go.RowKit

theorem and32 (x : Int) (h : 0 ≤ x ∧ x < 18446744073709551616) : Go.bits BinOp.and IntKind.u64 x 4294967295 = x % 4294967296 := by
  obtain ⟨X, rfl⟩ := Int.eq_ofNat_of_zero_le h.1
  have e := bits_and_u64_nat X 4294967295 (by omega) (by omega)
  have e2 : X &&& 4294967295 = X % 4294967296 := Nat.and_two_pow_sub_one_eq_mod X 32
  rw [e2] at e
  exact e.trans (by omega)
def hiE (x y : Int) : Int := (IntKind.u64.wrap
              (IntKind.u64.wrap
                  (IntKind.u64.wrap (x / 4294967296 * (y / 4294967296)) +
                    IntKind.u64.wrap
                        (IntKind.u64.wrap (x / 4294967296 * Go.bits BinOp.and IntKind.u64 y 4294967295) +
                          IntKind.u64.wrap
                              (Go.bits BinOp.and IntKind.u64 x 4294967295 * Go.bits BinOp.and IntKind.u64 y 4294967295) /
                            4294967296) /
                      4294967296) +
                IntKind.u64.wrap
                    (Go.bits BinOp.and IntKind.u64
                        (IntKind.u64.wrap
                          (IntKind.u64.wrap (x / 4294967296 * Go.bits BinOp.and IntKind.u64 y 4294967295) +
                            IntKind.u64.wrap
                                (Go.bits BinOp.and IntKind.u64 x 4294967295 * Go.bits BinOp.and IntKind.u64 y 4294967295) /
                              4294967296))
                        4294967295 +
                      IntKind.u64.wrap (Go.bits BinOp.and IntKind.u64 x 4294967295 * (y / 4294967296))) /
                  4294967296))
theorem mul_bd (a b : Int) (ha : 0 ≤ a ∧ a < 4294967296) (hb : 0 ≤ b ∧ b < 4294967296) : 0 ≤ a * b ∧ a * b ≤ 18446744065119617025 := by
  refine ⟨Int.mul_nonneg ha.1 hb.1, ?_⟩
  have h1 : a * b ≤ 4294967295 * b := Int.mul_le_mul_of_nonneg_right (by omega) hb.1
  omega
theorem hiE_eq (x y : Int) (hx : 0 ≤ x ∧ x < 18446744073709551616) (hy : 0 ≤ y ∧ y < 18446744073709551616) : hiE x y = hi64 (x * y) ∧ IntKind.u64.wrap (x * y) = lo64 (x * y) := by
  refine ⟨?_, by rw [IntKind.wrap_u64]; rfl⟩
  unfold hiE
  rw [and32 x hx, and32 y hy]
  have b1 : 0 ≤ x / 4294967296 ∧ x / 4294967296 < 4294967296 := by omega
  have b0 : 0 ≤ x % 4294967296 ∧ x % 4294967296 < 4294967296 := by omega
  have c1 : 0 ≤ y / 4294967296 ∧ y / 4294967296 < 4294967296 := by omega
  have c0 : 0 ≤ y % 4294967296 ∧ y % 4294967296 < 4294967296 := by omega
  have ex : x = x / 4294967296 * 4294967296 + x % 4294967296 := by omega
  have ey : y = y / 4294967296 * 4294967296 + y % 4294967296 := by omega
  have exy : x * y = x / 4294967296 * (y / 4294967296) * 18446744073709551616 + (x / 4294967296 * (y % 4294967296) + x % 4294967296 * (y / 4294967296)) * 4294967296 + x % 4294967296 * (y % 4294967296) := by
    generalize x / 4294967296 = x1 at *
    generalize x % 4294967296 = x0 at *
    generalize y / 4294967296 = y1 at *
    generalize y % 4294967296 = y0 at *
    subst ex ey
    have e1 : (x1 * 4294967296 + x0) * (y1 * 4294967296 + y0) = (x1 * 4294967296) * (y1 * 4294967296) + (x1 * 4294967296) * y0 + (x0 * (y1 * 4294967296) + x0 * y0) := by
      rw [Int.add_mul, Int.mul_add, Int.mul_add]
    have e2 : (x1 * 4294967296) * (y1 * 4294967296) = x1 * y1 * 18446744073709551616 := by
      rw [Int.mul_assoc, ← Int.mul_assoc 4294967296, Int.mul_comm 4294967296 y1, Int.mul_assoc y1, ← Int.mul_assoc]; rfl
    have e3 : (x1 * 4294967296) * y0 = x1 * y0 * 4294967296 := by rw [Int.mul_assoc, Int.mul_comm 4294967296, ← Int.mul_assoc]
    have e4 : x0 * (y1 * 4294967296) = x0 * y1 * 4294967296 := by rw [Int.mul_assoc]
    rw [e1, e2, e3, e4]
    omega
  have m11 := mul_bd _ _ b1 c1
  have m10 := mul_bd _ _ b1 c0
  have m01 := mul_bd _ _ b0 c1
  have m00 := mul_bd _ _ b0 c0
  rw [exy]
  clear exy ex ey
  generalize x / 4294967296 * (y / 4294967296) = p11 at *
  generalize x / 4294967296 * (y % 4294967296) = p10 at *
  generalize x % 4294967296 * (y / 4294967296) = p01 at *
  generalize x % 4294967296 * (y % 4294967296) = p00 at *
  clear b1 b0 c1 c0
  have w00 : IntKind.u64.wrap p00 = p00 := by rw [IntKind.wrap_u64]; omega
  have w10 : IntKind.u64.wrap p10 = p10 := by rw [IntKind.wrap_u64]; omega
  have w01 : IntKind.u64.wrap p01 = p01 := by rw [IntKind.wrap_u64]; omega
  have w11 : IntKind.u64.wrap p11 = p11 := by rw [IntKind.wrap_u64]; omega
  rw [w00, w10, w01, w11]
  have wt : IntKind.u64.wrap (p10 + p00 / 4294967296) = p10 + p00 / 4294967296 := by rw [IntKind.wrap_u64]; omega
  rw [wt, and32 _ (by omega)]
  unfold hi64
  simp only [IntKind.wrap_u64]
  omega
set_option maxHeartbeats 1000000 in
theorem mul64 (x y : Int) (hx : 0 ≤ x ∧ x < 18446744073709551616) (hy : 0 ≤ y ∧ y < 18446744073709551616) (w : World) :
    Calls Try.prog 48 #[.int .u64 x, .int .u64 y] w fun e w' => e = .returned (.tuple #[.int .u64 (hi64 (x * y)), .int .u64 (lo64 (x * y))]) ∧ w' = w := by
  have HE : Hid (hiE x y = hi64 (x * y) ∧ IntKind.u64.wrap (x * y) = lo64 (x * y)) := hiE_eq x y hx hy
  clear hx hy
  go_enter Try.func48, Try.ntmps48
  go_wp2
  go_ret2
  refine ⟨?_, rfl⟩
  rw [← HE.out.1, ← HE.out.2]
  rfl
theorem lo_bd (x : Int) : 0 ≤ lo64 x ∧ lo64 x < 18446744073709551616 := by unfold lo64; omega
set_option maxHeartbeats 1000000 in
theorem mulAdd (x y z c : Int) (hx : 0 ≤ x ∧ x < 18446744073709551616) (hy : 0 ≤ y ∧ y < 18446744073709551616) (hz : 0 ≤ z ∧ z < 18446744073709551616) (hc : 0 ≤ c ∧ c < 18446744073709551616) (w : World) :
    Calls Try.prog 37 #[.int .u64 x, .int .u64 y, .int .u64 z, .int .u64 c] w fun e w' => e = .returned (.tuple #[.int .u64 (lo64 (x * y + z + c)), .int .u64 (hi64 (x * y + z + c))]) ∧ w' = w := by
  have hp : 0 ≤ x * y ∧ x * y ≤ 340282366920938463426481119284349108225 := by
    refine ⟨Int.mul_nonneg hx.1 hy.1, ?_⟩
    have h1 : x * y ≤ 18446744073709551615 * y := Int.mul_le_mul_of_nonneg_right (by omega) hy.1
    omega
  have Hx : Hid (0 ≤ x ∧ x < 18446744073709551616) := hx
  have Hy : Hid (0 ≤ y ∧ y < 18446744073709551616) := hy
  have h1 := fun w => run38 (lo64 (x * y)) z 0 ⟨by omega, by omega⟩ (lo_bd _).1 hz.1 w
  have h2 := fun w => run38 (lo64 (lo64 (x * y) + z + 0)) c 0 ⟨by omega, by omega⟩ (lo_bd _).1 hc.1 w
  simp only [Int.add_zero] at h1 h2
  have HF : Hid (lo64 (lo64 (lo64 (x * y) + z) + c) = lo64 (x * y + z + c) ∧ IntKind.u64.wrap (IntKind.u64.wrap (hi64 (x * y) + hi64 (lo64 (x * y) + z)) + hi64 (lo64 (lo64 (x * y) + z) + c)) = hi64 (x * y + z + c)) := by
    generalize x * y = p at hp
    unfold lo64 hi64 Hid
    simp only [IntKind.wrap_u64]
    omega
  clear hx hy hz hc hp
  go_enter Try.func37, Try.ntmps37
  go_wp2_with (go_at_call 48; refine (mul64 x y Hx.out Hy.out _).mono ?_; rintro e w1 ⟨rfl, rfl⟩)
  go_ret2
  refine ⟨?_, rfl⟩
  rw [← HF.out.1, ← HF.out.2]
  rfl
end Go.Proofs.Ytljfenjpnanoiaa

import Derived.Test.YtgolpadmcalimaaBlob
set_option linter.unusedSimpArgs false
set_option linter.unusedVariables false
namespace Go.Proofs.Ytgolpadmcalimaa
open Go.RowKit

theorem numIn (n m : Int) (w : World) : Calls Try.prog 17 #[.int .i64 n, .int .i64 m] w fun r w' => r = .returned (.bool (inB n m)) ∧ w' = w := by
  by_cases h : 0 ≤ n
  · by_cases h2 : n ≤ m
    · have e : inB n m = true := by simp [inB, h, h2]
      rw [e]
      go_enter Try.func17, Try.ntmps17
      go_wp2
      go_ret
      exact ⟨rfl, rfl⟩
    · have e : inB n m = false := by simp [inB, h2]
      have hb : decide (n ≤ m) = false := by simp; omega
      rw [e]
      go_enter Try.func17, Try.ntmps17
      go_wp2
      go_ret
      exact ⟨rfl, rfl⟩
  · have e : inB n m = false := by simp [inB, h]
    have hb : decide (0 ≤ n) = false := by simp; omega
    rw [e]
    go_enter Try.func17, Try.ntmps17
    go_wp2
    go_ret
    exact ⟨rfl, rfl⟩
def exMay (x u t : Int) : Bool := inB x 1099511627776 && inB u 1073741824 && inB t 1073741824
def exV (x u t : Int) : Int := if exMay x u t then (if x + u - t ≤ 0 then 0 else if 1099511627776 ≤ x + u - t then 1099511627776 else x + u - t) else 0
def exE (x u t : Int) : Int := if exMay x u t then 0 else 1
theorem exMay_iff (x u t : Int) : exMay x u t = true ↔ ((0 ≤ x ∧ x ≤ 1099511627776) ∧ 0 ≤ u ∧ u ≤ 1073741824) ∧ 0 ≤ t ∧ t ≤ 1073741824 := by
  simp [exMay, inB]
theorem ret2_int {a b c d : Int} (h : a = c) (h' : b = d) : Ending.returned (.tuple #[.int .i64 a, .int .i64 b]) = .returned (.tuple #[.int .i64 c, .int .i64 d]) := by rw [h, h']
set_option maxHeartbeats 1000000 in
theorem excess_yes (x u t : Int) (h : exMay x u t = true) (w : World) : Calls Try.prog 22 #[.int .i64 x, .int .i64 u, .int .i64 t] w fun e w' => e = .returned (.tuple #[.int .i64 (exV x u t), .int .i64 0]) ∧ w' = w := by
  have HV : Hid (exV x u t = (if x + u - t ≤ 0 then 0 else if 1099511627776 ≤ x + u - t then 1099511627776 else x + u - t)) := if_pos h
  rw [exMay_iff] at h
  obtain ⟨⟨⟨x0, x1⟩, u0, u1⟩, t0, t1⟩ := h
  have gu : inB u 1073741824 = true := by simp [inB, u0, u1]
  have gt : inB t 1073741824 = true := by simp [inB, t0, t1]
  have h1 : ¬ x < 0 := by omega
  have h2 : ¬ 1099511627776 < x := by omega
  have hu := fun w => isGas u w
  have ht := fun w => isGas t w
  rw [gu] at hu
  rw [gt] at ht
  clear gu gt
  go_enter Try.func22, Try.ntmps22
  go_wp2_with (first | (go_at_call_of 40 (Value.int IntKind.i64 u); refine (hu _).mono ?_; rintro e w1 ⟨rfl, rfl⟩) | (go_at_call_of 40 (Value.int IntKind.i64 t); refine (ht _).mono ?_; rintro e w2 ⟨rfl, rfl⟩))
  all_goals
    go_ret2
    refine ⟨ret2_int ?_ rfl, rfl⟩
    rw [HV.out]
    repeat (first | rfl | (split) | omega)
theorem inB_false {n m : Int} (h : inB n m = false) : n < 0 ∨ m < n := by
  by_cases h0 : 0 ≤ n
  · right
    apply Int.lt_of_not_ge
    intro h1
    have : inB n m = true := by simp [inB, h0, h1]
    rw [h] at this; simp at this
  · omega
set_option maxHeartbeats 1000000 in
theorem excess_no (x u t : Int) (h : exMay x u t = false) (w : World) : Calls Try.prog 22 #[.int .i64 x, .int .i64 u, .int .i64 t] w fun e w' => e = .returned (.tuple #[.int .i64 0, .int .i64 1]) ∧ w' = w := by
  have hu := fun w => isGas u w
  have ht := fun w => isGas t w
  cases hx : inB x 1099511627776
  · rcases inB_false hx with hx | hx
    · go_enter Try.func22, Try.ntmps22
      go_wp2
      go_ret2
      exact ⟨rfl, rfl⟩
    · have h0 : ¬ x < 0 := by omega
      go_enter Try.func22, Try.ntmps22
      go_wp2
      go_ret2
      exact ⟨rfl, rfl⟩
  · have hx' : 0 ≤ x ∧ x ≤ 1099511627776 := by simpa [inB] using hx
    have h1 : ¬ x < 0 := by omega
    have h2 : ¬ 1099511627776 < x := by omega
    cases gu : inB u 1073741824
    · rw [gu] at hu
      clear gu hx h
      go_enter Try.func22, Try.ntmps22
      go_wp2_with (go_at_call 40; refine (hu _).mono ?_; rintro e w1 ⟨rfl, rfl⟩)
      go_ret2
      exact ⟨rfl, rfl⟩
    · have gt : inB t 1073741824 = false := by simpa [exMay, hx, gu] using h
      rw [gu] at hu
      rw [gt] at ht
      clear gu gt hx h
      go_enter Try.func22, Try.ntmps22
      go_wp2_with (first | (go_at_call_of 40 (Value.int IntKind.i64 u); refine (hu _).mono ?_; rintro e w1 ⟨rfl, rfl⟩) | (go_at_call_of 40 (Value.int IntKind.i64 t); refine (ht _).mono ?_; rintro e w2 ⟨rfl, rfl⟩))
      go_ret2
      exact ⟨rfl, rfl⟩
end Go.Proofs.Ytgolpadmcalimaa

import Derived.Test.YtljfenjpnanoiaaText
set_option linter.unusedSimpArgs false
set_option linter.unusedVariables false
namespace Go.Proofs.Ytljfenjpnanoiaa
open Go.RowKit

theorem lb_small (n : Nat) (h : n < 18446744073709551616) : lb n 0 = n ∧ lb n 1 = 0 ∧ lb n 2 = 0 ∧ lb n 3 = 0 := by
  unfold lb
  simp only [Nat.mul_zero, Nat.pow_zero, Nat.div_one, Nat.reduceMul, Nat.reducePow]
  omega
theorem V_small (n : Nat) (h : n < 18446744073709551616) : V n = .agg (A4 n 0 0 0) := by
  obtain ⟨h0, h1, h2, h3⟩ := lb_small n h
  rw [V, h0, h1, h2, h3]
theorem of_yes (n : Nat) (h : n ≤ 9223372036854775807) (w : World) :
    Calls Try.prog 38 #[.int .i64 n] w fun e w' => e = .returned (.tuple #[V n, .int .i64 0]) ∧ Below w.heap.size w w' := by
  rw [V_small n (by omega)]
  have hn : ¬ ((n : Int) < 0) := by omega
  have hw : IntKind.u64.wrap (n : Int) = n := by rw [IntKind.wrap_u64]; omega
  go_enter Try.func38, Try.ntmps38
  go_wp2
  refine bodyPost_ret (v := .tuple #[.agg (A4 n 0 0 0), .int .i64 0]) ?_ rfl ⟨rfl, ?_⟩
  · simp [results, Try.results38, go_sem]
  · exact (Below.refl _ _).alloc (Nat.le_refl _) _
theorem of_no (n : Int) (h : n < 0) (w : World) :
    Calls Try.prog 38 #[.int .i64 n] w fun e w' => e = .returned (.tuple #[V 0, .int .i64 1]) ∧ Below w.heap.size w w' := by
  rw [V_zero]
  go_enter Try.func38, Try.ntmps38
  go_wp2
  refine bodyPost_ret (v := .tuple #[.agg (A4 0 0 0 0), .int .i64 1]) ?_ rfl ⟨rfl, ?_⟩
  · simp [results, Try.results38, go_sem]
  · exact (Below.refl _ _).alloc (Nat.le_refl _) _
theorem wake_str : strOfNums (tnums 256) = ⟨#[1, 0]⟩ := by decide +kernel
theorem text256 (w : World) : Calls Try.prog 39 #[V 256] w fun e w' => e = .returned (.string ⟨#[1, 0]⟩) ∧ Below w.heap.size w w' := by
  have := text 256 (by decide) w
  rw [wake_str] at this
  exact this
set_option maxHeartbeats 1000000 in
theorem wakes (w : World) : Calls Try.prog 23 #[] w fun e w' => e = .returned (.bool true) ∧ Below w.heap.size w w' := by
  go_enter Try.func23, Try.ntmps23
  go_wp2_with (first | (go_at_call 38; refine (of_yes 256 (by omega) _).mono ?_; rintro e w1 ⟨rfl, hb1⟩) | (go_at_call 39; refine (text256 _).mono ?_; rintro e w2 ⟨rfl, hb2⟩) | go_in)
  go_ret
  refine ⟨rfl, ?_⟩
  exact (hb1.alloc hb1.size _).trans (hb2.mono (by simp; have := hb1.size; omega))
end Go.Proofs.Ytljfenjpnanoiaa

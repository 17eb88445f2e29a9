import Derived.Test.YtljfenjpnanoiaaLvl
import Derived.Test.YtljfenjpnanoiaaRLvl
import Derived.Test.YtljfenjpnanoiaaEql
import Derived.Test.YtljfenjpnanoiaaWakes
set_option linter.unusedSimpArgs false
set_option linter.unusedVariables false
namespace Go.Proofs.Ytljfenjpnanoiaa
open Go.RowKit

theorem num3_any (e : Int) (w : World) : Calls Try.prog 13 #[.int .i64 e] w fun r w' => r = .returned (.int .i64 e) ∧ w' = w := by
  go_enter Try.func13, Try.ntmps13
  go_wp2
  go_ret
  exact ⟨rfl, rfl⟩
theorem lvl_three : lvl 3 = 13 := by decide +kernel
theorem level3 (w : World) : Calls Try.prog 11 #[.agg (A4 3 0 0 0)] w fun e w' => e = .returned (.int .i64 13) ∧ Below w.heap.size w w' := by
  have h := level 3 (by decide) w
  rw [lvl_three, V_small 3 (by decide)] at h
  exact h
theorem level0 (w : World) : Calls Try.prog 11 #[.agg (A4 0 0 0 0)] w fun e w' => e = .returned (.int .i64 0) ∧ Below w.heap.size w w' := by
  have h := level 0 (by decide) w
  rw [lvl_zero, V_zero] at h
  exact h
theorem wakes3 (w : World) : Calls Try.prog 15 #[] w fun e w' => e = .returned (.bool true) ∧ Below w.heap.size w w' := by
  go_enter Try.func15, Try.ntmps15
  go_wp2_with (go_at_call 11; refine (level3 _).mono ?_; rintro e w1 ⟨rfl, hb1⟩)
  go_ret
  exact ⟨rfl, hb1⟩
theorem neq_same (v : Nat) (w : World) : (binOp .neq 25 (V v) (V v)).run Try.prog w = .ok (.bool false) w := by rw [neq26, eq4_same]; rfl
theorem neq_none (w : World) : (binOp .neq 25 (.agg (A4 0 0 0 0)) (.agg (A4 0 0 0 0))).run Try.prog w = .ok (.bool false) w := by rw [neq26, eq4_same]; rfl
end Go.Proofs.Ytljfenjpnanoiaa

import Derived.Test.YtadenpceddfapaaEql
set_option linter.unusedSimpArgs false
set_option linter.unusedVariables false
namespace Go.Proofs.Ytadenpceddfapaa
open Go.RowKit

theorem num_any (e : Int) (w : World) : Calls Try.prog 25 #[.int .i64 e] w fun r w' => r = .returned (.int .i64 e) ∧ w' = w := by
  go_enter Try.func25, Try.ntmps25
  go_wp2
  go_ret
  exact ⟨rfl, rfl⟩
set_option maxHeartbeats 1000000 in
theorem told_yes (n : Nat) (w : World) : Calls Try.prog 18 #[V n, .int .i64 0, V n, .bool true] w fun e w' => e = .returned (.bool true) ∧ Below w.heap.size w w' := by
  have he := fun w => eql26 (lb n 0) (lb n 1) (lb n 2) (lb n 3) (lb n 0) (lb n 1) (lb n 2) (lb n 3) w
  simp only [eq4_same] at he
  go_enter Try.func18, Try.ntmps18
  go_wp2
  go_ret
  exact ⟨rfl, ((Below.refl _ _).alloc (Nat.le_refl _) _).alloc (by simp) _⟩
set_option maxHeartbeats 1000000 in
theorem told_no (n : Nat) (w : World) : Calls Try.prog 18 #[V 0, .int .i64 8, V n, .bool false] w fun e w' => e = .returned (.bool true) ∧ Below w.heap.size w w' := by
  have he := fun w => eql26 0 0 0 0 0 0 0 0 w
  simp only [eq4_same] at he
  rw [V_zero]
  go_enter Try.func18, Try.ntmps18
  go_wp2
  go_ret
  exact ⟨rfl, ((Below.refl _ _).alloc (Nat.le_refl _) _).alloc (by simp) _⟩
end Go.Proofs.Ytadenpceddfapaa

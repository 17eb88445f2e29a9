import Derived.Test.YtliaegnhnnnojaaSubM
set_option linter.unusedSimpArgs false
set_option linter.unusedVariables false
namespace Go.Proofs.Ytliaegnhnnnojaa
open Go.RowKit

theorem within (i : Int) (n : Nat) (hn : 0 < n) (hn2 : n ≤ 9223372036854775807) (w : World) :
    Calls Try.prog 30 #[.int .i64 i, .int .i64 (n : Int)] w fun e w' => (∃ k : Nat, k < n ∧ e = .returned (.int .i64 (k : Int))) ∧ w' = w := by
  have hw : IntKind.u64.wrap (n : Int) = n := by rw [IntKind.wrap_u64]; omega
  have h0 : ¬ (n : Int) = 0 := by omega
  have h1 : ((n : Int) == 0) = false := by simp; omega
  obtain ⟨j, hj⟩ : ∃ j : Nat, IntKind.u64.wrap i = (j : Int) := by
    refine ⟨(IntKind.u64.wrap i).toNat, ?_⟩
    rw [IntKind.wrap_u64]; omega
  have HN : Hid (0 < n ∧ n ≤ 9223372036854775807) := ⟨hn, hn2⟩
  clear hn hn2
  go_enter Try.func30, Try.ntmps30
  go_wp2
  go_ret
  have hl : j % n < n := Nat.mod_lt _ HN.out.1
  refine ⟨⟨j % n, hl, ?_⟩, rfl⟩
  have e : wrap64 ((j : Int) % (n : Int)) = ((j % n : Nat) : Int) := by
    have := HN.out.2
    rw [← Int.natCast_emod]
    generalize j % n = r at *
    unfold wrap64; omega
  rw [← e]
  rfl
end Go.Proofs.Ytliaegnhnnnojaa

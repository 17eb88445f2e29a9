import Derived.Test.YtnhmhedabdmnbaaMkM
set_option linter.unusedSimpArgs false
set_option linter.unusedVariables false
namespace Go.Proofs.Ytnhmhedabdmnbaa
open Go.RowKit

/-! tarnref4.Mark. -/
set_option maxRecDepth 100000 in
set_option maxHeartbeats 1000000 in
theorem rmarkq (s : ByteArray) (hs : s.size ≤ 4611686018427387904) (w : World) :
    Calls Try.prog 16 #[.string s] w fun e w' => e = .returned (.int .u64 (mk s : Int)) ∧ w' = w := by
  go_enter Try.func16, Try.ntmps16
  go_wp2
  go_loopw [3, 4] (fun m i wr => ∃ k : Nat, k ≤ s.size ∧ m = .int .u64 (mkf (ees s k) : Int) ∧ i = .int .i64 k ∧ wr = w) (fun _ i _ => s.size - (intOf i).toNat)
  case atStart => exact ⟨0, by omega, by rw [show ees s 0 = [] from rfl, mkf_nil]; rfl, rfl, rfl⟩
  case round =>
    obtain ⟨k, hk, rfl, rfl, rfl⟩ := hrel
    by_cases hlt : k < s.size
    · have hlt' : (k : Int) < (s.size : Int) := by omega
      have hix := fun w => idx_str s (k : Int) k hlt rfl w
      have hv := mstep_val (mkf (ees s k)) s[k].toNat (mkf_lt _) (byte_lt _)
      have HS : Hid (mkf (ees s (k + 1)) = mstep (mkf (ees s k)) s[k].toNat) := by show _ = _; rw [ees_succ, mkf_snoc, byt_eq s k hlt]
      have hb8 := byte_lt s[k]
      generalize mkf (ees s k) = m at *
      go_wp2
      go_roundw
      case rel => exact ⟨k + 1, by omega, by rw [HS.out], by go_num, trivial⟩
      case measure => simp [intOf]; omega
    · have hlt' : ¬ (k : Int) < (s.size : Int) := by omega
      obtain rfl : k = s.size := by omega
      go_wp2
      go_ret
      exact ⟨rfl, rfl⟩
theorem rmark (s : ByteArray) (hs : s.size ≤ 4611686018427387904) (w : World) :
    Calls Try.prog 16 #[.string s] w fun e w' => e = .returned (.int .u64 (mk s : Int)) ∧ Below w.heap.size w w' :=
  (rmarkq s hs w).mono fun e w' h => ⟨h.1, by rw [h.2]; exact Below.refl _ _⟩
end Go.Proofs.Ytnhmhedabdmnbaa

import Derived.Test.YtapjonmgjccpbaaJ17
set_option linter.unusedSimpArgs false
set_option linter.unusedVariables false
namespace Go.Proofs.Ytapjonmgjccpbaa
open Go.RowKit

/-! tarnref4.TakeMark. -/
set_option maxRecDepth 100000 in
set_option maxHeartbeats 1000000 in
theorem rmtake (s : ByteArray) (hs : s.size ≤ 4611686018427387904) (w : World) :
    Calls Try.prog 42 #[.string s] w fun e w' => e = .returned (.tuple #[.int .u64 (mtV s : Int), .bool (s.size == 8)]) ∧ Below w.heap.size w w' := by
  by_cases h8 : s.size = 8
  · have h8' : (s.size : Int) = 8 := by omega
    have HV : Hid (mtV s = (tst (ees s 8)).1) := by show _ = _; rw [tst_m s 8 (by omega) (by omega), mtV, if_pos h8, ← h8, ← data_len, List.take_length]
    go_enter Try.func42, Try.ntmps42
    go_wp2
    go_loopw [4, 5] (fun m i wr => ∃ k : Nat, k ≤ 8 ∧ m = .int .u64 ((tst (ees s k)).1 : Int) ∧ i = .int .i64 k ∧ wr = w) (fun _ i _ => 8 - (intOf i).toNat)
    case atStart => exact ⟨0, by omega, rfl, rfl, rfl⟩
    case round =>
      obtain ⟨k, hk, rfl, rfl, rfl⟩ := hrel
      by_cases hlt : k < 8
      · have hlt' : (k : Int) < 8 := by omega
        have hlt : k < s.size := by omega
        have hix := fun w => idx_str s (k : Int) k hlt rfl w
        have hv := sh_or (tst (ees s k)).1 s[k].toNat (tst_lt _) (byte_lt _)
        have HS : Hid ((tst (ees s (k + 1))).1 = (tst (ees s k)).1 % 72057594037927936 * 256 + s[k].toNat) := by
          show _ = _
          rw [ees_succ, tst_snoc, byt_eq s k hlt]
          have e : k % 4611686018427387904 = k := Nat.mod_eq_of_lt (by omega)
          unfold tstp
          simp only [e]
          rw [if_neg (by omega)]
        have hb8 := byte_lt s[k]
        generalize (tst (ees s k)).1 = m at *
        go_wp2
        go_roundw
        case rel => exact ⟨k + 1, by omega, by rw [HS.out]; first | rfl | (congr 1; omega), by go_num, trivial⟩
        case measure => simp [intOf]; omega
      · have hlt' : ¬ (k : Int) < 8 := by omega
        obtain rfl : k = 8 := by omega
        go_wp2
        go_ret2
        exact ⟨by rw [HV.out]; first | rfl | (rw [h8]; rfl), Below.refl _ _⟩
  · have h8' : ((s.size : Int) != 8) = true := by rw [bne_iff_ne]; omega
    have HV : Hid (mtV s = 0 ∧ (s.size == 8) = false) := ⟨if_neg h8, beq_eq_false_iff_ne.2 h8⟩
    go_enter Try.func42, Try.ntmps42
    go_wp2
    go_ret2
    exact ⟨by rw [HV.out.1, HV.out.2]; rfl, Below.refl _ _⟩
end Go.Proofs.Ytapjonmgjccpbaa

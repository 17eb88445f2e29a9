import Derived.Test.YtljfenjpnanoiaaWakes
import Derived.Test.YtljfenjpnanoiaaSls
import Derived.Test.YtljfenjpnanoiaaCmp
import Derived.Test.YtljfenjpnanoiaaPCmp0
import Derived.Test.YtljfenjpnanoiaaEql
import Derived.Deep.RegionHeld
import Derived.Deep.DeepCutAuto
set_option linter.unusedSimpArgs false
set_option linter.unusedVariables false
namespace Go.Proofs.Ytljfenjpnanoiaa
open Go.RowKit

theorem bl_le (n : Nat) (h : n < M256) : bl n ≤ 256 := (bl_iff n 256).2 (by unfold M256 at h; simpa using h)
theorem bl_zero_iff (n : Nat) : ((bl n : Int) == 0) = decide (n = 0) := by
  unfold bl
  by_cases h : n = 0
  · simp [h]
  · simp [h]; omega
theorem pow_lt (k : Nat) (h : k < 256) : 2 ^ k < M256 := by
  have : (2 : Nat) ^ k < 2 ^ 256 := Nat.pow_lt_pow_right (by omega) h
  unfold M256; simpa using this
theorem bl_pow (k : Nat) : bl (2 ^ k) = k + 1 := by
  unfold bl
  rw [if_neg (by have := Nat.two_pow_pos k; omega), Nat.log2_two_pow]
theorem below_pow (n : Nat) (h : n < M256) : cmpV n (2 ^ bl n) < 0 := by
  rw [cmpV_less ((bl_iff n (bl n)).1 (Nat.le_refl _))]; decide
theorem above_pow (n : Nat) (h : 0 < bl n) : 0 ≤ cmpV n (2 ^ (bl n - 1)) := by
  have h6 : ¬ bl n ≤ bl n - 1 := by omega
  rw [bl_iff] at h6
  unfold cmpV
  rw [if_neg (by omega)]
  split <;> omega
/-- One bit, set in four limbs. -/
theorem one_bit (k : Nat) (h : k < 256) : (A4 0 0 0 0).setIfInBounds (k / 64) (.int .u64 (IntKind.u64.wrap (2 ^ (k % 64)))) = A4 (lb (2 ^ k) 0) (lb (2 ^ k) 1) (lb (2 ^ k) 2) (lb (2 ^ k) 3) := by
  have hr : k % 64 < 64 := Nat.mod_lt _ (by omega)
  have hq : k / 64 = 0 ∨ k / 64 = 1 ∨ k / 64 = 2 ∨ k / 64 = 3 := by omega
  have ek : k = 64 * (k / 64) + k % 64 := by omega
  have hlt : (2 : Nat) ^ (k % 64) < 18446744073709551616 := by
    have : (2 : Nat) ^ (k % 64) < 2 ^ 64 := Nat.pow_lt_pow_right (by omega) hr
    exact this
  have hp := Nat.two_pow_pos (k % 64)
  have hw : IntKind.u64.wrap (2 ^ (k % 64)) = ((2 ^ (k % 64) : Nat) : Int) := by
    rw [IntKind.wrap_u64]
    have e : ((2 : Int) ^ (k % 64)) = ((2 ^ (k % 64) : Nat) : Int) := by push_cast; rfl
    rw [e]; omega
  rw [hw]
  generalize hp2 : (2 : Nat) ^ (k % 64) = p at *
  have hpk : 2 ^ k = 2 ^ (64 * (k / 64)) * p := by rw [← hp2, ← Nat.pow_add, ← ek]
  rw [hpk]
  have hv : Lim (if k / 64 = 0 then (p : Int) else 0) (if k / 64 = 1 then (p : Int) else 0) (if k / 64 = 2 then (p : Int) else 0) (if k / 64 = 3 then (p : Int) else 0) := by
    unfold Lim; refine ⟨?_, ?_, ?_, ?_⟩ <;> split <;> omega
  have hs : val (if k / 64 = 0 then (p : Int) else 0) (if k / 64 = 1 then (p : Int) else 0) (if k / 64 = 2 then (p : Int) else 0) (if k / 64 = 3 then (p : Int) else 0) = ((2 ^ (64 * (k / 64)) * p : Nat) : Int) := by
    rcases hq with e | e | e | e <;> rw [e] <;> simp [val] <;> omega
  obtain ⟨e0, e1, e2, e3⟩ := lb_of _ _ _ _ _ hv hs
  rw [← e0, ← e1, ← e2, ← e3]
  rcases hq with e | e | e | e <;> rw [e] <;> rfl
theorem tnums_size (n : Nat) : (strOfNums (tnums n)).size = tlen n := by
  simp [strOfNums, tnums, ByteArray.size]
theorem zero_at {w : World} {B : Nat} (h : Bk w B (A4 0 0 0 0) 25) (j : Nat) (hj : j < 4) : w.cell? ⟨B, j, none⟩ = some (.int .u64 0) := by
  rw [h.cell]
  have : j = 0 ∨ j = 1 ∨ j = 2 ∨ j = 3 := by omega
  rcases this with rfl | rfl | rfl | rfl <;> rfl
theorem two_at {w w' : World} {b o : Nat} {v : Value} (hb : Below w.heap.size w w') (hl : b < w.heap.size) (h : w.cell? ⟨b, o, none⟩ = some v) (j : Nat) (u : Value) : (w'.setCell ⟨w.heap.size, j, none⟩ u).cell? ⟨b, o, none⟩ = some v :=
  below_at ((Below.refl w.heap.size w').setCell (p := ⟨w.heap.size, j, none⟩) (Nat.le_refl _) u) hl (below_at hb hl h)
theorem bits_pow (k : Nat) (h : 2 ^ k < M256) (w : World) : Calls Try.prog 28 #[V (2 ^ k)] w fun e W' => e = .returned (.int .i64 ((k : Int) + 1)) ∧ Below w.heap.size w W' := by
  have := bits (2 ^ k) h w
  rw [bl_pow] at this
  exact this
end Go.Proofs.Ytljfenjpnanoiaa

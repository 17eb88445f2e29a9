import Derived.Test.YtgolpadmcalimaaFakeM
set_option linter.unusedSimpArgs false
set_option linter.unusedVariables false
namespace Go.Proofs.Ytgolpadmcalimaa
open Go.RowKit

/-! fee.Fake where the answer is plain. -/
theorem tm_zero (f n d : Nat) (h : f * d < M256) : tm f n d 0 = (f * d, 0) := by
  show (mulV f d, mulOkE f d) = _
  rw [show mulV f d = f * d from if_pos h, show mulOkE f d = 0 from if_pos h]
theorem fk_none (n d : Nat) : FkS 0 n d 0 0 := by
  have h := tm_zero 0 n d (by rw [Nat.zero_mul]; decide)
  rw [Nat.zero_mul] at h
  refine .inr ⟨rfl, 0, ⟨fun j hj => absurd hj (by omega), by rw [h], by rw [h], by show sumL [] < M256; decide⟩, ?_⟩
  show 0 = sumL [] / d
  simp [sumL]
theorem fk_flat (f d : Nat) (h : f * d < M256) (hd : d < M256) (hd0 : 0 < d) : FkS f 0 d f 0 := by
  by_cases hf : f = 0
  · subst hf; exact fk_none 0 d
  · have h0 := tm_zero f 0 d h
    have h1 : tm f 0 d 1 = (0, 0) := by
      show (ntV (tm f 0 d 0).1 0 d 1, ntE (tm f 0 d 0).1 0 d 1) = _
      have ok : ntOk (tm f 0 d 0).1 0 d 1 = true := by
        simp only [ntOk, Nat.mul_one, Nat.mul_zero]; simp [hd]; decide
      rw [show ntV (tm f 0 d 0).1 0 d 1 = (tm f 0 d 0).1 * 0 / (d * 1) from if_pos ok, show ntE (tm f 0 d 0).1 0 d 1 = 0 from if_pos ok]
      simp
    have hs : sm f 0 d 1 = f * d := by
      rw [show (1 : Nat) = 0 + 1 from rfl, sm_succ, h0]
      show sumL [] + _ = _
      simp [sumL]
    refine .inr ⟨rfl, 1, ⟨fun j hj => ?_, by rw [h1], by rw [h1], by rw [hs]; exact h⟩, by rw [hs, Nat.mul_div_cancel _ hd0]⟩
    obtain rfl : j = 0 := by omega
    rw [h0]
    exact ⟨rfl, Nat.ne_of_gt (Nat.mul_pos (by omega) hd0)⟩
/-- What fee.Blob tells of an excess that may be. -/
def BlobS (ex v : Nat) : Prop := ∃ r x, FkS 1 ex 3338477 r x ∧ v = if x = 8 then M256 - 1 else r
theorem BlobS.one {ex v v' : Nat} (h : BlobS ex v) (h' : BlobS ex v') : v = v' := by
  obtain ⟨r, x, h1, rfl⟩ := h
  obtain ⟨r', x', h1', rfl⟩ := h'
  obtain ⟨rfl, rfl⟩ := h1.one h1'
  rfl
theorem BlobS.lt {ex v : Nat} (h : BlobS ex v) : v < M256 := by
  obtain ⟨r, x, h1, rfl⟩ := h
  split
  · decide
  · exact h1.lt.1
theorem blob_zero : BlobS 0 1 := ⟨1, 0, fk_flat 1 3338477 (by decide) (by decide) (by decide), rfl⟩
theorem V_max : V (M256 - 1) = .agg (A4 18446744073709551615 18446744073709551615 18446744073709551615 18446744073709551615) := by
  simp [V, lb, M256]
end Go.Proofs.Ytgolpadmcalimaa

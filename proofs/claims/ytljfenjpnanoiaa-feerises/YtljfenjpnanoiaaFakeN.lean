import Derived.Test.YtljfenjpnanoiaaNextT
import Derived.Test.YtljfenjpnanoiaaRF
set_option linter.unusedSimpArgs false
set_option linter.unusedVariables false
namespace Go.Proofs.Ytljfenjpnanoiaa
open Go.RowKit

/-! The terms of fee.Fake's series: what stands ahead of step k + 1, and the error there. -/
def tm (f n d : Nat) : Nat → Nat × Int
  | 0 => (mulV f d, mulOkE f d)
  | k + 1 => (ntV (tm f n d k).1 n d (k + 1), ntE (tm f n d k).1 n d (k + 1))
def Alive (f n d k : Nat) : Prop := ∀ j, j < k → (tm f n d j).2 = 0 ∧ (tm f n d j).1 ≠ 0
def ys (f n d : Nat) (k : Nat) : List (Nat × Int) := (List.range k).map fun j => ((tm f n d j).1, 0)
theorem ys_succ (f n d k : Nat) : ys f n d (k + 1) = ys f n d k ++ [((tm f n d k).1, 0)] := by simp [ys, List.range_succ]
theorem mulV_lt (f d : Nat) : mulV f d < M256 := by
  unfold mulV; split
  · assumption
  · decide
theorem tm_lt (f n d k : Nat) : (tm f n d k).1 < M256 := by
  cases k with
  | zero => exact mulV_lt f d
  | succ k => exact ntV_lt _ _ _ _
theorem tm_err (f n d k : Nat) : (tm f n d k).2 = 0 ∨ (tm f n d k).2 = 8 := by
  cases k with
  | zero => simp only [tm, mulOkE]; split <;> simp
  | succ k => simp only [tm, ntE]; split <;> simp
theorem tm_end (f n d : Nat) : (tm f n d 4097).2 = 8 := by
  show ntE (tm f n d 4096).1 n d 4097 = 8
  unfold ntE
  rw [if_neg]
  simp [ntOk]
theorem alive_le {f n d k : Nat} (h : Alive f n d k) : k ≤ 4097 := by
  apply Nat.le_of_not_lt
  intro hk
  have := (h 4097 hk).1
  rw [tm_end] at this
  simp at this
theorem alive_succ {f n d k : Nat} (h : Alive f n d k) (h0 : (tm f n d k).2 = 0) (h1 : (tm f n d k).1 ≠ 0) : Alive f n d (k + 1) := by
  intro j hj
  by_cases e : j = k
  · subst e; exact ⟨h0, h1⟩
  · exact h j (by omega)
/-- What the sequence tells when nobody stops it; when somebody does. -/
def TS (f n d : Nat) (xs : List (Nat × Int)) : Prop := ∃ k, Alive f n d k ∧ (((tm f n d k).2 = 0 ∧ (tm f n d k).1 = 0 ∧ xs = ys f n d k) ∨ ((tm f n d k).2 = 8 ∧ xs = ys f n d k ++ [(0, 8)]))
def TP (f n d : Nat) (xs : List (Nat × Int)) : Prop := ∃ k, Alive f n d k ∧ (((tm f n d k).2 = 0 ∧ (tm f n d k).1 ≠ 0 ∧ xs = ys f n d (k + 1)) ∨ ((tm f n d k).2 = 8 ∧ xs = ys f n d k ++ [(0, 8)]))
def tenc (x : Nat × Int) : Array Value := #[V x.1, .int .i64 x.2]
end Go.Proofs.Ytljfenjpnanoiaa

set_option linter.unusedSimpArgs false
set_option linter.unusedVariables false
namespace Go.Proofs.Ytljfenjpnanoiaa
open Go.RowKit

/-! What fee.Fake tells: the sum of the terms, by the denominator; or that something is over. -/
def sumL (l : List (Nat × Int)) : Nat := (l.map fun x => x.1 % M256).sum
theorem sumL_snoc (l : List (Nat × Int)) (x : Nat × Int) : sumL (l ++ [x]) = sumL l + x.1 % M256 := by simp [sumL]
def sm (f n d k : Nat) : Nat := sumL (ys f n d k)
theorem sm_succ (f n d k : Nat) : sm f n d (k + 1) = sm f n d k + (tm f n d k).1 := by
  unfold sm; rw [ys_succ, sumL_snoc, Nat.mod_eq_of_lt (tm_lt f n d k)]
theorem sm_mono (f n d : Nat) {j k : Nat} (h : j ≤ k) : sm f n d j ≤ sm f n d k := by
  induction k with
  | zero => rw [show j = 0 by omega]; exact Nat.le_refl _
  | succ k ih =>
    by_cases e : j = k + 1
    · rw [e]; exact Nat.le_refl _
    · have := ih (by omega); rw [sm_succ]; omega
def FkOver (f n d : Nat) : Prop := ∃ k, Alive f n d k ∧ ((tm f n d k).2 = 8 ∨ ((tm f n d k).2 = 0 ∧ (tm f n d k).1 ≠ 0 ∧ M256 ≤ sm f n d (k + 1)))
def FkDone (f n d k : Nat) : Prop := Alive f n d k ∧ (tm f n d k).2 = 0 ∧ (tm f n d k).1 = 0 ∧ sm f n d k < M256
def FkS (f n d r : Nat) (e : Int) : Prop := (e = 8 ∧ r = 0 ∧ FkOver f n d) ∨ (e = 0 ∧ ∃ k, FkDone f n d k ∧ r = sm f n d k / d)
theorem done_one {f n d j k : Nat} (h : FkDone f n d j) (h' : FkDone f n d k) : j = k := by
  rcases Nat.lt_trichotomy j k with a | a | a
  · exact absurd h.2.2.1 (h'.1 j a).2
  · exact a
  · exact absurd h'.2.2.1 (h.1 k a).2
theorem not_both {f n d k : Nat} (h : FkDone f n d k) (h' : FkOver f n d) : False := by
  obtain ⟨j, ha, hj⟩ := h'
  rcases Nat.lt_trichotomy j k with a | a | a
  · have hb := h.1 j a
    rcases hj with hj | ⟨_, _, hj⟩
    · rw [hb.1] at hj; simp at hj
    · have := sm_mono f n d (show j + 1 ≤ k by omega)
      have := h.2.2.2
      omega
  · subst a
    rcases hj with hj | ⟨_, hj, _⟩
    · rw [h.2.1] at hj; simp at hj
    · exact hj h.2.2.1
  · exact absurd h.2.2.1 (ha k a).2
/-- It is one answer. -/
theorem FkS.one {f n d r r' : Nat} {e e' : Int} (h : FkS f n d r e) (h' : FkS f n d r' e') : r = r' ∧ e = e' := by
  rcases h with ⟨a, b, c⟩ | ⟨a, k, b, c⟩ <;> rcases h' with ⟨a', b', c'⟩ | ⟨a', k', b', c'⟩
  · exact ⟨b.trans b'.symm, a.trans a'.symm⟩
  · exact (not_both b' c).elim
  · exact (not_both b c').elim
  · have := done_one b b'; subst this; exact ⟨c.trans c'.symm, a.trans a'.symm⟩
theorem FkS.lt {f n d r : Nat} {e : Int} (h : FkS f n d r e) : r < M256 ∧ (e = 0 ∨ e = 8) := by
  rcases h with ⟨a, b, _⟩ | ⟨a, k, b, c⟩
  · exact ⟨by rw [b]; decide, .inr a⟩
  · exact ⟨by rw [c]; exact Nat.lt_of_le_of_lt (Nat.div_le_self _ _) b.2.2.2, .inl a⟩
theorem V_mod (n : Nat) : V n = V (n % M256) := by
  have h : ∀ i, i < 4 → lb n i = lb (n % M256) i := by
    intro i hi
    unfold lb
    have e : M256 = 2 ^ (64 * i) * (18446744073709551616 * 2 ^ (64 * (3 - i))) := by
      have h1 : (18446744073709551616 : Nat) = 2 ^ 64 := by decide
      rw [h1, ← Nat.pow_add, ← Nat.pow_add, show 64 * i + (64 + 64 * (3 - i)) = 256 by omega]
      decide
    rw [e, Nat.mod_mul_right_div_self, Nat.mod_mul_right_mod]
  rw [V, V, h 0 (by omega), h 1 (by omega), h 2 (by omega), h 3 (by omega)]
end Go.Proofs.Ytljfenjpnanoiaa

set_option linter.unusedSimpArgs false
set_option linter.unusedVariables false
namespace Go.Proofs.Ytljfenjpnanoiaa
open Go.RowKit

/-! fee.Fake where the answer is plain. -/
theorem tm_zero (f n d : Nat) (h : f * d < M256) : tm f n d 0 = (f * d, 0) := by
  show (mulV f d, mulOkE f d) = _
  rw [show mulV f d = f * d from if_pos h, show mulOkE f d = 0 from if_pos h]
theorem fk_none (n d : Nat) : FkS 0 n d 0 0 := by
  have h := tm_zero 0 n d (by rw [Nat.zero_mul]; decide)
  rw [Nat.zero_mul] at h
  refine .inr ⟨rfl, 0, ⟨fun j hj => absurd hj (by omega), by rw [h], by rw [h], by show sumL [] < M256; decide⟩, ?_⟩
  show 0 = sumL [] / d
  simp [sumL]
theorem fk_flat (f d : Nat) (h : f * d < M256) (hd : d < M256) (hd0 : 0 < d) : FkS f 0 d f 0 := by
  by_cases hf : f = 0
  · subst hf; exact fk_none 0 d
  · have h0 := tm_zero f 0 d h
    have h1 : tm f 0 d 1 = (0, 0) := by
      show (ntV (tm f 0 d 0).1 0 d 1, ntE (tm f 0 d 0).1 0 d 1) = _
      have ok : ntOk (tm f 0 d 0).1 0 d 1 = true := by
        simp only [ntOk, Nat.mul_one, Nat.mul_zero]; simp [hd]; decide
      rw [show ntV (tm f 0 d 0).1 0 d 1 = (tm f 0 d 0).1 * 0 / (d * 1) from if_pos ok, show ntE (tm f 0 d 0).1 0 d 1 = 0 from if_pos ok]
      simp
    have hs : sm f 0 d 1 = f * d := by
      rw [show (1 : Nat) = 0 + 1 from rfl, sm_succ, h0]
      show sumL [] + _ = _
      simp [sumL]
    refine .inr ⟨rfl, 1, ⟨fun j hj => ?_, by rw [h1], by rw [h1], by rw [hs]; exact h⟩, by rw [hs, Nat.mul_div_cancel _ hd0]⟩
    obtain rfl : j = 0 := by omega
    rw [h0]
    exact ⟨rfl, Nat.ne_of_gt (Nat.mul_pos (by omega) hd0)⟩
/-- What fee.Blob tells of an excess that may be. -/
def BlobS (ex v : Nat) : Prop := ∃ r x, FkS 1 ex 3338477 r x ∧ v = if x = 8 then M256 - 1 else r
theorem BlobS.one {ex v v' : Nat} (h : BlobS ex v) (h' : BlobS ex v') : v = v' := by
  obtain ⟨r, x, h1, rfl⟩ := h
  obtain ⟨r', x', h1', rfl⟩ := h'
  obtain ⟨rfl, rfl⟩ := h1.one h1'
  rfl
theorem BlobS.lt {ex v : Nat} (h : BlobS ex v) : v < M256 := by
  obtain ⟨r, x, h1, rfl⟩ := h
  split
  · decide
  · exact h1.lt.1
theorem blob_zero : BlobS 0 1 := ⟨1, 0, fk_flat 1 3338477 (by decide) (by decide) (by decide), rfl⟩
theorem V_max : V (M256 - 1) = .agg (A4 18446744073709551615 18446744073709551615 18446744073709551615 18446744073709551615) := by
  simp [V, lb, M256]
end Go.Proofs.Ytljfenjpnanoiaa

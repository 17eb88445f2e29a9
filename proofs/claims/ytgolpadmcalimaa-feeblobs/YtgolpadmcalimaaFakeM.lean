import Derived.Test.YtgolpadmcalimaaTermM
set_option linter.unusedSimpArgs false
set_option linter.unusedVariables false
namespace Go.Proofs.Ytgolpadmcalimaa
open Go.RowKit

/-! What fee.Fake tells: the sum of the terms, by the denominator; or that something is over. -/
def sumL (l : List (Nat × Int)) : Nat := (l.map fun x => x.1 % M256).sum
theorem sumL_snoc (l : List (Nat × Int)) (x : Nat × Int) : sumL (l ++ [x]) = sumL l + x.1 % M256 := by simp [sumL]
def sm (f n d k : Nat) : Nat := sumL (ys f n d k)
theorem sm_succ (f n d k : Nat) : sm f n d (k + 1) = sm f n d k + (tm f n d k).1 := by
  unfold sm; rw [ys_succ, sumL_snoc, Nat.mod_eq_of_lt (tm_lt f n d k)]
theorem sm_mono (f n d : Nat) {j k : Nat} (h : j ≤ k) : sm f n d j ≤ sm f n d k := by
  induction k with
  | zero => rw [show j = 0 by omega]; exact Nat.le_refl _
  | succ k ih =>
    by_cases e : j = k + 1
    · rw [e]; exact Nat.le_refl _
    · have := ih (by omega); rw [sm_succ]; omega
def FkOver (f n d : Nat) : Prop := ∃ k, Alive f n d k ∧ ((tm f n d k).2 = 8 ∨ ((tm f n d k).2 = 0 ∧ (tm f n d k).1 ≠ 0 ∧ M256 ≤ sm f n d (k + 1)))
def FkDone (f n d k : Nat) : Prop := Alive f n d k ∧ (tm f n d k).2 = 0 ∧ (tm f n d k).1 = 0 ∧ sm f n d k < M256
def FkS (f n d r : Nat) (e : Int) : Prop := (e = 8 ∧ r = 0 ∧ FkOver f n d) ∨ (e = 0 ∧ ∃ k, FkDone f n d k ∧ r = sm f n d k / d)
theorem done_one {f n d j k : Nat} (h : FkDone f n d j) (h' : FkDone f n d k) : j = k := by
  rcases Nat.lt_trichotomy j k with a | a | a
  · exact absurd h.2.2.1 (h'.1 j a).2
  · exact a
  · exact absurd h'.2.2.1 (h.1 k a).2
theorem not_both {f n d k : Nat} (h : FkDone f n d k) (h' : FkOver f n d) : False := by
  obtain ⟨j, ha, hj⟩ := h'
  rcases Nat.lt_trichotomy j k with a | a | a
  · have hb := h.1 j a
    rcases hj with hj | ⟨_, _, hj⟩
    · rw [hb.1] at hj; simp at hj
    · have := sm_mono f n d (show j + 1 ≤ k by omega)
      have := h.2.2.2
      omega
  · subst a
    rcases hj with hj | ⟨_, hj, _⟩
    · rw [h.2.1] at hj; simp at hj
    · exact hj h.2.2.1
  · exact absurd h.2.2.1 (ha k a).2
/-- It is one answer. -/
theorem FkS.one {f n d r r' : Nat} {e e' : Int} (h : FkS f n d r e) (h' : FkS f n d r' e') : r = r' ∧ e = e' := by
  rcases h with ⟨a, b, c⟩ | ⟨a, k, b, c⟩ <;> rcases h' with ⟨a', b', c'⟩ | ⟨a', k', b', c'⟩
  · exact ⟨b.trans b'.symm, a.trans a'.symm⟩
  · exact (not_both b' c).elim
  · exact (not_both b c').elim
  · have := done_one b b'; subst this; exact ⟨c.trans c'.symm, a.trans a'.symm⟩
theorem FkS.lt {f n d r : Nat} {e : Int} (h : FkS f n d r e) : r < M256 ∧ (e = 0 ∨ e = 8) := by
  rcases h with ⟨a, b, _⟩ | ⟨a, k, b, c⟩
  · exact ⟨by rw [b]; decide, .inr a⟩
  · exact ⟨by rw [c]; exact Nat.lt_of_le_of_lt (Nat.div_le_self _ _) b.2.2.2, .inl a⟩
theorem V_mod (n : Nat) : V n = V (n % M256) := by
  have h : ∀ i, i < 4 → lb n i = lb (n % M256) i := by
    intro i hi
    unfold lb
    have e : M256 = 2 ^ (64 * i) * (18446744073709551616 * 2 ^ (64 * (3 - i))) := by
      have h1 : (18446744073709551616 : Nat) = 2 ^ 64 := by decide
      rw [h1, ← Nat.pow_add, ← Nat.pow_add, show 64 * i + (64 + 64 * (3 - i)) = 256 by omega]
      decide
    rw [e, Nat.mod_mul_right_div_self, Nat.mod_mul_right_mod]
  rw [V, V, h 0 (by omega), h 1 (by omega), h 2 (by omega), h 3 (by omega)]
end Go.Proofs.Ytgolpadmcalimaa

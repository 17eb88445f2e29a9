import Derived.Test.YtljfenjpnanoiaaPart
set_option linter.unusedSimpArgs false
set_option linter.unusedVariables false
namespace Go.Proofs.Ytljfenjpnanoiaa
open Go.RowKit

/-! The level of a number, in plain arithmetic. -/
/-- What bit j behind the highest one (at top) counts, 0 where there is none. -/
def cb (n top j : Nat) : Nat := if j < top then bitn n (top - 1 - j) else 0
theorem bitn_lt (n i : Nat) : bitn n i < 2 := Nat.mod_lt _ (by omega)
theorem pt_eq (n top : Nat) : pt n top = 4 * cb n top 0 + 2 * cb n top 1 + cb n top 2 := by
  have st : ∀ (a b c : Nat), a < 2 → b < 2 → c < 2 → (ps [a, b, c]).2 = 0 ∧ (ps [a, b, c]).1 = 4 * a + 2 * b + c := by
    intro a b c ha hb hc
    have ha' : a = 0 ∨ a = 1 := by omega
    have hb' : b = 0 ∨ b = 1 := by omega
    have hc' : c = 0 ∨ c = 1 := by omega
    rcases ha' with rfl | rfl <;> rcases hb' with rfl | rfl <;> rcases hc' with rfl | rfl <;> decide
  rcases Nat.lt_or_ge top 3 with h3 | h3
  · have h : top = 0 ∨ top = 1 ∨ top = 2 := by omega
    rcases h with rfl | rfl | rfl
    · rfl
    · have e : pt n 1 = (ps [bitn n 0]).1 := rfl
      have hb := bitn_lt n 0
      rw [e]
      simp only [cb, Nat.sub_self, Nat.zero_lt_one, if_true, Nat.lt_irrefl, if_false, Nat.reduceLT]
      generalize bitn n 0 = a at hb
      have ha' : a = 0 ∨ a = 1 := by omega
      rcases ha' with rfl | rfl <;> decide
    · have e : pt n 2 = (ps [bitn n 1, bitn n 0]).1 := rfl
      have hb := bitn_lt n 1
      have hc := bitn_lt n 0
      rw [e]
      simp only [cb, Nat.reduceSub, Nat.reduceLT, if_true, if_false]
      generalize bitn n 1 = a at hb
      generalize bitn n 0 = b at hc
      have ha' : a = 0 ∨ a = 1 := by omega
      have hb' : b = 0 ∨ b = 1 := by omega
      rcases ha' with rfl | rfl <;> rcases hb' with rfl | rfl <;> decide
  · obtain ⟨zs, hz⟩ := bls_pre n top 3 h3
    have e3 : bls n top 3 = [bitn n (top - 1 - 0), bitn n (top - 1 - 1), bitn n (top - 1 - 2)] := rfl
    have := st _ _ _ (bitn_lt n (top - 1 - 0)) (bitn_lt n (top - 1 - 1)) (bitn_lt n (top - 1 - 2))
    rw [← e3] at this
    unfold pt
    rw [hz, ps_done _ _ this.1, this.2]
    simp only [cb]
    rw [if_pos (by omega), if_pos (by omega), if_pos (by omega)]
def lw (n top j : Nat) : Nat := n * 2 ^ j / 2 ^ top
theorem lw_step (n top j : Nat) : lw n top (j + 1) = 2 * lw n top j + cb n top j := by
  unfold lw cb
  split
  · rename_i h
    obtain ⟨t, rfl⟩ : ∃ t, top = t + 1 + j := ⟨top - 1 - j, by omega⟩
    rw [show t + 1 + j - 1 - j = t by omega]
    have e1 : n * 2 ^ (j + 1) / 2 ^ (t + 1 + j) = n / 2 ^ t := by
      rw [show t + 1 + j = t + (j + 1) by omega, Nat.pow_add 2 t (j + 1), Nat.mul_div_mul_right _ _ (Nat.two_pow_pos _)]
    have e2 : n * 2 ^ j / 2 ^ (t + 1 + j) = n / 2 ^ t / 2 := by
      rw [Nat.pow_add, Nat.mul_div_mul_right _ _ (Nat.two_pow_pos _), Nat.pow_succ, Nat.div_div_eq_div_mul]
    rw [e1, e2]
    unfold bitn
    omega
  · rename_i h
    obtain ⟨t, rfl⟩ : ∃ t, j = t + top := ⟨j - top, by omega⟩
    have e1 : n * 2 ^ (t + top + 1) / 2 ^ top = n * 2 ^ (t + 1) := by
      rw [show t + top + 1 = (t + 1) + top by omega, Nat.pow_add, ← Nat.mul_assoc, Nat.mul_div_cancel _ (Nat.two_pow_pos _)]
    have e2 : n * 2 ^ (t + top) / 2 ^ top = n * 2 ^ t := by
      rw [Nat.pow_add, ← Nat.mul_assoc, Nat.mul_div_cancel _ (Nat.two_pow_pos _)]
    rw [e1, e2, Nat.pow_succ]
    have : n * (2 ^ t * 2) = 2 * (n * 2 ^ t) := by rw [← Nat.mul_assoc, Nat.mul_comm]
    omega
/-- The level: eight for each bit but the first, and how many eighths of the power of two lie above it, and one. -/
def lvl (n : Nat) : Nat := if n = 0 then 0 else 8 * (bl n - 1) + pt n (bl n - 1) + 1
theorem bl_top {n : Nat} (h : n ≠ 0) : 2 ^ (bl n - 1) ≤ n ∧ n < 2 * 2 ^ (bl n - 1) ∧ 0 < bl n := by
  have h1 : n < 2 ^ bl n := (bl_iff n (bl n)).1 (Nat.le_refl _)
  have h0 : 0 < bl n := by
    apply Nat.pos_of_ne_zero
    intro e
    rw [e] at h1
    simp at h1
    exact h h1
  refine ⟨?_, ?_, h0⟩
  · apply Nat.le_of_not_lt
    intro hlt
    have := (bl_iff n (bl n - 1)).2 hlt
    omega
  · rw [← Nat.pow_succ', show (bl n - 1).succ = bl n by omega]
    exact h1
theorem lvl_eq {n : Nat} (h : n ≠ 0) : lvl n + 7 = 8 * (bl n - 1) + 8 * n / 2 ^ (bl n - 1) := by
  obtain ⟨h1, h2, h0⟩ := bl_top h
  generalize ht : bl n - 1 = t at h1 h2
  have hp := Nat.two_pow_pos t
  have e0 : lw n t 0 = 1 := by
    unfold lw
    rw [Nat.pow_zero, Nat.mul_one]
    exact Nat.div_eq_of_lt_le (by omega) (by omega)
  have e1 : lw n t 1 = _ := lw_step n t 0
  have e2 : lw n t 2 = _ := lw_step n t 1
  have e3 : lw n t 3 = _ := lw_step n t 2
  have e4 : lw n t 3 = 8 * n / 2 ^ t := by unfold lw; rw [show n * 2 ^ 3 = 8 * n by omega]
  have e5 := pt_eq n t
  unfold lvl
  rw [if_neg h, ht]
  omega
theorem lvl_zero : lvl 0 = 0 := rfl
theorem pt_le (n t : Nat) : pt n t ≤ 8 := by have := ps_bound (bls n t t); unfold pt; omega
theorem bl_le256 {n : Nat} (h : n < M256) : bl n ≤ 256 := (bl_iff n 256).2 (by unfold M256 at h; simpa using h)
theorem lvl_le {n : Nat} (h : n < M256) : lvl n ≤ 2049 := by
  have := bl_le256 h
  have := pt_le n (bl n - 1)
  unfold lvl
  split <;> omega
/-- What lies in [2^t, 2^(t+1)) has this many bits. -/
theorem bl_of {n t : Nat} (h1 : 2 ^ t ≤ n) (h2 : n < 2 * 2 ^ t) : bl n = t + 1 := by
  apply Nat.le_antisymm
  · exact (bl_iff n (t + 1)).2 (by rw [Nat.pow_succ]; omega)
  · apply Nat.le_of_not_lt
    intro hlt
    have := (bl_iff n t).1 (by omega)
    omega
theorem lvl_of {n t : Nat} (h1 : 2 ^ t ≤ n) (h2 : n < 2 * 2 ^ t) : lvl n + 7 = 8 * t + 8 * n / 2 ^ t ∧ 8 ≤ 8 * n / 2 ^ t ∧ 8 * n / 2 ^ t ≤ 15 := by
  have hp := Nat.two_pow_pos t
  have h := lvl_eq (n := n) (by omega)
  rw [bl_of h1 h2, Nat.add_sub_cancel] at h
  refine ⟨h, ?_, ?_⟩
  · exact (Nat.le_div_iff_mul_le hp).2 (by omega)
  · apply Nat.le_of_lt_succ
    exact (Nat.div_lt_iff_lt_mul hp).2 (by omega)
theorem lvl_mono {a b : Nat} (h : a ≤ b) : lvl a ≤ lvl b := by
  by_cases ha : a = 0
  · subst ha; rw [lvl_zero]; omega
  · have hb : b ≠ 0 := by omega
    obtain ⟨p1, p2, p3⟩ := bl_top ha
    obtain ⟨q1, q2, q3⟩ := bl_top hb
    obtain ⟨e1, e2, e3⟩ := lvl_of p1 p2
    obtain ⟨f1, f2, f3⟩ := lvl_of q1 q2
    have hle : bl a ≤ bl b := (bl_iff a (bl b)).2 (Nat.lt_of_le_of_lt h ((bl_iff b (bl b)).1 (Nat.le_refl _)))
    by_cases hq : bl a = bl b
    · rw [hq] at e1
      have : 8 * a / 2 ^ (bl b - 1) ≤ 8 * b / 2 ^ (bl b - 1) := Nat.div_le_div_right (by omega)
      omega
    · omega
theorem lvl_pos {a : Nat} (h : a ≠ 0) : 1 ≤ lvl a := by unfold lvl; rw [if_neg h]; omega
theorem lvl_double {a : Nat} (h : a ≠ 0) : lvl (a + a) = lvl a + 8 := by
  obtain ⟨p1, p2, p3⟩ := bl_top h
  obtain ⟨e1, e2, e3⟩ := lvl_of p1 p2
  have q1 : 2 ^ (bl a - 1 + 1) ≤ a + a := by rw [Nat.pow_succ]; omega
  have q2 : a + a < 2 * 2 ^ (bl a - 1 + 1) := by rw [Nat.pow_succ]; omega
  obtain ⟨f1, f2, f3⟩ := lvl_of q1 q2
  have : 8 * (a + a) / 2 ^ (bl a - 1 + 1) = 8 * a / 2 ^ (bl a - 1) := by
    rw [Nat.pow_succ, show 8 * (a + a) = 8 * a * 2 by omega, Nat.mul_div_mul_right _ _ (by omega)]
  omega
theorem lvl_part {a : Nat} (h : a ≠ 0) : lvl (a + a / 16) ≤ lvl a + 1 := by
  obtain ⟨p1, p2, p3⟩ := bl_top h
  obtain ⟨e1, e2, e3⟩ := lvl_of p1 p2
  generalize bl a - 1 = t at *
  have hp := Nat.two_pow_pos t
  by_cases hc : a + a / 16 < 2 * 2 ^ t
  · obtain ⟨f1, f2, f3⟩ := lvl_of (n := a + a / 16) (t := t) (by omega) hc
    have hd := Nat.div_add_mod (8 * a) (2 ^ t)
    have hm := Nat.mod_lt (8 * a) hp
    generalize 8 * a / 2 ^ t = q at *
    have : 8 * (a + a / 16) / 2 ^ t < q + 2 := by
      rw [Nat.div_lt_iff_lt_mul hp]
      have : (q + 2) * 2 ^ t = 2 ^ t * q + 2 * 2 ^ t := by rw [Nat.add_mul, Nat.mul_comm q]
      omega
    omega
  · have q1 : 2 ^ (t + 1) ≤ a + a / 16 := by rw [Nat.pow_succ]; omega
    have q2 : a + a / 16 < 2 * 2 ^ (t + 1) := by rw [Nat.pow_succ]; omega
    obtain ⟨f1, f2, f3⟩ := lvl_of q1 q2
    have h15 : 15 ≤ 8 * a / 2 ^ t := (Nat.le_div_iff_mul_le hp).2 (by omega)
    have h8 : 8 * (a + a / 16) / 2 ^ (t + 1) < 9 := by
      rw [Nat.div_lt_iff_lt_mul (Nat.two_pow_pos _), Nat.pow_succ]; omega
    omega
end Go.Proofs.Ytljfenjpnanoiaa

import Derived.Test.YtljfenjpnanoiaaFakeN
import Derived.Test.YtljfenjpnanoiaaNext
set_option linter.unusedSimpArgs false
set_option linter.unusedVariables false
namespace Go.Proofs.Ytljfenjpnanoiaa
open Go.RowKit

/-! More excess costs no less: the terms, their sums, what fee.Blob tells. -/
theorem tm_rise {f n n' d k : Nat} (hn : n ≤ n') (ha : Alive f n' d k) (he : (tm f n' d k).2 = 0) : ∀ j, j ≤ k → (tm f n d j).2 = 0 ∧ (tm f n d j).1 ≤ (tm f n' d j).1 := by
  have err : ∀ j, j ≤ k → (tm f n' d j).2 = 0 := fun j hj => by
    by_cases e : j = k
    · rw [e]; exact he
    · exact (ha j (by omega)).1
  intro j
  induction j with
  | zero => intro _; exact ⟨err 0 (by omega), Nat.le_refl _⟩
  | succ j ih =>
    intro hj
    obtain ⟨_, h2⟩ := ih (by omega)
    have h3 : ntE (tm f n' d j).1 n' d (j + 1) = 0 := err (j + 1) hj
    have ok' : ntOk (tm f n' d j).1 n' d (j + 1) = true := by
      unfold ntE at h3
      split at h3
      · assumption
      · simp at h3
    have hmul : (tm f n d j).1 * n ≤ (tm f n' d j).1 * n' := Nat.mul_le_mul h2 hn
    have ok : ntOk (tm f n d j).1 n d (j + 1) = true := by
      simp only [ntOk, Bool.and_eq_true, decide_eq_true_eq] at ok' ⊢
      exact ⟨ok'.1, by omega⟩
    refine ⟨show ntE (tm f n d j).1 n d (j + 1) = 0 from if_pos ok, ?_⟩
    show ntV (tm f n d j).1 n d (j + 1) ≤ ntV (tm f n' d j).1 n' d (j + 1)
    unfold ntV
    rw [if_pos ok, if_pos ok']
    exact Nat.div_le_div_right hmul
theorem sm_rise {f n n' d k : Nat} (hn : n ≤ n') (ha : Alive f n' d k) (he : (tm f n' d k).2 = 0) : ∀ j, j ≤ k + 1 → sm f n d j ≤ sm f n' d j := by
  intro j
  induction j with
  | zero => intro _; exact Nat.le_refl _
  | succ j ih =>
    intro hj
    have h1 := ih (by omega)
    have h2 := (tm_rise hn ha he j (by omega)).2
    rw [sm_succ, sm_succ]
    omega
theorem fk_rise {f n n' d k r : Nat} {e : Int} (hn : n ≤ n') (hd : FkDone f n' d k) (h : FkS f n d r e) : e = 0 ∧ r ≤ sm f n' d k / d := by
  obtain ⟨ha, he, h0, hs⟩ := hd
  have t := tm_rise hn ha he
  have s := sm_rise hn ha he
  have last : ¬ (tm f n d k).1 ≠ 0 := fun hne => hne (by have := (t k (Nat.le_refl _)).2; omega)
  rcases h with ⟨_, _, j, hj, hov⟩ | ⟨e0, j, hj, hr⟩
  · exfalso
    rcases Nat.lt_trichotomy j k with c | c | c
    · rcases hov with h8 | ⟨_, _, hm⟩
      · rw [(t j (by omega)).1] at h8; simp at h8
      · have h1 := s (j + 1) (by omega)
        have h2 := sm_mono f n' d (show j + 1 ≤ k by omega)
        omega
    · subst c
      rcases hov with h8 | ⟨_, hne, _⟩
      · rw [(t j (by omega)).1] at h8; simp at h8
      · exact last hne
    · exact last (hj k c).2
  · refine ⟨e0, ?_⟩
    have hjk : j ≤ k := by
      apply Nat.le_of_not_lt
      intro c
      exact last (hj.1 k c).2
    rw [hr]
    have h1 := s j (by omega)
    have h2 := sm_mono f n' d hjk
    exact Nat.div_le_div_right (by omega)
theorem blob_rise {n n' v v' : Nat} (hn : n ≤ n') (h : BlobS n v) (h' : BlobS n' v') : v ≤ v' := by
  have hv := h.lt
  obtain ⟨r', x', h2, rfl⟩ := h'
  by_cases h8 : x' = 8
  · rw [if_pos h8]; omega
  · rw [if_neg h8]
    rcases h2 with ⟨a, _⟩ | ⟨_, k, hk, hr⟩
    · exact absurd a h8
    · obtain ⟨r, x, h1, rfl⟩ := h
      obtain ⟨e0, hle⟩ := fk_rise hn hk h1
      rw [if_neg (by rw [e0]; decide), hr]
      exact hle
/-! A fuller block asks no less: what fee.Next tells, of a fee of up to 192 bits. -/
theorem nx_ok (n u t : Nat) (hn : n < 6277101735386680763835789423207666416102355444464034512896) (t1 : 1 ≤ t) (t2 : t ≤ 1073741824) (hu : u ≤ 2 * t) : nxOk n u t = true := by
  have hd : nxD u t ≤ t := by unfold nxD; split <;> omega
  have hm : n * nxD u t ≤ n * 1073741824 := Nat.mul_le_mul_left _ (by omega)
  have hm2 : n * nxD u t ≤ n * t := Nat.mul_le_mul_left _ hd
  have hc : nxC n u t ≤ n := by
    unfold nxC
    have : n * nxD u t / t ≤ n := by
      apply Nat.div_le_of_le_mul
      rw [Nat.mul_comm t n]; exact hm2
    omega
  simp only [nxOk, Bool.or_eq_true, Bool.and_eq_true, decide_eq_true_eq]
  right
  refine ⟨by unfold M256; omega, .inr ?_⟩
  unfold M256
  have : max 1 (nxC n u t) ≤ n + 1 := by omega
  omega
theorem nxC_mono (n t u u' : Nat) (h : nxD u t ≤ nxD u' t) : nxC n u t ≤ nxC n u' t := by
  unfold nxC
  exact Nat.div_le_div_right (Nat.div_le_div_right (Nat.mul_le_mul_left _ h))
theorem nx_rise (n u v t : Nat) (hn : n < 6277101735386680763835789423207666416102355444464034512896) (t1 : 1 ≤ t) (t2 : t ≤ 1073741824) (hu : u ≤ t) (hv1 : t ≤ v) (hv2 : v ≤ 2 * t) :
    nxV n u t ≤ n ∧ n ≤ nxV n v t ∧ nxV n 0 t ≤ nxV n u t ∧ nxV n v t ≤ nxV n (2 * t) t := by
  have o1 := nx_ok n u t hn t1 t2 (by omega)
  have o2 := nx_ok n v t hn t1 t2 (by omega)
  have o3 := nx_ok n 0 t hn t1 t2 (by omega)
  have o4 := nx_ok n (2 * t) t hn t1 t2 (by omega)
  have c1 := nxC_mono n t u 0 (by unfold nxD; split <;> split <;> omega)
  have c2 := nxC_mono n t v (2 * t) (by unfold nxD; split <;> split <;> omega)
  unfold nxV
  rw [if_pos o1, if_pos o2, if_pos o3, if_pos o4, if_neg (show ¬ 0 = t by omega), if_pos (show 0 < t by omega), if_neg (show ¬ 2 * t = t by omega), if_neg (show ¬ 2 * t < t by omega)]
  refine ⟨?_, ?_, ?_, ?_⟩
  · split
    · exact Nat.le_refl _
    · rw [if_pos (by omega)]; omega
  · split
    · exact Nat.le_refl _
    · rw [if_neg (by omega)]; omega
  · split
    · omega
    · rw [if_pos (by omega)]; omega
  · split
    · omega
    · rw [if_neg (by omega)]; omega
end Go.Proofs.Ytljfenjpnanoiaa

import Derived.Test.YtliaegnhnnnojaaRtC
set_option linter.unusedSimpArgs false
set_option linter.unusedVariables false
namespace Go.Proofs.Ytliaegnhnnnojaa
open Go.RowKit

/-! What is read is written again as it was read. -/
theorem takeV_inj : ∀ (l m : List UInt8), l.length = m.length → takeV l = takeV m → l = m
  | [], [], _, _ => rfl
  | [], _ :: _, h, _ => by simp at h
  | _ :: _, [], h, _ => by simp at h
  | a :: l, b :: m, h, hv => by
    have hl : l.length = m.length := by simpa using h
    rw [takeV_cons, takeV_cons, hl] at hv
    have h1 := takeV_lt l
    have h2 := takeV_lt m
    rw [hl] at h1
    generalize 2 ^ (8 * m.length) = K at *
    have hab : a.toNat = b.toNat := by
      have e1 : (a.toNat * K + takeV l) / K = a.toNat := by
        rw [Nat.mul_comm, Nat.mul_add_div (by omega), Nat.div_eq_of_lt h1, Nat.add_zero]
      have e2 : (b.toNat * K + takeV m) / K = b.toNat := by
        rw [Nat.mul_comm, Nat.mul_add_div (by omega), Nat.div_eq_of_lt h2, Nat.add_zero]
      rw [← e1, hv, e2]
    rw [hab] at hv
    have : a = b := UInt8.toNat_inj.1 hab
    subst this
    rw [takeV_inj l m hl (by omega)]
theorem tb_takeV (l : List UInt8) (h0 : ¬ l.head? = some 0) (hM : takeV l < M256) : tb (takeV l) = l := by
  apply takeV_inj
  · rw [tb_length]
    cases l with
    | nil => decide +kernel
    | cons b t =>
      have hb : b ≠ 0 := by intro h; apply h0; simp [h]
      have hb1 : 1 ≤ b.toNat := by
        rcases Nat.eq_zero_or_pos b.toNat with h | h
        · exact absurd (UInt8.toNat_inj.1 (h.trans rfl)) hb
        · exact h
      have h1 := tlen_lt (takeV_lt (b :: t))
      have h2 : ¬ tlen (takeV (b :: t)) ≤ t.length := by
        intro h
        have h3 := (bl_iff (takeV (b :: t)) (8 * t.length)).1 (by unfold tlen at h; omega)
        rw [takeV_cons] at h3
        have := Nat.mul_le_mul_right (2 ^ (8 * t.length)) hb1
        omega
      simp only [List.length_cons] at h1 ⊢
      omega
  · exact take_txt4 _ hM
theorem ext_list (s : ByteArray) (f k : Nat) : (s.extract f k).data.toList = (s.data.toList.take k).drop f := by
  simp [ByteArray.data_extract, List.drop_take]
/-- What fnd finds: one byte that stands for itself, or a head as it is written. -/
theorem fnd_back (s : ByteArray) (h : (fnd s).2.2.2 = 0) :
    ((fnd s).1 = false ∧ (fnd s).2.1 = 0 ∧ (fnd s).2.2.1 = 1 ∧ hd0 s < 128 ∧ s.size ≠ 0) ∨
    (s.data.toList.take (fnd s).2.1 = hd (if (fnd s).1 then 192 else 128) ((fnd s).2.2.1 - (fnd s).2.1) ∧ (fnd s).2.1 ≤ (fnd s).2.2.1 ∧ (fnd s).2.2.1 ≤ s.size ∧ (fnd s).2.2.1 ≤ 65536 ∧ ((fnd s).1 = false → bareS (s.extract (fnd s).2.1 (fnd s).2.2.1) = false)) := by
  have finb : ∀ (L : Bool) (f n : Nat), (fin s L f n).2.2.2 = 0 → fin s L f n = (L, f, f + n, 0) ∧ f + n ≤ s.size ∧ f + n ≤ 65536 ∧ (L = false → bareS (s.extract f (f + n)) = false) := by
    intro L f n h
    unfold fin at *
    split at h
    · simp at h
    · split at h
      · simp at h
      · split at h
        · simp at h
        · next h1 h2 h3 =>
          rw [if_neg h1, if_neg h2, if_neg h3]
          exact ⟨rfl, by omega, by omega, fun hL => by subst hL; simpa using h3⟩
  by_cases h0 : s.size = 0
  · unfold fnd at h; rw [if_pos h0] at h; simp at h
  by_cases h1 : hd0 s < 128
  · left
    unfold fnd
    rw [if_neg h0, if_pos h1]
    exact ⟨rfl, rfl, rfl, h1, h0⟩
  right
  obtain ⟨x, l, hxl⟩ : ∃ x l, s.data.toList = x :: l := by
    cases hs : s.data.toList with
    | nil => exact absurd (by rw [← data_len, hs]; rfl) h0
    | cons x l => exact ⟨x, l, rfl⟩
  have hx : hd0 s = x.toNat := by unfold hd0; rw [hxl]; rfl
  have hx256 := x.toNat_lt
  obtain ⟨B, hB⟩ : ∃ B, B = (if 192 ≤ hd0 s then 192 else 128) := ⟨_, rfl⟩
  obtain ⟨L, hL⟩ : ∃ L, L = decide (192 ≤ hd0 s) := ⟨_, rfl⟩
  have hBL : B = if L then 192 else 128 := by rw [hB, hL]; by_cases h : 192 ≤ hd0 s <;> simp [h]
  have hBx : B ≤ x.toNat ∧ x.toNat - B < 64 := by rw [← hx, hB]; split <;> omega
  unfold fnd at h ⊢
  rw [← hB, ← hL, if_neg h0, if_neg h1] at h ⊢
  by_cases h2 : hd0 s - B ≤ 55
  · rw [if_pos h2] at h ⊢
    obtain ⟨e, q1, q2, q3⟩ := finb _ _ _ h
    rw [e]
    refine ⟨?_, Nat.le_add_right _ _, q1, q2, q3⟩
    show s.data.toList.take 1 = hd (if L then 192 else 128) (1 + (hd0 s - B) - 1)
    rw [← hBL, Nat.add_sub_cancel_left, hxl]
    unfold hd
    rw [if_pos h2, hx, Nat.add_sub_cancel' hBx.1]
    simp
  · rw [if_neg h2] at h ⊢
    obtain ⟨m, hm⟩ : ∃ m, m = hd0 s - B - 55 := ⟨_, rfl⟩
    rw [← hm] at h ⊢
    by_cases h3 : s.size < 1 + m
    · rw [if_pos h3] at h; simp at h
    rw [if_neg h3] at h ⊢
    by_cases h4 : tlGood (s.extract 1 (1 + m)) = true
    · rw [if_pos h4] at h ⊢
      obtain ⟨e, q1, q2, q3⟩ := finb _ _ _ h
      rw [e]
      refine ⟨?_, Nat.le_add_right _ _, q1, q2, q3⟩
      show s.data.toList.take (1 + m) = hd (if L then 192 else 128) (1 + m + tkV (s.extract 1 (1 + m)) - (1 + m))
      rw [← hBL, Nat.add_sub_cancel_left]
      unfold tlGood at h4
      simp only [Bool.and_eq_true, decide_eq_true_eq] at h4
      obtain ⟨g1, g2, g3⟩ := h4
      have hl : (s.extract 1 (1 + m)).data.toList = l.take m := by
        rw [ext_list, hxl, Nat.add_comm 1 m]; simp
      have hv : tkV (s.extract 1 (1 + m)) = takeV (l.take m) := by unfold tkV; rw [if_pos g1, hl]
      have g4 : ¬ (l.take m).head? = some 0 := by
        unfold tkGood at g1
        rw [hl] at g1
        simp at g1
        simpa using g1.2
      have hM : takeV (l.take m) < M256 := by
        have : (65536 : Nat) < M256 := by decide +kernel
        omega
      have ht := tb_takeV _ g4 hM
      have hlen : (l.take m).length = m := by
        rw [List.length_take]
        have : s.size = l.length + 1 := by rw [← data_len, hxl]; simp
        omega
      have htl : tlen (takeV (l.take m)) = m := by rw [← tb_length, ht, hlen]
      rw [hv] at g2 ⊢
      unfold hd
      rw [if_neg (by omega), ht, htl, hxl, Nat.add_comm 1 m, List.take_succ_cons, hm, hx]
      congr 1
      rw [show B + 55 + (x.toNat - B - 55) = x.toNat by omega]
      simp
    · rw [if_neg h4] at h; simp at h
theorem cut3 (s : ByteArray) (f k : Nat) (h : f ≤ k) (hk : k ≤ s.size) : s.data.toList.take f ++ (s.extract f k).data.toList = s.data.toList.take k := by
  rw [ext_list]
  have : s.data.toList.take f = (s.data.toList.take k).take f := by rw [List.take_take, Nat.min_eq_left h]
  rw [this, List.take_append_drop]
theorem ext_len (s : ByteArray) (f k : Nat) (h : f ≤ k) (hk : k ≤ s.size) : (s.extract f k).data.toList.length = k - f := by
  rw [ext_list, List.length_drop, List.length_take, data_len]; omega
/-- A reading's items are written as the bytes that they were read from. -/
def Bk1 (r : Nat) (f : ByteArray → TR) : Prop := ∀ s, (f s).2.2 = 0 → (f s).1.raw = s.data.toList.take (f s).2.1 ∧ (f s).1.pd ≤ r ∧ (f s).2.1 ≤ s.size ∧ (f s).2.1 ≤ 65536
theorem tkAt_back {r : Nat} {f : ByteArray → TR} (hf : Bk1 r f) (s : ByteArray) : ∀ (m p : Nat) (xs : List IT), tkAt f s m p = some xs → IT.raws xs = s.data.toList.drop p ∧ IT.pds xs ≤ r
  | 0, p, xs, h => by
    simp only [tkAt] at h
    split at h
    · next hp => injection h with h; subst h; exact ⟨by simp [IT.raws]; exact hp, by simp [IT.pds]⟩
    · cases h
  | m + 1, p, xs, h => by
    simp only [tkAt] at h
    split at h
    · next hp => injection h with h; subst h; exact ⟨by simp [IT.raws]; exact hp, by simp [IT.pds]⟩
    · next hp =>
      split at h
      · next he =>
        obtain ⟨b1, b2, b3, b4⟩ := hf _ he
        generalize f (s.extract p s.size) = T at *
        cases hr : tkAt f s m (p + T.2.1) with
        | none => rw [hr] at h; cases h
        | some ys =>
          rw [hr] at h
          injection h with h
          subst h
          obtain ⟨i1, i2⟩ := tkAt_back hf s m _ ys hr
          refine ⟨?_, by simp only [IT.pds]; omega⟩
          simp only [IT.raws]
          have e : s.data.toList.take s.size = s.data.toList := List.take_of_length_le (by rw [data_len]; omega)
          rw [b1, i1, ext_list, e, ← List.drop_drop, List.take_append_drop]
      · cases h
theorem pd_list0 (xs : List IT) : (IT.mk true ⟨#[]⟩ xs).pd = IT.pds xs + 1 := by
  have h : (⟨#[]⟩ : ByteArray).size = 0 := rfl
  simp only [IT.pd, Bool.true_eq_false, if_false, h, if_true]
theorem tk_back : ∀ r, Bk1 r (tk r) := by
  have htext : ∀ (r : Nat) (s : ByteArray), (fnd s).2.2.2 = 0 → (fnd s).1 = false → (IT.mk false (s.extract (fnd s).2.1 (fnd s).2.2.1) []).raw = s.data.toList.take (fnd s).2.2.1 ∧ (IT.mk false (s.extract (fnd s).2.1 (fnd s).2.2.1) []).pd ≤ r ∧ (fnd s).2.2.1 ≤ s.size ∧ (fnd s).2.2.1 ≤ 65536 := by
    intro r s h hl
    have hok := fnd_ok s h
    refine ⟨?_, by simp [IT.pd], hok.2.2.1, hok.2.2.2⟩
    simp only [IT.raw, Bool.false_eq_true, if_false]
    rcases fnd_back s h with ⟨q0, q1, q2, q3, q4⟩ | ⟨q1, q2, q3, q4, q5⟩
    · rw [q1, q2, ext_list, List.drop_zero]
      unfold traw
      rw [if_pos]
      unfold bare
      unfold hd0 at q3
      cases hs : s.data.toList with
      | nil => exact absurd (by rw [← data_len, hs]; rfl) q4
      | cons x l => rw [hs] at q3; simpa using q3
    · have hb := q5 hl
      unfold bareS at hb
      unfold traw
      rw [if_neg (by rw [hb]; decide), ext_len s _ _ q2 q3]
      rw [hl] at q1
      simp only [Bool.false_eq_true, if_false] at q1
      rw [← q1, cut3 s _ _ q2 q3]
  intro r
  induction r with
  | zero =>
    intro s h
    unfold tk at *
    split at h
    · next h1 => simp at h; exact absurd h h1
    · next h1 =>
      rw [if_neg h1]
      split at h
      · next h2 => rw [if_pos h2]; exact htext 0 s (by omega) h2
      · simp at h
  | succ r ih =>
    intro s h
    unfold tk at *
    split at h
    · next h1 => simp at h; exact absurd h h1
    · next h1 =>
      rw [if_neg h1]
      have h1 : (fnd s).2.2.2 = 0 := by omega
      split at h
      · next h2 => rw [if_pos h2]; exact htext (r + 1) s h1 h2
      · next h2 =>
        rw [if_neg h2]
        have h2 : (fnd s).1 = true := by simpa using h2
        split at h
        · simp at h
        · next xs hxs =>
          have hok := fnd_ok s h1
          obtain ⟨i1, i2⟩ := tkAt_back ih _ _ _ xs hxs
          refine ⟨?_, by rw [pd_list0]; omega, hok.2.2.1, hok.2.2.2⟩
          simp only [IT.raw, if_true]
          rw [List.drop_zero] at i1
          rcases fnd_back s h1 with ⟨q0, _⟩ | ⟨q1, q2, q3, q4, q5⟩
          · rw [h2] at q0; cases q0
          · rw [i1, ext_len s _ _ q2 q3]
            rw [h2] at q1
            simp only [if_true] at q1
            rw [← q1, cut3 s _ _ q2 q3]
end Go.Proofs.Ytliaegnhnnnojaa

import Derived.Test.YtliaegnhnnnojaaRtM
set_option linter.unusedSimpArgs false
set_option linter.unusedVariables false
namespace Go.Proofs.Ytliaegnhnnnojaa
open Go.RowKit

/-! What is cut off is told as cut off. -/
theorem fin_cut (s : ByteArray) (L : Bool) (f n : Nat) (h : f + n ≤ 65536) (hs : s.size < f + n) : fin s L f n = (false, 0, 0, 7) := by
  unfold fin
  rw [if_neg (by omega), if_pos hs]
theorem fnd_cut (L : Bool) (b : List UInt8) (j : Nat) (h : (hd (if L then 192 else 128) b.length).length + b.length ≤ 65536) (hj : j < (hd (if L then 192 else 128) b.length ++ b).length) :
    fnd (st ((hd (if L then 192 else 128) b.length ++ b).take j)) = (false, 0, 0, 7) := by
  have hn : b.length ≤ 65536 := by omega
  have hl3 := tlen3 _ hn
  rw [List.length_append] at hj
  cases j with
  | zero =>
    unfold fnd
    rw [if_pos (by rw [st_size]; simp)]
  | succ j =>
    by_cases h55 : b.length ≤ 55
    · have e : hd (if L then 192 else 128) b.length = [UInt8.ofNat ((if L then 192 else 128) + b.length)] := by unfold hd; rw [if_pos h55]
      rw [e] at h hj ⊢
      simp only [List.cons_append, List.nil_append, List.take_succ_cons, List.length_cons, List.length_nil] at h hj ⊢
      have hh : hd0 (st (UInt8.ofNat ((if L then 192 else 128) + b.length) :: b.take j)) = (if L then 192 else 128) + b.length := by
        rw [st_hd0]
        cases L <;> simp [UInt8.toNat_ofNat'] <;> omega
      unfold fnd
      have e2 : (if 192 ≤ (if L then 192 else 128) + b.length then 192 else 128) = (if L then 192 else 128) := by cases L <;> simp <;> omega
      rw [hh, if_neg (by rw [st_size]; simp), if_neg (by cases L <;> simp <;> omega), e2, if_pos (by omega), Nat.add_sub_cancel_left]
      exact fin_cut _ _ _ _ (by omega) (by rw [st_size, List.length_cons, List.length_take]; omega)
    · have e : hd (if L then 192 else 128) b.length = UInt8.ofNat ((if L then 192 else 128) + 55 + tlen b.length) :: tb b.length := by unfold hd; rw [if_neg h55]
      have hp : 1 ≤ tlen b.length := (top_byte b.length (by omega)).1
      rw [e] at h hj ⊢
      simp only [List.cons_append, List.take_succ_cons, List.length_cons, tb_length] at h hj ⊢
      have hh : hd0 (st (UInt8.ofNat ((if L then 192 else 128) + 55 + tlen b.length) :: (tb b.length ++ b).take j)) = (if L then 192 else 128) + 55 + tlen b.length := by
        rw [st_hd0]
        cases L <;> simp [UInt8.toNat_ofNat'] <;> omega
      have hM : b.length < M256 := by have : (65536 : Nat) < M256 := by decide +kernel
                                      omega
      have hv : tkV (st (tb b.length)) = b.length := by unfold tkV; rw [if_pos (good_txt4 _ hM), st_list, take_txt4 _ hM]
      have hg : tlGood (st (tb b.length)) = true := by unfold tlGood; rw [hv, good_txt4 _ hM]; simp; omega
      unfold fnd
      have e2 : (if 192 ≤ (if L then 192 else 128) + 55 + tlen b.length then 192 else 128) = (if L then 192 else 128) := by cases L <;> simp <;> omega
      have e4 : (if L then 192 else 128) + 55 + tlen b.length - (if L then 192 else 128) - 55 = tlen b.length := by omega
      rw [hh, if_neg (by rw [st_size]; simp), if_neg (by cases L <;> simp <;> omega), e2, if_neg (by omega), e4]
      by_cases hc : j < tlen b.length
      · rw [if_pos (by rw [st_size, List.length_cons, List.length_take]; simp only [List.length_append, tb_length]; omega)]
      · have hx : (st (UInt8.ofNat ((if L then 192 else 128) + 55 + tlen b.length) :: (tb b.length ++ b).take j)).extract 1 (1 + tlen b.length) = st (tb b.length) := by
          have := st_ext [UInt8.ofNat ((if L then 192 else 128) + 55 + tlen b.length)] (tb b.length) (b.take (j - tlen b.length))
          rw [tb_length] at this
          rw [List.take_append, tb_length, List.take_of_length_le (by rw [tb_length]; omega)]
          simpa using this
        rw [if_neg (by rw [st_size, List.length_cons, List.length_take]; simp only [List.length_append, tb_length]; omega), hx, if_pos hg, hv]
        exact fin_cut _ _ _ _ (by omega) (by rw [st_size, List.length_cons, List.length_take]; simp only [List.length_append, tb_length]; omega)
/-- What of an item's bytes is cut off anywhere is told as cut off. -/
theorem tk_cut (r : Nat) (a : IT) (j : Nat) (hl : a.raw.length ≤ 65536) (hj : j < a.raw.length) : tk r (st (a.raw.take j)) = (zIT, 0, 7) := by
  have key : ∀ s, fnd s = (false, 0, 0, 7) → tk r s = (zIT, 0, 7) := by
    intro s h
    cases r <;> simp [tk, h]
  apply key
  obtain ⟨l, tx, s⟩ := a
  cases l with
  | true =>
    simp only [IT.raw, if_true] at hl hj ⊢
    rw [List.length_append] at hl
    exact fnd_cut true (IT.raws s) j hl hj
  | false =>
    simp only [IT.raw, Bool.false_eq_true, if_false] at hl hj ⊢
    unfold traw at hl hj ⊢
    by_cases hb : bare tx.data.toList = true
    · rw [if_pos hb] at hl hj ⊢
      unfold bare at hb
      simp only [Bool.and_eq_true, beq_iff_eq] at hb
      obtain rfl : j = 0 := by omega
      unfold fnd
      rw [if_pos (by rw [st_size]; simp)]
    · rw [if_neg hb] at hl hj ⊢
      rw [List.length_append] at hl
      exact fnd_cut false tx.data.toList j hl hj
end Go.Proofs.Ytliaegnhnnnojaa

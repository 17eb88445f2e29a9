import Derived.Test.YtliaegnhnnnojaaTkM
set_option linter.unusedSimpArgs false
set_option linter.unusedVariables false
namespace Go.Proofs.Ytliaegnhnnnojaa
open Go.RowKit

/-! What is written is read again: mathematics of tk and raw. -/
theorem st_list (l : List UInt8) : (st l).data.toList = l := by simp [st]
theorem st_tb_size (n : Nat) : (st (tb n)).size = tlen n := by rw [st_size, tb_length]
theorem st_ext (a b c : List UInt8) : (st (a ++ b ++ c)).extract a.length (a.length + b.length) = st b := by
  apply ByteArray.ext
  apply Array.ext'
  simp [st, ByteArray.data_extract]
theorem by8_bd4 (n i : Nat) : 0 ≤ by8 n i ∧ by8 n i < 256 := by unfold by8; omega
theorem u8_of4 (q : Int) (h : 0 ≤ q ∧ q < 256) : (UInt8.ofNat q.toNat).toNat = q.toNat := by
  simp only [UInt8.toNat_ofNat']; omega
/-- The bytes of a number, from the k-th on, are what of it is below 2^8k. -/
theorem take_tail4 (n : Nat) (k : Nat) (hk : k ≤ tlen n) : takeV (((tnums n).map fun q => UInt8.ofNat q.toNat).drop (tlen n - k)) = n % 2 ^ (8 * k) := by
  have hl : ((tnums n).map fun q => UInt8.ofNat q.toNat).length = tlen n := by simp [tnums_length]
  induction k with
  | zero => rw [List.drop_of_length_le (by omega)]; simp [takeV, Nat.mod_one]
  | succ k ih =>
    have ih := ih (by omega)
    rw [List.drop_eq_getElem_cons (by omega), takeV_cons]
    have e1 : tlen n - (k + 1) + 1 = tlen n - k := by omega
    have hl2 : (((tnums n).map fun q => UInt8.ofNat q.toNat).drop (tlen n - k)).length = k := by rw [List.length_drop, hl]; omega
    rw [e1, ih, hl2]
    have e2 : (((tnums n).map fun q => UInt8.ofNat q.toNat)[tlen n - (k + 1)]'(by omega)).toNat = n / 2 ^ (8 * k) % 256 := by
      simp only [List.getElem_map]
      rw [u8_of4 _ (by simp only [tnums, List.getElem_map]; exact by8_bd4 _ _)]
      simp only [tnums, List.getElem_map, List.getElem_range]
      rw [show tlen n - 1 - (tlen n - (k + 1)) = k by omega]
      unfold by8; omega
    rw [e2]
    have e3 : 8 * (k + 1) = 8 * k + 8 := by omega
    rw [e3, Nat.pow_add, Nat.mod_mul, Nat.mul_comm, Nat.add_comm]
theorem take_txt4 (n : Nat) (hn : n < M256) : takeV (tb n) = n := by
  unfold tb
  have h := take_tail4 n (tlen n) (Nat.le_refl _)
  rw [Nat.sub_self, List.drop_zero] at h
  rw [h, Nat.mod_eq_of_lt]
  exact (bl_iff n _).1 (by unfold tlen; omega)
theorem good_txt4 (n : Nat) (hn : n < M256) : tkGood (st (tb n)) = true := by
  have h1 : (st (tb n)).size ≤ 32 := by rw [st_tb_size]; exact tlen_le n hn
  by_cases h0 : n = 0
  · subst h0; decide +kernel
  · obtain ⟨ht, hb⟩ := top_byte n h0
    have hp : 0 < (st (tb n)).size := by rw [st_tb_size]; exact ht
    unfold tkGood
    rw [st_list]; unfold tb
    have e : ((tnums n).map fun q => UInt8.ofNat q.toNat).head? = some (UInt8.ofNat (by8 n (tlen n - 1)).toNat) := by
      rw [List.head?_map, List.head?_eq_getElem?, List.getElem?_eq_getElem (by rw [tnums_length]; exact ht)]
      simp only [tnums, List.getElem_map, List.getElem_range, Option.map_some, Nat.sub_zero]
    rw [e]
    have hbd := by8_bd4 n (tlen n - 1)
    have hu := u8_of4 _ hbd
    have hne : ¬ UInt8.ofNat (by8 n (tlen n - 1)).toNat = 0 := by
      intro h
      have := congrArg UInt8.toNat h
      rw [hu] at this
      simp at this
      omega
    unfold tb at h1
    simp [h1, hne]

theorem st_hd0 (x : UInt8) (l : List UInt8) : hd0 (st (x :: l)) = x.toNat := by simp [hd0, st]
theorem tlen3 (n : Nat) (h : n ≤ 65536) : tlen n ≤ 3 := tlen_lt (n := n) (k := 3) (by omega)
theorem fin_st (L : Bool) (a b c : List UInt8) (h : a.length + b.length ≤ 65536) (hb : L = false → bare b = false) : fin (st (a ++ b ++ c)) L a.length b.length = (L, a.length, a.length + b.length, 0) := by
  unfold fin
  rw [if_neg (by omega), if_neg (by rw [st_size]; simp only [List.length_append]; omega), if_neg]
  rw [st_ext]
  unfold bareS
  rw [st_list]
  cases L
  · simp [hb rfl]
  · simp
theorem fnd_hd (L : Bool) (b c : List UInt8) (h : (hd (if L then 192 else 128) b.length).length + b.length ≤ 65536) (hb : L = false → bare b = false) :
    fnd (st (hd (if L then 192 else 128) b.length ++ b ++ c)) = (L, (hd (if L then 192 else 128) b.length).length, (hd (if L then 192 else 128) b.length).length + b.length, 0) := by
  have hF := fin_st L (hd (if L then 192 else 128) b.length) b c h hb
  have hn : b.length ≤ 65536 := by omega
  have hl3 := tlen3 _ hn
  by_cases h55 : b.length ≤ 55
  · have e : hd (if L then 192 else 128) b.length = [UInt8.ofNat ((if L then 192 else 128) + b.length)] := by unfold hd; rw [if_pos h55]
    rw [e] at hF ⊢
    have hh : hd0 (st ([UInt8.ofNat ((if L then 192 else 128) + b.length)] ++ b ++ c)) = (if L then 192 else 128) + b.length := by
      simp only [List.cons_append, List.nil_append]
      rw [st_hd0]
      cases L <;> simp [UInt8.toNat_ofNat'] <;> omega
    unfold fnd
    rw [hh, if_neg (by rw [st_size]; simp), if_neg (by cases L <;> simp <;> omega)]
    have e2 : (if 192 ≤ (if L then 192 else 128) + b.length then 192 else 128) = (if L then 192 else 128) := by cases L <;> simp <;> omega
    have e3 : decide (192 ≤ (if L then 192 else 128) + b.length) = L := by cases L <;> simp <;> omega
    rw [e2, e3, if_pos (by omega), Nat.add_sub_cancel_left]
    exact hF
  · have e : hd (if L then 192 else 128) b.length = UInt8.ofNat ((if L then 192 else 128) + 55 + tlen b.length) :: tb b.length := by unfold hd; rw [if_neg h55]
    have hp : 1 ≤ tlen b.length := (top_byte b.length (by omega)).1
    rw [e] at hF ⊢
    have hh : hd0 (st (UInt8.ofNat ((if L then 192 else 128) + 55 + tlen b.length) :: tb b.length ++ b ++ c)) = (if L then 192 else 128) + 55 + tlen b.length := by
      simp only [List.cons_append]
      rw [st_hd0]
      cases L <;> simp [UInt8.toNat_ofNat'] <;> omega
    have hx : (st (UInt8.ofNat ((if L then 192 else 128) + 55 + tlen b.length) :: tb b.length ++ b ++ c)).extract 1 (1 + tlen b.length) = st (tb b.length) := by
      have := st_ext [UInt8.ofNat ((if L then 192 else 128) + 55 + tlen b.length)] (tb b.length) (b ++ c)
      rw [tb_length] at this
      simpa using this
    have hM : b.length < M256 := by have : (65536 : Nat) < M256 := by decide +kernel
                                    omega
    have hv : tkV (st (tb b.length)) = b.length := by unfold tkV; rw [if_pos (good_txt4 _ hM), st_list, take_txt4 _ hM]
    have hg : tlGood (st (tb b.length)) = true := by unfold tlGood; rw [hv, good_txt4 _ hM]; simp; omega
    unfold fnd
    have e2 : (if 192 ≤ (if L then 192 else 128) + 55 + tlen b.length then 192 else 128) = (if L then 192 else 128) := by cases L <;> simp <;> omega
    have e3 : decide (192 ≤ (if L then 192 else 128) + 55 + tlen b.length) = L := by cases L <;> simp <;> omega
    have e4 : (if L then 192 else 128) + 55 + tlen b.length - (if L then 192 else 128) - 55 = tlen b.length := by omega
    rw [hh, if_neg (by rw [st_size]; simp), if_neg (by cases L <;> simp <;> omega), e2, e3, if_neg (by omega), e4, if_neg (by rw [st_size]; simp [tb_length]; omega), hx, if_pos hg, hv]
    have e5 : (UInt8.ofNat ((if L then 192 else 128) + 55 + tlen b.length) :: tb b.length).length = 1 + tlen b.length := by simp [tb_length]; omega
    rw [e5] at hF ⊢
    exact hF
theorem st_tail (a b : List UInt8) : (st (a ++ b)).extract a.length (st (a ++ b)).size = st b := by
  have := st_ext a b []
  rw [List.append_nil] at this
  rw [st_size, List.length_append]
  exact this
theorem tkAt_raws (f : ByteArray → TR) (hf : Prog1 f) (B : Nat) : ∀ (xs : List IT), (∀ x ∈ xs, ∀ t, x.raw.length ≤ B → f (st (x.raw ++ t)) = (x, x.raw.length, 0)) → (IT.raws xs).length ≤ B →
    ∀ (m : Nat) (pre : List UInt8), (IT.raws xs).length ≤ m → tkAt f (st (pre ++ IT.raws xs)) m pre.length = some xs
  | [], _, _, m, pre, _ => by
    have : (st (pre ++ IT.raws [])).size ≤ pre.length := by rw [st_size]; simp [IT.raws]
    cases m <;> simp only [tkAt, if_pos this]
  | x :: xs, hx, hB, m, pre, hm => by
    have e : IT.raws (x :: xs) = x.raw ++ IT.raws xs := by simp [IT.raws]
    rw [e] at hB hm ⊢
    rw [List.length_append] at hB hm
    have h1 := hx x (by simp) (IT.raws xs) (by omega)
    have hp := hf (st (x.raw ++ IT.raws xs)) (by rw [h1])
    rw [h1] at hp
    have hp1 : 1 ≤ x.raw.length := hp.1
    have ht := st_tail pre (x.raw ++ IT.raws xs)
    obtain ⟨m, rfl⟩ : ∃ k, m = k + 1 := ⟨m - 1, by omega⟩
    have hs : ¬ (st (pre ++ (x.raw ++ IT.raws xs))).size ≤ pre.length := by rw [st_size]; simp only [List.length_append]; omega
    have ih := tkAt_raws f hf B xs (fun y hy => hx y (List.mem_cons_of_mem _ hy)) (by omega) m (pre ++ x.raw) (by omega)
    rw [List.append_assoc, List.length_append] at ih
    simp only [tkAt, if_neg hs, ht, h1, if_true, ih, Option.map_some]
theorem pds_mem {xs : List IT} {x : IT} (h : x ∈ xs) : x.pd ≤ IT.pds xs := by
  induction xs with
  | nil => cases h
  | cons y ys ih =>
    simp only [IT.pds]
    rcases List.mem_cons.1 h with rfl | h
    · omega
    · have := ih h; omega
theorem st_of (t : ByteArray) : st t.data.toList = t := by apply ByteArray.ext; simp [st]
theorem tk_rawText (r : Nat) (tx : ByteArray) (t : List UInt8) (h : (traw tx.data.toList).length ≤ 65536) : tk r (st (traw tx.data.toList ++ t)) = (.mk false tx [], (traw tx.data.toList).length, 0) := by
  have key : ∀ s f k, fnd s = (false, f, k, 0) → s.extract f k = tx → k = (traw tx.data.toList).length → tk r s = (.mk false tx [], (traw tx.data.toList).length, 0) := by
    intro s f k h1 h2 h3
    subst h3
    cases r <;> simp [tk, h1, h2]
  unfold traw at h key ⊢
  by_cases hb : bare tx.data.toList = true
  · rw [if_pos hb] at h key ⊢
    have hb' := hb
    unfold bare at hb'
    generalize hl : tx.data.toList = l at *
    match l, hb', hl with
    | [x], hb', hl =>
      simp at hb'
      refine key _ 0 1 ?_ ?_ rfl
      · show fnd (st (x :: t)) = _
        unfold fnd
        rw [if_neg (by rw [st_size]; simp), if_pos (by rw [st_hd0]; exact hb')]
      · have := st_ext [] [x] t
        simp only [List.nil_append, List.length_nil, List.length_cons, Nat.zero_add] at this
        rw [this, ← hl, st_of]
    | [], hb', _ => simp at hb'
    | _ :: _ :: _, hb', _ => simp at hb'
  · rw [if_neg hb] at h key ⊢
    rw [List.length_append] at h
    refine key _ _ _ (fnd_hd false tx.data.toList t h (fun _ => by simpa using hb)) ?_ ?_
    · exact (st_ext _ _ _).trans (st_of tx)
    · rw [List.length_append]; rfl
/-- What is written of an item that may be is read as that item, whatever follows. -/
theorem tk_raw : ∀ (r : Nat), r ≤ 16 → ∀ (a : IT) (t : List UInt8), a.pd ≤ r → a.raw.length ≤ 65536 → tk r (st (a.raw ++ t)) = (a, a.raw.length, 0)
  | r, hr, .mk false tx s, t, hp, hl => by
    have hs : s = [] := by
      cases s with
      | nil => rfl
      | cons y ys => simp [IT.pd] at hp; omega
    subst hs
    simp only [IT.raw, Bool.false_eq_true, if_false] at hl ⊢
    exact tk_rawText r tx t hl
  | 0, hr, .mk true tx s, t, hp, hl => by
    simp only [IT.pd, Bool.true_eq_false, if_false] at hp
    split at hp <;> omega
  | r + 1, hr, .mk true tx s, t, hp, hl => by
    have htx : tx.size = 0 := by
      simp only [IT.pd] at hp
      by_cases h : tx.size = 0
      · exact h
      · simp [h] at hp; omega
    have htx' : tx = ⟨#[]⟩ := by
      apply ByteArray.ext
      exact Array.eq_empty_of_size_eq_zero htx
    have hpd : IT.pds s ≤ r := by simp only [IT.pd] at hp; simp [htx] at hp; exact hp
    subst htx'
    simp only [IT.raw, if_true] at hl ⊢
    rw [List.length_append] at hl
    have hf := fnd_hd true (IT.raws s) t hl (fun h => by cases h)
    have hx := st_ext (hd 192 (IT.raws s).length) (IT.raws s) t
    have hall : tkAll (tk r) (st (IT.raws s)) = some s := by
      have := tkAt_raws (tk r) (tk_prog r) 65536 s (fun x hx t hxl => tk_raw r (by omega) x t (Nat.le_trans (pds_mem hx) hpd) hxl) (by omega) (IT.raws s).length [] (Nat.le_refl _)
      unfold tkAll
      rw [st_size]
      simpa using this
    simp only [if_true] at hf
    unfold tk
    rw [hf]
    simp only [ne_eq, not_true_eq_false, if_false, Bool.true_eq_false, hx, hall, List.length_append]
end Go.Proofs.Ytliaegnhnnnojaa

import Derived.Test.YtapjonmgjccpbaaJ20
import Derived.Test.YtapjonmgjccpbaaJ17
set_option linter.unusedSimpArgs false
set_option linter.unusedVariables false
namespace Go.Proofs.Ytapjonmgjccpbaa
open Go.RowKit

/-! What is read as a transaction is written again as it was read. -/
theorem clean_t {a : IT} (h : a.pd ≤ 16) (hl : a.list = false) : a = txtI a.text := by
  obtain ⟨l, t, s⟩ := a
  have hl : l = false := hl
  subst hl
  simp only [IT.pd, if_true] at h
  split at h
  · next h0 => rw [List.length_eq_zero_iff.1 h0]; rfl
  · omega
theorem clean_l {a : IT} (h : a.pd ≤ 16) (hl : a.list = true) : a = .mk true ⟨#[]⟩ a.items ∧ IT.pds a.items ≤ 15 := by
  obtain ⟨l, t, s⟩ := a
  have hl : l = true := hl
  subst hl
  simp only [IT.pd, Bool.true_eq_false, if_false] at h
  split at h
  · next h0 => exact ⟨by rw [bytes_nil t h0]; rfl, by show IT.pds s ≤ 15; omega⟩
  · omega
theorem nb_txt {a : IT} (h : a.pd ≤ 16) (hg : nbOk a.list a.text = true) : a = txtI (nT (tkV a.text)) := by
  unfold nbOk at hg
  rw [Bool.and_eq_true] at hg
  obtain ⟨h1, h2⟩ := hg
  have hl : a.list = false := by simpa using h2
  have h1 : tkE a.text = 0 := of_decide_eq_true h1
  have hk : tkGood a.text = true := by
    unfold tkE at h1
    split at h1
    · next h => exact h
    · exact absurd h1 (by decide)
  have hv : tkV a.text = takeV a.text.data.toList := by unfold tkV; rw [if_pos hk]
  have hM : takeV a.text.data.toList < M256 := by rw [← hv]; exact tkV_lt _
  have h0 : ¬ a.text.data.toList.head? = some 0 := by
    unfold tkGood at hk
    rw [Bool.and_eq_true] at hk
    simpa using hk.2
  have e : nT (tkV a.text) = a.text := by rw [nT_st, hv, tb_takeV _ h0 hM, st_of]
  rw [e]
  exact clean_t h hl
theorem wh_txt {a : IT} (h : a.pd ≤ 16) (hg : whOk a.list a.text = true) : a = txtI (nT (whV a.list a.text).toNat) := by
  have hv : (whV a.list a.text).toNat = tkV a.text := by unfold whV; rw [if_pos hg]; simp
  rw [hv]
  unfold whOk at hg
  rw [Bool.and_eq_true] at hg
  exact nb_txt h hg.1
theorem u_txt {y : IT} (h : y.pd ≤ 16) (hg : gdU y = true) : txtI ⟨(mbs (mtV y.text)).toArray⟩ = y := by
  unfold gdU at hg
  rw [Bool.and_eq_true] at hg
  have hl : y.list = false := by simpa using hg.1
  have h8 : y.text.size = 8 := by simpa using hg.2
  have hv : mtV y.text = takeV y.text.data.toList := by unfold mtV; rw [if_pos h8]
  have e : mbs (mtV y.text) = y.text.data.toList := by
    refine takeV_inj _ _ (by rw [mbs_length, Array.length_toList]; exact h8.symm) ?_
    rw [takeV_mbs7 _ (mtV_lt _), hv]
  have e2 : (⟨(mbs (mtV y.text)).toArray⟩ : ByteArray) = y.text := by
    rw [e]
  rw [e2]
  exact (clean_t h hl).symm
theorem map_id_of {β : Type} (f : β → β) : ∀ (l : List β), (∀ y ∈ l, f y = y) → l.map f = l
  | [], _ => rfl
  | y :: l, h => by rw [List.map_cons, h y (by simp), map_id_of f l (fun z hz => h z (by simp [hz]))]
theorem rd_it (l : List IT) (hp : IT.pds l ≤ 15) (ho : okT l = true) : (txI (rdT l)).items = l := by
  unfold okT at ho
  rw [Bool.and_eq_true] at ho
  obtain ⟨h9, hall⟩ := ho
  have h9 : l.length = 9 := of_decide_eq_true h9
  rw [List.all_eq_true] at hall
  have hg : ∀ i, i < 9 → gdA i (atI l i) = true := fun i hi => hall i (by simpa using hi)
  obtain ⟨a0, a1, a2, a3, a4, a5, a6, a7, a8, rfl⟩ : ∃ a0 a1 a2 a3 a4 a5 a6 a7 a8, l = [a0, a1, a2, a3, a4, a5, a6, a7, a8] := by
    match l, h9 with
    | [a0, a1, a2, a3, a4, a5, a6, a7, a8], _ => exact ⟨_, _, _, _, _, _, _, _, _, rfl⟩
  have hm : ∀ y ∈ [a0, a1, a2, a3, a4, a5, a6, a7, a8], y.pd ≤ 16 := fun y hy => by have := pds_mem hy; omega
  have g0 := wh_txt (hm a0 (by simp)) (hg 0 (by omega))
  have g1 := wh_txt (hm a1 (by simp)) (hg 1 (by omega))
  have g2 := nb_txt (hm a2 (by simp)) (hg 2 (by omega))
  have g3 := nb_txt (hm a3 (by simp)) (hg 3 (by omega))
  have g4 := nb_txt (hm a4 (by simp)) (hg 4 (by omega))
  have g5 := nb_txt (hm a5 (by simp)) (hg 5 (by omega))
  have g6 := wh_txt (hm a6 (by simp)) (hg 6 (by omega))
  have l7 : lsU a7 = true := hg 7 (by omega)
  have l8 : lsS a8 = true := hg 8 (by omega)
  unfold lsU at l7
  unfold lsS at l8
  rw [Bool.and_eq_true] at l7 l8
  obtain ⟨c7, p7⟩ := clean_l (hm a7 (by simp)) l7.1
  obtain ⟨c8, p8⟩ := clean_l (hm a8 (by simp)) l8.1
  have q7 := l7.2
  have q8 := l8.2
  rw [List.all_eq_true] at q7 q8
  have e7 : (a7.items.map fun y => mtV y.text).map (fun m => txtI ⟨(mbs m).toArray⟩) = a7.items := by
    rw [List.map_map]
    exact map_id_of _ _ fun y hy => u_txt (by have := pds_mem hy; omega) (q7 y hy)
  have e8 : (a8.items.map fun y => y.text).map (fun b => txtI b) = a8.items := by
    rw [List.map_map]
    refine map_id_of _ _ fun y hy => ?_
    have h1 := q8 y hy
    unfold gdS at h1
    rw [Bool.and_eq_true] at h1
    exact (clean_t (by have := pds_mem hy; omega) (by simpa using h1.1)).symm
  show [txtI (nT (whV a0.list a0.text).toNat), txtI (nT (whV a1.list a1.text).toNat), txtI (nT (tkV a2.text)), txtI (nT (tkV a3.text)), txtI (nT (tkV a4.text)), txtI (nT (tkV a5.text)), txtI (nT (whV a6.list a6.text).toNat), .mk true ⟨#[]⟩ ((a7.items.map fun y => mtV y.text).map (fun m => txtI ⟨(mbs m).toArray⟩)), .mk true ⟨#[]⟩ ((a8.items.map fun y => y.text).map (fun b => txtI b))] = _
  rw [← g0, ← g1, ← g2, ← g3, ← g4, ← g5, ← g6, e7, e8, ← c7, ← c8]
/-- What bytes are read as: a transaction that may be, and whose bytes they are. -/
theorem tk_bk (s : ByteArray) (h : tkOk s) : itS (txI (tkT s)) = s ∧ TxOk (tkT s) ∧ TXw (tkT s) := by
  have ht : tkT s = rdT (pz s).1.items := if_pos h
  rw [ht]
  obtain ⟨h1, h2, h3, h4⟩ := h
  have hz : (tk0 s).2.2 = 0 ∧ (pz s).1 = (tk0 s).1 ∧ ¬ (tk0 s).2.1 < s.size := by
    unfold pz at h1 ⊢
    split at h1
    · next hn => exact absurd h1 hn
    · next hn =>
      split at h1
      · exact absurd h1 (by decide)
      · next hn2 => rw [if_neg hn, if_neg hn2]; exact ⟨by omega, rfl, hn2⟩
  obtain ⟨z1, z2, z3⟩ := hz
  obtain ⟨b1, b2, b3, b4⟩ := tk_back 16 s z1
  have b1 : (tk0 s).1.raw = s.data.toList.take (tk0 s).2.1 := b1
  have b2 : (tk0 s).1.pd ≤ 16 := b2
  have b3 : (tk0 s).2.1 ≤ s.size := b3
  rw [List.take_of_length_le (by rw [data_len]; omega), ← z2] at b1
  rw [← z2] at b2
  obtain ⟨c1, c2⟩ := clean_l b2 h2
  have e := rd_it _ c2 h3
  have hw : TXw (rdT (pz s).1.items) := rdT_w _ fun y hy => by
    have := (fit_facts _ h4.2.2.2.2.1).2.2.2 y.text (by show _ ∈ (atI (pz s).1.items 8).items.map _; exact List.mem_map.2 ⟨y, hy, rfl⟩)
    unfold maxLen
    omega
  refine ⟨?_, h4, hw⟩
  have hio := (txI_ok _ h4 hw).1
  rw [itS, if_pos hio]
  have ei : txI (rdT (pz s).1.items) = (pz s).1 := by
    rw [c1]
    exact IT.ext rfl rfl (by rw [← c1]; exact e)
  rw [ei, b1, st_of]
theorem tk_more (t : TX) (h : TxOk t) (hw : TXw t) (x : UInt8) : tkTE (st ((txI t).raw ++ [x])) = 1 := by
  obtain ⟨hio, -⟩ := txI_ok t h hw
  have ht : tk0 (st ((txI t).raw ++ [x])) = (txI t, (txI t).raw.length, 0) := tk_raw 16 (by omega) (txI t) [x] hio.1 hio.2
  refine if_neg fun hk => ?_
  have := hk.1
  unfold pz at this
  rw [ht, if_neg (by simp), if_pos (by rw [st_size]; simp)] at this
  exact absurd this (by decide)
theorem tk_less (t : TX) (h : TxOk t) (hw : TXw t) (j : Nat) (hj : j < (txI t).raw.length) : tkTE (st ((txI t).raw.take j)) = 1 := by
  obtain ⟨hio, -⟩ := txI_ok t h hw
  have ht : tk0 (st ((txI t).raw.take j)) = (zIT, 0, 7) := tk_cut 16 (txI t) j hio.2 hj
  refine if_neg fun hk => ?_
  have := hk.1
  unfold pz at this
  rw [ht, if_pos (by simp)] at this
  exact absurd this (by decide)
end Go.Proofs.Ytapjonmgjccpbaa

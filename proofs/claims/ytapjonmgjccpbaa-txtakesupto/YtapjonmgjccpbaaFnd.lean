import Derived.Test.YtapjonmgjccpbaaJ6
set_option linter.unusedSimpArgs false
set_option linter.unusedVariables false
namespace Go.Proofs.Ytapjonmgjccpbaa
open Go.RowKit

/-! item.find by contract: where the item lies that some bytes begin with. -/
def hd0 (s : ByteArray) : Nat := (s.data.toList.headD 0).toNat
def fin (s : ByteArray) (L : Bool) (from' n : Nat) : Bool × Nat × Nat × Nat :=
  if 65536 < from' + n then (false, 0, 0, 1) else if s.size < from' + n then (false, 0, 0, 7) else if (!L && bareS (s.extract from' (from' + n))) = true then (false, 0, 0, 1) else (L, from', from' + n, 0)
def fnd (s : ByteArray) : Bool × Nat × Nat × Nat :=
  if s.size = 0 then (false, 0, 0, 7)
  else if hd0 s < 128 then (false, 0, 1, 0)
  else if hd0 s - (if 192 ≤ hd0 s then 192 else 128) ≤ 55 then fin s (decide (192 ≤ hd0 s)) 1 (hd0 s - (if 192 ≤ hd0 s then 192 else 128))
  else if s.size < 1 + (hd0 s - (if 192 ≤ hd0 s then 192 else 128) - 55) then (false, 0, 0, 7)
  else if tlGood (s.extract 1 (1 + (hd0 s - (if 192 ≤ hd0 s then 192 else 128) - 55))) = true then fin s (decide (192 ≤ hd0 s)) (1 + (hd0 s - (if 192 ≤ hd0 s then 192 else 128) - 55)) (tkV (s.extract 1 (1 + (hd0 s - (if 192 ≤ hd0 s then 192 else 128) - 55))))
  else (false, 0, 0, 1)
def spanv (r : Bool × Nat × Nat × Nat) : Value := .tuple #[.agg #[.bool r.1, .int .i64 (r.2.1 : Int), .int .i64 (r.2.2.1 : Int)], .int .i64 (r.2.2.2 : Int)]
theorem hd0_eq (s : ByteArray) (h : 0 < s.size) : s[0].toNat = hd0 s := by
  unfold hd0
  obtain ⟨⟨l⟩⟩ := s
  cases l with
  | nil => simp [ByteArray.size] at h
  | cons x l => rfl
theorem hd0_lt (s : ByteArray) : hd0 s < 256 := (s.data.toList.headD 0).toNat_lt
theorem ne_empty (s : ByteArray) (h : 0 < s.size) : (s.toList == []) = false := by rw [beq_eq_false_iff_ne]; exact ne_of_size s h
set_option maxRecDepth 100000 in
set_option maxHeartbeats 1000000 in
theorem find_easy (s : ByteArray) (w : World) (h : s.size = 0 ∨ (0 < s.size ∧ hd0 s < 128)) :
    Calls Try.prog 112 #[.string s] w fun e w' => e = .returned (spanv (fnd s)) ∧ Below w.heap.size w w' := by
  rcases h with h | ⟨h0, h1⟩
  · have HF : Hid (fnd s = (false, 0, 0, 7)) := by show _ = _; rw [fnd, if_pos h]
    obtain rfl := bytes_nil s h
    go_enter Try.func112, Try.ntmps112
    go_wp2_with fail
    rw [HF.out]
    refine bodyPost_ret (v := .tuple #[.agg #[.bool false, .int .i64 0, .int .i64 0], .int .i64 7]) ?_ rfl ⟨rfl, ?_⟩
    · simp [results, Try.results112, go_sem]
    · exact ((((Below.refl _ w).alloc (Nat.le_refl _) _)))
  · have HF : Hid (fnd s = (false, 0, 1, 0)) := by show _ = _; rw [fnd, if_neg (by omega), if_pos h1]
    have hix := idx_str s 0 0 h0 rfl
    rw [hd0_eq s h0] at hix
    have hne := ne_empty s h0
    have hc : decide ((hd0 s : Int) < 128) = true := decide_eq_true (by omega)
    clear h1
    go_enter Try.func112, Try.ntmps112
    go_wp2_with fail
    rw [HF.out]
    refine bodyPost_ret (v := .tuple #[.agg #[.bool false, .int .i64 0, .int .i64 1], .int .i64 0]) ?_ rfl ⟨rfl, ?_⟩
    · simp [results, Try.results112, go_sem]
    · exact ((((Below.refl _ w).alloc (Nat.le_refl _) _)))
/-! The greater cases. -/
set_option maxRecDepth 100000 in
set_option maxHeartbeats 2000000 in
theorem find_sl (s : ByteArray) (w : World) (c n : Nat) (hc : c = hd0 s) (hsz : s.size ≤ 1099511627776) (h0 : 0 < s.size) (h1 : 192 ≤ c) (hnn : n = c - 192) (h55 : n ≤ 55) :
    Calls Try.prog 112 #[.string s] w fun e w' => e = .returned (spanv (fnd s)) ∧ Below w.heap.size w w' := by
  have e0 : (if 192 ≤ c then 192 else 128) = 192 := if_pos h1
  have hix := idx_str s 0 0 h0 rfl
  rw [hd0_eq s h0, ← hc] at hix
  have hne := ne_empty s h0
  have hcm := hd0_lt s
  rw [← hc] at hcm
  have d1 : decide ((c : Int) < 128) = false := decide_eq_false (by omega)
  have d2 : decide ((192 : Int) ≤ (c : Int)) = true := decide_eq_true (by omega)
  have hn : (c : Int) - 192 = (n : Int) := by omega
  have HB0 : Hid (Bk (w.alloc (.cells #[.bool false, .int .i64 0, .int .i64 0] 154)).drew w.heap.size #[.bool false, .int .i64 0, .int .i64 0] 154 ∧ Below w.heap.size w (w.alloc (.cells #[.bool false, .int .i64 0, .int .i64 0] 154)).drew) := ⟨(Bk.new w _ _).drew, ((Below.refl _ w).alloc (Nat.le_refl _) _).drew⟩
  have d3 : decide ((55 : Int) < (n : Int)) = false := decide_eq_false (by omega)
  have HFn : Hid (fnd s = fin s true 1 n) := by
    show _ = _
    rw [fnd, if_neg (show ¬ s.size = 0 by omega), ← hc, if_neg (show ¬ c < 128 by omega)]
    simp only [e0, ← hnn]
    rw [if_pos h55]
    congr 1
    exact decide_eq_true h1
  clear hnn hc e0
  go_enter Try.func112, Try.ntmps112
  go_upto_region 8 with fail
  go_region
  have b1 := HB0.out.1
  have hB1 := HB0.out.2
  generalize (w.alloc (.cells #[.bool false, .int .i64 0, .int .i64 0] 154)).drew = w1 at *
  obtain ⟨e0, e1, e2⟩ := box_cells b1
  have f0 := b1.frozen 0
  have f1 := b1.frozen 1
  have f2 := b1.frozen 2
  have lb1 := b1.lt
  clear b1 HB0
  by_cases g1 : 65536 < 1 + n
  · omega
  · have g1' : decide ((65536 : Int) < 1 + (n : Int)) = false := decide_eq_false (by omega)
    by_cases g2 : s.size < 1 + n
    · have g2' : decide ((s.size : Int) < 1 + (n : Int)) = true := decide_eq_true (by omega)
      have HF : Hid (fnd s = (false, 0, 0, 7)) := by show _ = _; rw [HFn.out, fin, if_neg g1, if_pos g2]
      go_wp2_with (fail)
      rw [HF.out]
      refine bodyPost_ret (v := .tuple #[.agg #[.bool false, .int .i64 0, .int .i64 0], .int .i64 7]) ?_ rfl ⟨by first | rfl | (simp [spanv]; done), ?_⟩
      · simp [results, Try.results112, go_sem, e0, e1, e2, lb1]
      · first | exact hB1 | exact (((hB1.setCell (p := ⟨w.heap.size, 0, none⟩) (Nat.le_refl _) _).setCell (p := ⟨w.heap.size, 1, none⟩) (Nat.le_refl _) _).setCell (p := ⟨w.heap.size, 2, none⟩) (Nat.le_refl _) _)
    · have g2' : decide ((s.size : Int) < 1 + (n : Int)) = false := decide_eq_false (by omega)
      have HF : Hid (fnd s = (true, 1, 1 + n, 0)) := by show _ = _; rw [HFn.out, fin, if_neg g1, if_neg g2, if_neg (by simp)]
      go_wp2_with (fail)
      rw [HF.out]
      refine bodyPost_ret (v := .tuple #[.agg #[.bool true, .int .i64 1, .int .i64 (1 + (n : Int))], .int .i64 0]) ?_ rfl ⟨by first | rfl | (simp [spanv]; done), ?_⟩
      · simp [results, Try.results112, go_sem, e0, e1, e2, lb1]
      · first | exact hB1 | exact (((hB1.setCell (p := ⟨w.heap.size, 0, none⟩) (Nat.le_refl _) _).setCell (p := ⟨w.heap.size, 1, none⟩) (Nat.le_refl _) _).setCell (p := ⟨w.heap.size, 2, none⟩) (Nat.le_refl _) _)
set_option maxRecDepth 100000 in
set_option maxHeartbeats 2000000 in
theorem find_gl (s : ByteArray) (w : World) (c k : Nat) (hc : c = hd0 s) (hsz : s.size ≤ 1099511627776) (h0 : 0 < s.size) (h1 : 192 ≤ c) (hnn : k = c - 192) (h55 : 55 < k) :
    Calls Try.prog 112 #[.string s] w fun e w' => e = .returned (spanv (fnd s)) ∧ Below w.heap.size w w' := by
  have e0 : (if 192 ≤ c then 192 else 128) = 192 := if_pos h1
  have hix := idx_str s 0 0 h0 rfl
  rw [hd0_eq s h0, ← hc] at hix
  have hne := ne_empty s h0
  have hcm := hd0_lt s
  rw [← hc] at hcm
  have d1 : decide ((c : Int) < 128) = false := decide_eq_false (by omega)
  have d2 : decide ((192 : Int) ≤ (c : Int)) = true := decide_eq_true (by omega)
  have hn : (c : Int) - 192 = (k : Int) := by omega
  have HB0 : Hid (Bk (w.alloc (.cells #[.bool false, .int .i64 0, .int .i64 0] 154)).drew w.heap.size #[.bool false, .int .i64 0, .int .i64 0] 154 ∧ Below w.heap.size w (w.alloc (.cells #[.bool false, .int .i64 0, .int .i64 0] 154)).drew) := ⟨(Bk.new w _ _).drew, ((Below.refl _ w).alloc (Nat.le_refl _) _).drew⟩
  have d3 : decide ((55 : Int) < (k : Int)) = true := decide_eq_true (by omega)
  obtain ⟨fr, hfr⟩ : ∃ fr : Nat, fr = 1 + (k - 55) := ⟨_, rfl⟩
  have hf1 : (1 : Int) + ((k : Int) - 55) = (fr : Int) := by omega
  have hf8 : 2 ≤ fr ∧ fr ≤ 74 := by omega
  have HFa : Hid (fnd s = if s.size < fr then (false, 0, 0, 7) else if tlGood (s.extract 1 fr) = true then fin s true fr (tkV (s.extract 1 fr)) else (false, 0, 0, 1)) := by
    show _ = _
    rw [fnd, if_neg (show ¬ s.size = 0 by omega), ← hc, if_neg (show ¬ c < 128 by omega)]
    simp only [e0, ← hnn, ← hfr]
    rw [if_neg (show ¬ k ≤ 55 by omega)]
    have e : decide (192 ≤ c) = true := decide_eq_true h1
    rw [e]
  clear hnn hc hfr e0
  by_cases g0 : s.size < fr
  · have g0' : decide ((s.size : Int) < (fr : Int)) = true := decide_eq_true (by omega)
    have HF : Hid (fnd s = (false, 0, 0, 7)) := by show _ = _; rw [HFa.out, if_pos g0]
    go_enter Try.func112, Try.ntmps112
    go_upto_region 8 with fail
    go_region
    have b1 := HB0.out.1
    have hB1 := HB0.out.2
    generalize (w.alloc (.cells #[.bool false, .int .i64 0, .int .i64 0] 154)).drew = w1 at *
    obtain ⟨e0, e1, e2⟩ := box_cells b1
    have f0 := b1.frozen 0
    have f1 := b1.frozen 1
    have f2 := b1.frozen 2
    have lb1 := b1.lt
    clear b1 HB0
    go_wp2_with fail
    rw [HF.out]
    refine bodyPost_ret (v := .tuple #[.agg #[.bool false, .int .i64 0, .int .i64 0], .int .i64 7]) ?_ rfl ⟨by first | rfl | (simp [spanv]; done), ?_⟩
    · simp [results, Try.results112, go_sem, e0, e1, e2, lb1]
    · first | exact hB1 | exact (((hB1.setCell (p := ⟨w.heap.size, 0, none⟩) (Nat.le_refl _) _).setCell (p := ⟨w.heap.size, 1, none⟩) (Nat.le_refl _) _).setCell (p := ⟨w.heap.size, 2, none⟩) (Nat.le_refl _) _)
  have g0' : decide ((s.size : Int) < (fr : Int)) = false := decide_eq_false (by omega)
  have hle1 : (1 : Int) ≤ (fr : Int) := by omega
  have hle2 : (fr : Int) ≤ (s.size : Int) := by omega
  have hTL : Hid (∀ w, Calls Try.prog 123 #[.string (s.extract 1 fr)] w fun e w' => e = .returned (.tuple #[.int .i64 (tlN (s.extract 1 fr) : Int), .int .i64 (tlE (s.extract 1 fr))]) ∧ Below w.heap.size w w') := fun w => takeLength _ w
  cases hg : tlGood (s.extract 1 fr) with
  | false =>
    have HF : Hid (fnd s = (false, 0, 0, 1)) := by show _ = _; rw [HFa.out, if_neg g0, hg]; rfl
    have HE : Hid (tlN (s.extract 1 fr) = 0 ∧ tlE (s.extract 1 fr) = 1) := by constructor <;> simp [tlN, tlE, hg]
    rw [HE.out.1, HE.out.2] at hTL
    clear hg
    go_enter Try.func112, Try.ntmps112
    go_upto_region 8 with fail
    go_region
    go_wp2_with (go_at_call 123; refine (hTL.out _).mono ?_; rintro e w1 ⟨rfl, hb1⟩; have b1 := HB0.out.1.below hb1 HB0.out.1.lt; have hB1 := HB0.out.2.trans (hb1.mono (by simp)); obtain ⟨e0, e1, e2⟩ := box_cells b1; have f0 := b1.frozen 0; have f1 := b1.frozen 1; have f2 := b1.frozen 2; have lb1 := b1.lt)
    rw [HF.out]
    refine bodyPost_ret (v := .tuple #[.agg #[.bool false, .int .i64 0, .int .i64 0], .int .i64 1]) ?_ rfl ⟨by first | rfl | (simp [spanv]; done), ?_⟩
    · simp [results, Try.results112, go_sem, e0, e1, e2, lb1]
    · first | exact hB1 | exact (((hB1.setCell (p := ⟨w.heap.size, 0, none⟩) (Nat.le_refl _) _).setCell (p := ⟨w.heap.size, 1, none⟩) (Nat.le_refl _) _).setCell (p := ⟨w.heap.size, 2, none⟩) (Nat.le_refl _) _)
  | true =>
    have HFn0 : Hid (fnd s = fin s true fr (tkV (s.extract 1 fr))) := by show _ = _; rw [HFa.out, if_neg g0, hg]; rfl
    have HE : Hid (tlN (s.extract 1 fr) = tkV (s.extract 1 fr) ∧ tlE (s.extract 1 fr) = 0 ∧ tkV (s.extract 1 fr) ≤ 65536) := by
      refine ⟨by simp [tlN, hg], by simp [tlE, hg], ?_⟩
      simp [tlGood] at hg; exact hg.2.2
    rw [HE.out.1, HE.out.2.1] at hTL
    have hn16 := HE.out.2.2
    clear hg HE HFa
    generalize tkV (s.extract 1 fr) = n at *
    have HFn : Hid (fnd s = fin s true fr n) := HFn0
    go_enter Try.func112, Try.ntmps112
    go_upto_region 8 with fail
    go_region
    go_upto_region 17 with (go_at_call 123; refine (hTL.out _).mono ?_; rintro e w1 ⟨rfl, hb1⟩; have b1 := HB0.out.1.below hb1 HB0.out.1.lt; have hB1 := HB0.out.2.trans (hb1.mono (by simp)); obtain ⟨e0, e1, e2⟩ := box_cells b1; have f0 := b1.frozen 0; have f1 := b1.frozen 1; have f2 := b1.frozen 2; have lb1 := b1.lt)
    by_cases g1 : 65536 < fr + n
    · have g1' : decide ((65536 : Int) < (fr : Int) + (n : Int)) = true := decide_eq_true (by omega)
      have HF : Hid (fnd s = (false, 0, 0, 1)) := by show _ = _; rw [HFn.out, fin, if_pos g1]
      go_wp2_with (fail)
      rw [HF.out]
      refine bodyPost_ret (v := .tuple #[.agg #[.bool false, .int .i64 0, .int .i64 0], .int .i64 1]) ?_ rfl ⟨by first | rfl | (simp [spanv]; done), ?_⟩
      · simp [results, Try.results112, go_sem, e0, e1, e2, lb1]
      · first | exact hB1 | exact (((hB1.setCell (p := ⟨w.heap.size, 0, none⟩) (Nat.le_refl _) _).setCell (p := ⟨w.heap.size, 1, none⟩) (Nat.le_refl _) _).setCell (p := ⟨w.heap.size, 2, none⟩) (Nat.le_refl _) _)
    · have g1' : decide ((65536 : Int) < (fr : Int) + (n : Int)) = false := decide_eq_false (by omega)
      by_cases g2 : s.size < fr + n
      · have g2' : decide ((s.size : Int) < (fr : Int) + (n : Int)) = true := decide_eq_true (by omega)
        have HF : Hid (fnd s = (false, 0, 0, 7)) := by show _ = _; rw [HFn.out, fin, if_neg g1, if_pos g2]
        go_wp2_with (fail)
        rw [HF.out]
        refine bodyPost_ret (v := .tuple #[.agg #[.bool false, .int .i64 0, .int .i64 0], .int .i64 7]) ?_ rfl ⟨by first | rfl | (simp [spanv]; done), ?_⟩
        · simp [results, Try.results112, go_sem, e0, e1, e2, lb1]
        · first | exact hB1 | exact (((hB1.setCell (p := ⟨w.heap.size, 0, none⟩) (Nat.le_refl _) _).setCell (p := ⟨w.heap.size, 1, none⟩) (Nat.le_refl _) _).setCell (p := ⟨w.heap.size, 2, none⟩) (Nat.le_refl _) _)
      · have g2' : decide ((s.size : Int) < (fr : Int) + (n : Int)) = false := decide_eq_false (by omega)
        have HF : Hid (fnd s = (true, fr, fr + n, 0)) := by show _ = _; rw [HFn.out, fin, if_neg g1, if_neg g2, if_neg (by simp)]
        go_wp2_with (fail)
        rw [HF.out]
        refine bodyPost_ret (v := .tuple #[.agg #[.bool true, .int .i64 (fr : Int), .int .i64 ((fr : Int) + (n : Int))], .int .i64 0]) ?_ rfl ⟨by first | rfl | (simp [spanv]; done), ?_⟩
        · simp [results, Try.results112, go_sem, e0, e1, e2, lb1]
        · first | exact hB1 | exact (((hB1.setCell (p := ⟨w.heap.size, 0, none⟩) (Nat.le_refl _) _).setCell (p := ⟨w.heap.size, 1, none⟩) (Nat.le_refl _) _).setCell (p := ⟨w.heap.size, 2, none⟩) (Nat.le_refl _) _)
set_option maxRecDepth 100000 in
set_option maxHeartbeats 2000000 in
theorem find_st (s : ByteArray) (w : World) (c n : Nat) (hc : c = hd0 s) (hsz : s.size ≤ 1099511627776) (h0 : 0 < s.size) (h1 : 128 ≤ c ∧ c < 192) (hnn : n = c - 128) (h55 : n ≤ 55) :
    Calls Try.prog 112 #[.string s] w fun e w' => e = .returned (spanv (fnd s)) ∧ Below w.heap.size w w' := by
  have e0 : (if 192 ≤ c then 192 else 128) = 128 := if_neg (by omega)
  have hix := idx_str s 0 0 h0 rfl
  rw [hd0_eq s h0, ← hc] at hix
  have hne := ne_empty s h0
  have hcm := hd0_lt s
  rw [← hc] at hcm
  have d1 : decide ((c : Int) < 128) = false := decide_eq_false (by omega)
  have d2 : decide ((192 : Int) ≤ (c : Int)) = false := decide_eq_false (by omega)
  have hn : (c : Int) - 128 = (n : Int) := by omega
  have HB0 : Hid (Bk (w.alloc (.cells #[.bool false, .int .i64 0, .int .i64 0] 154)).drew w.heap.size #[.bool false, .int .i64 0, .int .i64 0] 154 ∧ Below w.heap.size w (w.alloc (.cells #[.bool false, .int .i64 0, .int .i64 0] 154)).drew) := ⟨(Bk.new w _ _).drew, ((Below.refl _ w).alloc (Nat.le_refl _) _).drew⟩
  have d3 : decide ((55 : Int) < (n : Int)) = false := decide_eq_false (by omega)
  have HFn : Hid (fnd s = fin s false 1 n) := by
    show _ = _
    rw [fnd, if_neg (show ¬ s.size = 0 by omega), ← hc, if_neg (show ¬ c < 128 by omega)]
    simp only [e0, ← hnn]
    rw [if_pos h55]
    congr 1
    exact decide_eq_false (by omega)
  clear hnn hc e0
  go_enter Try.func112, Try.ntmps112
  go_upto_region 8 with fail
  go_region
  have b1 := HB0.out.1
  have hB1 := HB0.out.2
  generalize (w.alloc (.cells #[.bool false, .int .i64 0, .int .i64 0] 154)).drew = w1 at *
  obtain ⟨e0, e1, e2⟩ := box_cells b1
  have f0 := b1.frozen 0
  have f1 := b1.frozen 1
  have f2 := b1.frozen 2
  have lb1 := b1.lt
  clear b1 HB0
  by_cases g1 : 65536 < 1 + n
  · omega
  · have g1' : decide ((65536 : Int) < 1 + (n : Int)) = false := decide_eq_false (by omega)
    by_cases g2 : s.size < 1 + n
    · have g2' : decide ((s.size : Int) < 1 + (n : Int)) = true := decide_eq_true (by omega)
      have HF : Hid (fnd s = (false, 0, 0, 7)) := by show _ = _; rw [HFn.out, fin, if_neg g1, if_pos g2]
      go_wp2_with (fail)
      rw [HF.out]
      refine bodyPost_ret (v := .tuple #[.agg #[.bool false, .int .i64 0, .int .i64 0], .int .i64 7]) ?_ rfl ⟨by first | rfl | (simp [spanv]; done), ?_⟩
      · simp [results, Try.results112, go_sem, e0, e1, e2, lb1]
      · first | exact hB1 | exact (((hB1.setCell (p := ⟨w.heap.size, 0, none⟩) (Nat.le_refl _) _).setCell (p := ⟨w.heap.size, 1, none⟩) (Nat.le_refl _) _).setCell (p := ⟨w.heap.size, 2, none⟩) (Nat.le_refl _) _)
    · have g2' : decide ((s.size : Int) < 1 + (n : Int)) = false := decide_eq_false (by omega)
      have hsl : (1 + (n : Int)).toNat = 1 + n := by omega
      have hle1 : 1 ≤ 1 + (n : Int) := by omega
      have hle2 : 1 + (n : Int) ≤ (s.size : Int) := by omega
      have hle3 : (0 : Int) ≤ 1 + (n : Int) := by omega
      have hxs : (s.extract 1 (1 + n)).size ≤ 9223372036854775807 := by rw [ByteArray.size_extract]; omega
      cases hbr : bareS (s.extract 1 (1 + n)) with
      | true =>
        have HF : Hid (fnd s = (false, 0, 0, 1)) := by show _ = _; rw [HFn.out, fin, if_neg g1, if_neg g2, if_pos (by simp [hbr])]
        go_wp2_with (go_at_call 104; refine (isBare _ _ hxs).mono ?_; rw [hbr]; rintro e w' ⟨rfl, rfl⟩)
        rw [HF.out]
        refine bodyPost_ret (v := .tuple #[.agg #[.bool false, .int .i64 0, .int .i64 0], .int .i64 1]) ?_ rfl ⟨by first | rfl | (simp [spanv]; done), ?_⟩
        · simp [results, Try.results112, go_sem, e0, e1, e2, lb1]
        · first | exact hB1 | exact (((hB1.setCell (p := ⟨w.heap.size, 0, none⟩) (Nat.le_refl _) _).setCell (p := ⟨w.heap.size, 1, none⟩) (Nat.le_refl _) _).setCell (p := ⟨w.heap.size, 2, none⟩) (Nat.le_refl _) _)
      | false =>
        have HF : Hid (fnd s = (false, 1, 1 + n, 0)) := by show _ = _; rw [HFn.out, fin, if_neg g1, if_neg g2, if_neg (by simp [hbr])]
        go_wp2_with (go_at_call 104; refine (isBare _ _ hxs).mono ?_; rw [hbr]; rintro e w' ⟨rfl, rfl⟩)
        rw [HF.out]
        refine bodyPost_ret (v := .tuple #[.agg #[.bool false, .int .i64 1, .int .i64 (1 + (n : Int))], .int .i64 0]) ?_ rfl ⟨by first | rfl | (simp [spanv]; done), ?_⟩
        · simp [results, Try.results112, go_sem, e0, e1, e2, lb1]
        · first | exact hB1 | exact (((hB1.setCell (p := ⟨w.heap.size, 0, none⟩) (Nat.le_refl _) _).setCell (p := ⟨w.heap.size, 1, none⟩) (Nat.le_refl _) _).setCell (p := ⟨w.heap.size, 2, none⟩) (Nat.le_refl _) _)
set_option maxRecDepth 100000 in
set_option maxHeartbeats 2000000 in
theorem find_gt (s : ByteArray) (w : World) (c k : Nat) (hc : c = hd0 s) (hsz : s.size ≤ 1099511627776) (h0 : 0 < s.size) (h1 : 128 ≤ c ∧ c < 192) (hnn : k = c - 128) (h55 : 55 < k) :
    Calls Try.prog 112 #[.string s] w fun e w' => e = .returned (spanv (fnd s)) ∧ Below w.heap.size w w' := by
  have e0 : (if 192 ≤ c then 192 else 128) = 128 := if_neg (by omega)
  have hix := idx_str s 0 0 h0 rfl
  rw [hd0_eq s h0, ← hc] at hix
  have hne := ne_empty s h0
  have hcm := hd0_lt s
  rw [← hc] at hcm
  have d1 : decide ((c : Int) < 128) = false := decide_eq_false (by omega)
  have d2 : decide ((192 : Int) ≤ (c : Int)) = false := decide_eq_false (by omega)
  have hn : (c : Int) - 128 = (k : Int) := by omega
  have HB0 : Hid (Bk (w.alloc (.cells #[.bool false, .int .i64 0, .int .i64 0] 154)).drew w.heap.size #[.bool false, .int .i64 0, .int .i64 0] 154 ∧ Below w.heap.size w (w.alloc (.cells #[.bool false, .int .i64 0, .int .i64 0] 154)).drew) := ⟨(Bk.new w _ _).drew, ((Below.refl _ w).alloc (Nat.le_refl _) _).drew⟩
  have d3 : decide ((55 : Int) < (k : Int)) = true := decide_eq_true (by omega)
  obtain ⟨fr, hfr⟩ : ∃ fr : Nat, fr = 1 + (k - 55) := ⟨_, rfl⟩
  have hf1 : (1 : Int) + ((k : Int) - 55) = (fr : Int) := by omega
  have hf8 : 2 ≤ fr ∧ fr ≤ 74 := by omega
  have HFa : Hid (fnd s = if s.size < fr then (false, 0, 0, 7) else if tlGood (s.extract 1 fr) = true then fin s false fr (tkV (s.extract 1 fr)) else (false, 0, 0, 1)) := by
    show _ = _
    rw [fnd, if_neg (show ¬ s.size = 0 by omega), ← hc, if_neg (show ¬ c < 128 by omega)]
    simp only [e0, ← hnn, ← hfr]
    rw [if_neg (show ¬ k ≤ 55 by omega)]
    have e : decide (192 ≤ c) = false := decide_eq_false (by omega)
    rw [e]
  clear hnn hc hfr e0
  by_cases g0 : s.size < fr
  · have g0' : decide ((s.size : Int) < (fr : Int)) = true := decide_eq_true (by omega)
    have HF : Hid (fnd s = (false, 0, 0, 7)) := by show _ = _; rw [HFa.out, if_pos g0]
    go_enter Try.func112, Try.ntmps112
    go_upto_region 8 with fail
    go_region
    have b1 := HB0.out.1
    have hB1 := HB0.out.2
    generalize (w.alloc (.cells #[.bool false, .int .i64 0, .int .i64 0] 154)).drew = w1 at *
    obtain ⟨e0, e1, e2⟩ := box_cells b1
    have f0 := b1.frozen 0
    have f1 := b1.frozen 1
    have f2 := b1.frozen 2
    have lb1 := b1.lt
    clear b1 HB0
    go_wp2_with fail
    rw [HF.out]
    refine bodyPost_ret (v := .tuple #[.agg #[.bool false, .int .i64 0, .int .i64 0], .int .i64 7]) ?_ rfl ⟨by first | rfl | (simp [spanv]; done), ?_⟩
    · simp [results, Try.results112, go_sem, e0, e1, e2, lb1]
    · first | exact hB1 | exact (((hB1.setCell (p := ⟨w.heap.size, 0, none⟩) (Nat.le_refl _) _).setCell (p := ⟨w.heap.size, 1, none⟩) (Nat.le_refl _) _).setCell (p := ⟨w.heap.size, 2, none⟩) (Nat.le_refl _) _)
  have g0' : decide ((s.size : Int) < (fr : Int)) = false := decide_eq_false (by omega)
  have hle1 : (1 : Int) ≤ (fr : Int) := by omega
  have hle2 : (fr : Int) ≤ (s.size : Int) := by omega
  have hTL : Hid (∀ w, Calls Try.prog 123 #[.string (s.extract 1 fr)] w fun e w' => e = .returned (.tuple #[.int .i64 (tlN (s.extract 1 fr) : Int), .int .i64 (tlE (s.extract 1 fr))]) ∧ Below w.heap.size w w') := fun w => takeLength _ w
  cases hg : tlGood (s.extract 1 fr) with
  | false =>
    have HF : Hid (fnd s = (false, 0, 0, 1)) := by show _ = _; rw [HFa.out, if_neg g0, hg]; rfl
    have HE : Hid (tlN (s.extract 1 fr) = 0 ∧ tlE (s.extract 1 fr) = 1) := by constructor <;> simp [tlN, tlE, hg]
    rw [HE.out.1, HE.out.2] at hTL
    clear hg
    go_enter Try.func112, Try.ntmps112
    go_upto_region 8 with fail
    go_region
    go_wp2_with (go_at_call 123; refine (hTL.out _).mono ?_; rintro e w1 ⟨rfl, hb1⟩; have b1 := HB0.out.1.below hb1 HB0.out.1.lt; have hB1 := HB0.out.2.trans (hb1.mono (by simp)); obtain ⟨e0, e1, e2⟩ := box_cells b1; have f0 := b1.frozen 0; have f1 := b1.frozen 1; have f2 := b1.frozen 2; have lb1 := b1.lt)
    rw [HF.out]
    refine bodyPost_ret (v := .tuple #[.agg #[.bool false, .int .i64 0, .int .i64 0], .int .i64 1]) ?_ rfl ⟨by first | rfl | (simp [spanv]; done), ?_⟩
    · simp [results, Try.results112, go_sem, e0, e1, e2, lb1]
    · first | exact hB1 | exact (((hB1.setCell (p := ⟨w.heap.size, 0, none⟩) (Nat.le_refl _) _).setCell (p := ⟨w.heap.size, 1, none⟩) (Nat.le_refl _) _).setCell (p := ⟨w.heap.size, 2, none⟩) (Nat.le_refl _) _)
  | true =>
    have HFn0 : Hid (fnd s = fin s false fr (tkV (s.extract 1 fr))) := by show _ = _; rw [HFa.out, if_neg g0, hg]; rfl
    have HE : Hid (tlN (s.extract 1 fr) = tkV (s.extract 1 fr) ∧ tlE (s.extract 1 fr) = 0 ∧ tkV (s.extract 1 fr) ≤ 65536) := by
      refine ⟨by simp [tlN, hg], by simp [tlE, hg], ?_⟩
      simp [tlGood] at hg; exact hg.2.2
    rw [HE.out.1, HE.out.2.1] at hTL
    have hn16 := HE.out.2.2
    clear hg HE HFa
    generalize tkV (s.extract 1 fr) = n at *
    have HFn : Hid (fnd s = fin s false fr n) := HFn0
    go_enter Try.func112, Try.ntmps112
    go_upto_region 8 with fail
    go_region
    go_upto_region 17 with (go_at_call 123; refine (hTL.out _).mono ?_; rintro e w1 ⟨rfl, hb1⟩; have b1 := HB0.out.1.below hb1 HB0.out.1.lt; have hB1 := HB0.out.2.trans (hb1.mono (by simp)); obtain ⟨e0, e1, e2⟩ := box_cells b1; have f0 := b1.frozen 0; have f1 := b1.frozen 1; have f2 := b1.frozen 2; have lb1 := b1.lt)
    by_cases g1 : 65536 < fr + n
    · have g1' : decide ((65536 : Int) < (fr : Int) + (n : Int)) = true := decide_eq_true (by omega)
      have HF : Hid (fnd s = (false, 0, 0, 1)) := by show _ = _; rw [HFn.out, fin, if_pos g1]
      go_wp2_with (fail)
      rw [HF.out]
      refine bodyPost_ret (v := .tuple #[.agg #[.bool false, .int .i64 0, .int .i64 0], .int .i64 1]) ?_ rfl ⟨by first | rfl | (simp [spanv]; done), ?_⟩
      · simp [results, Try.results112, go_sem, e0, e1, e2, lb1]
      · first | exact hB1 | exact (((hB1.setCell (p := ⟨w.heap.size, 0, none⟩) (Nat.le_refl _) _).setCell (p := ⟨w.heap.size, 1, none⟩) (Nat.le_refl _) _).setCell (p := ⟨w.heap.size, 2, none⟩) (Nat.le_refl _) _)
    · have g1' : decide ((65536 : Int) < (fr : Int) + (n : Int)) = false := decide_eq_false (by omega)
      by_cases g2 : s.size < fr + n
      · have g2' : decide ((s.size : Int) < (fr : Int) + (n : Int)) = true := decide_eq_true (by omega)
        have HF : Hid (fnd s = (false, 0, 0, 7)) := by show _ = _; rw [HFn.out, fin, if_neg g1, if_pos g2]
        go_wp2_with (fail)
        rw [HF.out]
        refine bodyPost_ret (v := .tuple #[.agg #[.bool false, .int .i64 0, .int .i64 0], .int .i64 7]) ?_ rfl ⟨by first | rfl | (simp [spanv]; done), ?_⟩
        · simp [results, Try.results112, go_sem, e0, e1, e2, lb1]
        · first | exact hB1 | exact (((hB1.setCell (p := ⟨w.heap.size, 0, none⟩) (Nat.le_refl _) _).setCell (p := ⟨w.heap.size, 1, none⟩) (Nat.le_refl _) _).setCell (p := ⟨w.heap.size, 2, none⟩) (Nat.le_refl _) _)
      · have g2' : decide ((s.size : Int) < (fr : Int) + (n : Int)) = false := decide_eq_false (by omega)
        have hsl : ((fr : Int) + (n : Int)).toNat = fr + n := by omega
        have hle1 : (fr : Int) ≤ (fr : Int) + (n : Int) := by omega
        have hle2 : (fr : Int) + (n : Int) ≤ (s.size : Int) := by omega
        have hle3 : (0 : Int) ≤ (fr : Int) + (n : Int) := by omega
        have hxs : (s.extract fr (fr + n)).size ≤ 9223372036854775807 := by rw [ByteArray.size_extract]; omega
        cases hbr : bareS (s.extract fr (fr + n)) with
        | true =>
          have HF : Hid (fnd s = (false, 0, 0, 1)) := by show _ = _; rw [HFn.out, fin, if_neg g1, if_neg g2, if_pos (by simp [hbr])]
          go_wp2_with (go_at_call 104; refine (isBare _ _ hxs).mono ?_; rw [hbr]; rintro e w' ⟨rfl, rfl⟩)
          rw [HF.out]
          refine bodyPost_ret (v := .tuple #[.agg #[.bool false, .int .i64 0, .int .i64 0], .int .i64 1]) ?_ rfl ⟨by first | rfl | (simp [spanv]; done), ?_⟩
          · simp [results, Try.results112, go_sem, e0, e1, e2, lb1]
          · first | exact hB1 | exact (((hB1.setCell (p := ⟨w.heap.size, 0, none⟩) (Nat.le_refl _) _).setCell (p := ⟨w.heap.size, 1, none⟩) (Nat.le_refl _) _).setCell (p := ⟨w.heap.size, 2, none⟩) (Nat.le_refl _) _)
        | false =>
          have HF : Hid (fnd s = (false, fr, fr + n, 0)) := by show _ = _; rw [HFn.out, fin, if_neg g1, if_neg g2, if_neg (by simp [hbr])]
          go_wp2_with (go_at_call 104; refine (isBare _ _ hxs).mono ?_; rw [hbr]; rintro e w' ⟨rfl, rfl⟩)
          rw [HF.out]
          refine bodyPost_ret (v := .tuple #[.agg #[.bool false, .int .i64 (fr : Int), .int .i64 ((fr : Int) + (n : Int))], .int .i64 0]) ?_ rfl ⟨by first | rfl | (simp [spanv]; done), ?_⟩
          · simp [results, Try.results112, go_sem, e0, e1, e2, lb1]
          · first | exact hB1 | exact (((hB1.setCell (p := ⟨w.heap.size, 0, none⟩) (Nat.le_refl _) _).setCell (p := ⟨w.heap.size, 1, none⟩) (Nat.le_refl _) _).setCell (p := ⟨w.heap.size, 2, none⟩) (Nat.le_refl _) _)
theorem find (s : ByteArray) (w : World) (hs : s.size ≤ 1099511627776) : Calls Try.prog 112 #[.string s] w fun e w' => e = .returned (spanv (fnd s)) ∧ Below w.heap.size w w' := by
  by_cases h0 : s.size = 0
  · exact find_easy s w (.inl h0)
  by_cases h1 : hd0 s < 128
  · exact find_easy s w (.inr ⟨by omega, h1⟩)
  by_cases h2 : 192 ≤ hd0 s
  · by_cases h3 : hd0 s - 192 ≤ 55
    · exact find_sl s w _ _ rfl hs (by omega) h2 rfl h3
    · exact find_gl s w _ _ rfl hs (by omega) h2 rfl (by omega)
  · by_cases h3 : hd0 s - 128 ≤ 55
    · exact find_st s w _ _ rfl hs (by omega) (by omega) rfl h3
    · exact find_gt s w _ _ rfl hs (by omega) (by omega) rfl (by omega)
end Go.Proofs.Ytapjonmgjccpbaa

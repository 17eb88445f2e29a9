import Derived.Test.YtapjonmgjccpbaaJ10
set_option linter.unusedSimpArgs false
set_option linter.unusedVariables false
namespace Go.Proofs.Ytapjonmgjccpbaa
open Go.RowKit

/-! The page's take by contract. -/
def RtS (r : Nat) : Prop := ∀ (s : ByteArray) (w : World) (d : Nat), d + r = 16 → s.size ≤ 1099511627776 → Calls Try.prog 73 #[.string s, .int .i64 d] w (TkQ r s w)
theorem sub_sub (X : ByteArray) (p k : Nat) (h : p + k ≤ X.size) : (X.extract p X.size).extract k (X.extract p X.size).size = X.extract (p + k) X.size := by
  apply ByteArray.ext
  simp only [ByteArray.data_extract, ByteArray.size_extract]
  rw [Array.extract_extract]
  congr 1
  omega
theorem ext_get (s : ByteArray) (m i : Nat) (h : i < m) (hs : 1 + m ≤ s.size) : takeV ((s.extract 1 (1 + m)).data.toList.take (i + 1)) = takeV ((s.extract 1 (1 + m)).data.toList.take i) * 256 + (s[1 + i]'(by omega)).toNat := by
  have hl : i < (s.extract 1 (1 + m)).data.toList.length := by rw [data_len, ByteArray.size_extract]; omega
  rw [List.take_succ_eq_append_getElem hl, takeV_snoc]
  congr 2
  simp only [ByteArray.data_extract, Array.getElem_toList, Array.getElem_extract]
  rfl
theorem ext_head (s : ByteArray) (m : Nat) (h : 1 ≤ m) (hs : 1 + m ≤ s.size) : (!((s.extract 1 (1 + m)).data.toList.head? == some 0)) = !decide ((s[1]'(by omega)).toNat = 0) := by
  have hl : 0 < (s.extract 1 (1 + m)).data.toList.length := by rw [data_len, ByteArray.size_extract]; omega
  have e : (s.extract 1 (1 + m)).data.toList.head? = some (s[1]'(by omega)) := by
    rw [List.head?_eq_getElem?, List.getElem?_eq_getElem hl]
    simp only [ByteArray.data_extract, Array.getElem_toList, Array.getElem_extract]
    rfl
  rw [e]
  congr 1
  rw [Bool.eq_iff_iff]
  simp [← UInt8.toNat_inj]
theorem takeV_pre (l : List UInt8) (i : Nat) : takeV (l.take i) ≤ takeV l := by
  conv => rhs; rw [← List.take_append_drop i l]
  unfold takeV
  rw [List.foldl_append, foldl_take (l.drop i)]
  have : 1 ≤ 2 ^ (8 * (l.drop i).length) := Nat.one_le_two_pow
  have := Nat.le_mul_of_pos_right ((l.take i).foldl (fun a b => a * 256 + b.toNat) 0) (show 0 < 2 ^ (8 * (l.drop i).length) by omega)
  omega
def strSize : Value → Nat
  | .string Y => Y.size
  | _ => 0
theorem sub_all (X : ByteArray) : X.extract 0 X.size = X := by
  apply ByteArray.ext
  rw [ByteArray.data_extract]
  exact Array.extract_size
theorem own_shape {w : World} {base : Nat} {e : TypeId} {sz : Nat} {v : Value} {n : Nat} {xs : List Value} (h : w.ownsRow base e sz v n xs) : ∃ a c, v = .slice a n c := by
  rcases h.2 with ⟨rfl, hz⟩ | ⟨g, cap, cur, rfl, _⟩
  · exact ⟨none, 0, by rw [hz]⟩
  · exact ⟨_, cap, rfl⟩
theorem own_ne {w : World} {base : Nat} {e : TypeId} {sz : Nat} {v : Value} {n : Nat} {xs : List Value} {k : Nat} (h : w.ownsRow base e sz v n xs) (hk : k < base) : v.ownBlock = none ∨ v.ownBlock ≠ some k := by
  cases hv : v.ownBlock with
  | none => exact .inl rfl
  | some q => right; intro e2; simp at e2; have := (h.lt q hv).1; omega
theorem sub_size (X : ByteArray) (p : Nat) (h : p ≤ X.size) : (X.extract p X.size).size = X.size - p := by rw [ByteArray.size_extract]; omega

set_option maxRecDepth 100000 in
set_option maxHeartbeats 2000000 in
theorem rtake_st (r d : Nat) (hd : d + r = 16) (s : ByteArray) (w : World) (c n : Nat) (hc : c = hd0 s) (hsz : s.size ≤ 1099511627776) (h0 : 0 < s.size) (h1 : 128 ≤ c ∧ c < 192) (hnn : n = c - 128) (h55 : n ≤ 55) :
    Calls Try.prog 73 #[.string s, .int .i64 (d : Int)] w (TkQ r s w) := by
  have e0 : (if 192 ≤ c then 192 else 128) = 128 := if_neg (by omega)
  have hix := idx_str s 0 0 h0 rfl
  rw [hd0_eq s h0, ← hc] at hix
  have hcm := hd0_lt s
  rw [← hc] at hcm
  have hz : ((s.size : Int) == 0) = false := by rw [beq_eq_false_iff_ne]; omega
  have d1 : decide ((c : Int) < 128) = false := decide_eq_false (by omega)
  have d2 : decide ((192 : Int) ≤ (c : Int)) = false := decide_eq_false (by omega)
  have hn : (c : Int) - 128 = (n : Int) := by omega
  have d3 : decide ((55 : Int) < (n : Int)) = false := decide_eq_false (by omega)
  have HFn : Hid (fnd s = fin s false 1 n) := by
    show _ = _
    rw [fnd, if_neg (show ¬ s.size = 0 by omega), ← hc, if_neg (show ¬ c < 128 by omega)]
    simp only [e0, ← hnn]
    rw [if_pos h55]
    congr 1
    exact decide_eq_false (by omega)
  clear hnn hc e0
  go_enter Try.func73, Try.ntmps73
  go_upto_region 27 with fail
  by_cases g1 : 65536 < 1 + n
  · omega
  have g1' : decide ((65536 : Int) < 1 + (n : Int)) = false := decide_eq_false (by omega)
  by_cases g2 : s.size < 1 + n
  · have g2' : decide ((s.size : Int) < 1 + (n : Int)) = true := decide_eq_true (by omega)
    have HF : Hid (fnd s = (false, 0, 0, 7)) := by show _ = _; rw [HFn.out, fin, if_neg g1, if_pos g2]
    have HT : Hid (tk r s = (zIT, 0, 7)) := by show _ = _; rw [tk_err r s (by rw [HF.out]; simp), HF.out]
    go_wp2_with fail
    refine bodyPost_ret (v := .tuple #[.agg #[.bool false, .string ⟨#[]⟩, .slice none 0 0], .int .i64 0, .int .i64 7]) ?_ rfl ⟨⟨none, 0, 0, by rw [HT.out]; rfl, by rw [HT.out]; exact rd_nil _ _ _⟩, ?_⟩
    · simp [results, Try.results73, go_sem]
    · exact ((Below.refl _ w).alloc (Nat.le_refl _) _).alloc (by simp) _
  have g2' : decide ((s.size : Int) < 1 + (n : Int)) = false := decide_eq_false (by omega)
  have hsl : (1 + (n : Int)).toNat = 1 + n := by omega
  have hle1 : 1 ≤ 1 + (n : Int) := by omega
  have hle2 : 1 + (n : Int) ≤ (s.size : Int) := by omega
  have hle3 : (0 : Int) ≤ 1 + (n : Int) := by omega
  have hXs : (s.extract 1 (1 + n)).size = n := by rw [ByteArray.size_extract]; omega
  by_cases hn1 : n = 1
  · have hn1' : ((n : Int) == 1) = true := by rw [beq_iff_eq]; omega
    have hX0 : 0 < (s.extract 1 (1 + n)).size := by omega
    have hX1 : (s.extract 1 (1 + n)).size = 1 := by omega
    have hi2 := idx_str (s.extract 1 (1 + n)) 0 0 hX0 rfl
    have hbp : bareS (s.extract 1 (1 + n)) = decide (((s.extract 1 (1 + n))[0].toNat : Int) < 128) := bareS_pos hX1
    clear hX1
    have HN1 : Hid (n = 1) := hn1
    clear hn1
    by_cases hlt : ((s.extract 1 (1 + n))[0].toNat : Int) < 128
    · have hbr : bareS (s.extract 1 (1 + n)) = true := by rw [hbp]; simpa using hlt
      have HF : Hid (fnd s = (false, 0, 0, 1)) := by show _ = _; rw [HFn.out, fin, if_neg g1, if_neg g2, if_pos (by simp [hbr])]
      clear hbp
      have HT : Hid (tk r s = (zIT, 0, 1)) := by show _ = _; rw [tk_err r s (by rw [HF.out]; simp), HF.out]
      go_wp2_with fail
      refine bodyPost_ret (v := .tuple #[.agg #[.bool false, .string ⟨#[]⟩, .slice none 0 0], .int .i64 0, .int .i64 1]) ?_ rfl ⟨⟨none, 0, 0, by rw [HT.out]; rfl, by rw [HT.out]; exact rd_nil _ _ _⟩, ?_⟩
      · simp [results, Try.results73, go_sem]
      · exact ((Below.refl _ w).alloc (Nat.le_refl _) _).alloc (by simp) _
    · have hbr : bareS (s.extract 1 (1 + n)) = false := by rw [hbp]; simpa using hlt
      clear hbp
      have HF : Hid (fnd s = (false, 1, 1 + n, 0)) := by show _ = _; rw [HFn.out, fin, if_neg g1, if_neg g2, if_neg (by simp [hbr])]
      have HT : Hid (tk r s = (.mk false (s.extract 1 (1 + n)) [], 1 + n, 0)) := by show _ = _; rw [tk_text r s (by rw [HF.out]) (by rw [HF.out]), HF.out]
      go_wp2_with fail
      refine bodyPost_ret (v := .tuple #[.agg #[.bool false, .string (s.extract 1 (1 + n)), .slice none 0 0], .int .i64 (1 + (n : Int)), .int .i64 0]) ?_ rfl ⟨⟨none, 0, 0, by rw [HT.out]; first | rfl | (simp [IT.list, IT.text]; done), by rw [HT.out]; exact rd_nil _ _ _⟩, ?_⟩
      · simp [results, Try.results73, go_sem]
      · exact ((Below.refl _ w).alloc (Nat.le_refl _) _).alloc (by simp) _
  · have hn1' : ((n : Int) == 1) = false := by rw [beq_eq_false_iff_ne]; omega
    have hbr : bareS (s.extract 1 (1 + n)) = false := bareS_neg (by omega)
    have HF : Hid (fnd s = (false, 1, 1 + n, 0)) := by show _ = _; rw [HFn.out, fin, if_neg g1, if_neg g2, if_neg (by simp [hbr])]
    have HT : Hid (tk r s = (.mk false (s.extract 1 (1 + n)) [], 1 + n, 0)) := by show _ = _; rw [tk_text r s (by rw [HF.out]) (by rw [HF.out]), HF.out]
    go_wp2_with fail
    refine bodyPost_ret (v := .tuple #[.agg #[.bool false, .string (s.extract 1 (1 + n)), .slice none 0 0], .int .i64 (1 + (n : Int)), .int .i64 0]) ?_ rfl ⟨⟨none, 0, 0, by rw [HT.out]; first | rfl | (simp [IT.list, IT.text]; done), by rw [HT.out]; exact rd_nil _ _ _⟩, ?_⟩
    · simp [results, Try.results73, go_sem]
    · exact ((Below.refl _ w).alloc (Nat.le_refl _) _).alloc (by simp) _
set_option maxRecDepth 100000 in
set_option maxHeartbeats 2000000 in
theorem rtake_gt (r d : Nat) (hd : d + r = 16) (s : ByteArray) (w : World) (c k : Nat) (hc : c = hd0 s) (hsz : s.size ≤ 1099511627776) (h0 : 0 < s.size) (h1 : 128 ≤ c ∧ c < 192) (hnn : k = c - 128) (h55 : 55 < k) :
    Calls Try.prog 73 #[.string s, .int .i64 (d : Int)] w (TkQ r s w) := by
  have e0 : (if 192 ≤ c then 192 else 128) = 128 := if_neg (by omega)
  have hix := idx_str s 0 0 h0 rfl
  rw [hd0_eq s h0, ← hc] at hix
  have hcm := hd0_lt s
  rw [← hc] at hcm
  have hz : ((s.size : Int) == 0) = false := by rw [beq_eq_false_iff_ne]; omega
  have d1 : decide ((c : Int) < 128) = false := decide_eq_false (by omega)
  have d2 : decide ((192 : Int) ≤ (c : Int)) = false := decide_eq_false (by omega)
  have hn : (c : Int) - 128 = (k : Int) := by omega
  have d3 : decide ((55 : Int) < (k : Int)) = true := decide_eq_true (by omega)
  obtain ⟨m, hm⟩ : ∃ m : Nat, m = k - 55 := ⟨_, rfl⟩
  have hm1 : (k : Int) - 55 = (m : Int) := by omega
  have hm8 : 1 ≤ m ∧ m ≤ 8 := by omega
  have HFa : Hid (fnd s = if s.size < 1 + m then (false, 0, 0, 7) else if tlGood (s.extract 1 (1 + m)) = true then fin s false (1 + m) (tkV (s.extract 1 (1 + m))) else (false, 0, 0, 1)) := by
    show _ = _
    rw [fnd, if_neg (show ¬ s.size = 0 by omega), ← hc, if_neg (show ¬ c < 128 by omega)]
    simp only [e0, ← hnn, ← hm]
    rw [if_neg (show ¬ k ≤ 55 by omega)]
    have e : decide (192 ≤ c) = false := decide_eq_false (by omega)
    rw [e]
  clear hnn hc hm e0
  by_cases g0 : s.size < 1 + m
  · have g0' : decide ((s.size : Int) < 1 + (m : Int)) = true := decide_eq_true (by omega)
    have HF : Hid (fnd s = (false, 0, 0, 7)) := by show _ = _; rw [HFa.out, if_pos g0]
    go_enter Try.func73, Try.ntmps73
    have HT : Hid (tk r s = (zIT, 0, 7)) := by show _ = _; rw [tk_err r s (by rw [HF.out]; simp), HF.out]
    go_wp2_with fail
    refine bodyPost_ret (v := .tuple #[.agg #[.bool false, .string ⟨#[]⟩, .slice none 0 0], .int .i64 0, .int .i64 7]) ?_ rfl ⟨⟨none, 0, 0, by rw [HT.out]; rfl, by rw [HT.out]; exact rd_nil _ _ _⟩, ?_⟩
    · simp [results, Try.results73, go_sem]
    · exact ((Below.refl _ w).alloc (Nat.le_refl _) _).alloc (by simp) _
  have g0' : decide ((s.size : Int) < 1 + (m : Int)) = false := decide_eq_false (by omega)
  have hX1 : 1 < s.size := by omega
  have hi1 := idx_str s 1 1 hX1 rfl
  have hXl : (s.extract 1 (1 + m)).size = m := by rw [ByteArray.size_extract]; omega
  have hXi := fun i (h : i < m) => ext_get s m i h (by omega)
  have hhd := ext_head s m (by omega) (by omega)
  by_cases b0 : s[1].toNat = 0
  · have b0' : ((s[1].toNat : Int) == 0) = true := by rw [beq_iff_eq]; omega
    have HF : Hid (fnd s = (false, 0, 0, 1)) := by
      show _ = _
      rw [HFa.out, if_neg g0, if_neg]
      simp only [tlGood, tkGood, hhd, b0]; simp
    clear hXi hhd
    go_enter Try.func73, Try.ntmps73
    have HT : Hid (tk r s = (zIT, 0, 1)) := by show _ = _; rw [tk_err r s (by rw [HF.out]; simp), HF.out]
    go_wp2_with fail
    refine bodyPost_ret (v := .tuple #[.agg #[.bool false, .string ⟨#[]⟩, .slice none 0 0], .int .i64 0, .int .i64 1]) ?_ rfl ⟨⟨none, 0, 0, by rw [HT.out]; rfl, by rw [HT.out]; exact rd_nil _ _ _⟩, ?_⟩
    · simp [results, Try.results73, go_sem]
    · exact ((Below.refl _ w).alloc (Nat.le_refl _) _).alloc (by simp) _
  have b0' : ((s[1].toNat : Int) == 0) = false := by rw [beq_eq_false_iff_ne]; omega
  have HFa2 : Hid (fnd s = if 55 < takeV (s.extract 1 (1 + m)).data.toList ∧ takeV (s.extract 1 (1 + m)).data.toList ≤ 65536 then fin s false (1 + m) (takeV (s.extract 1 (1 + m)).data.toList) else (false, 0, 0, 1)) := by
    show _ = _
    have hg : tkGood (s.extract 1 (1 + m)) = true := by simp only [tkGood, hhd]; simp [hXl, b0]; omega
    rw [HFa.out, if_neg g0, tlGood, hg, show tkV (s.extract 1 (1 + m)) = takeV (s.extract 1 (1 + m)).data.toList by simp [tkV, hg]]
    simp
  have HXl : Hid ((s.extract 1 (1 + m)).size = m) := hXl
  have HXi : Hid (∀ i, i < m → ∀ h : 1 + i < s.size, takeV ((s.extract 1 (1 + m)).data.toList.take (i + 1)) = takeV ((s.extract 1 (1 + m)).data.toList.take i) * 256 + s[1 + i].toNat) := fun i hi h => hXi i hi
  clear hXi hhd hXl HFa b0
  go_enter Try.func73, Try.ntmps73
  go_wp2_with fail
  go_loop [10, 13] (fun nv iv => ∃ i v : Nat, i ≤ m ∧ iv = .int .i64 (i : Int) ∧ nv = .int .i64 (v : Int) ∧ Hid (v = takeV ((s.extract 1 (1 + m)).data.toList.take i)) ∧ v ≤ 65536) (fun _ iv => m - (intOf iv).toNat)
  case atStart => exact ⟨0, 0, by omega, rfl, rfl, by show 0 = _; simp [takeV], by omega⟩
  case round =>
    obtain ⟨i, v, hi, rfl, rfl, hv, hv16⟩ := hrel
    by_cases hlt : i < m
    · have hlt' : decide ((i : Int) < (m : Int)) = true := decide_eq_true (by omega)
      have hlt'' : decide (i < m) = true := decide_eq_true hlt
      have hX2 : 1 + i < s.size := by omega
      have hii := idx_str s (1 + (i : Int)) (1 + i) hX2 (by omega)
      have hst := HXi.out i hlt hX2
      have hb := byte_lt s[1 + i]
      generalize s[1 + i].toNat = y at *
      have HST : Hid (takeV ((s.extract 1 (1 + m)).data.toList.take (i + 1)) = v * 256 + y) := by show _ = _; rw [hst, ← hv.out]
      clear hst
      by_cases hg : v * 256 + y ≤ 65536
      · have hg' : decide ((65536 : Int) < (v : Int) * 256 + (y : Int)) = false := decide_eq_false (by omega)
        go_wp2_with fail
        go_round
        case rel => exact ⟨i + 1, v * 256 + y, by omega, by go_num, by go_num, HST.out.symm, hg⟩
        case measure => simp [intOf]; omega
      · have hg' : decide ((65536 : Int) < (v : Int) * 256 + (y : Int)) = true := decide_eq_true (by omega)
        have HF : Hid (fnd s = (false, 0, 0, 1)) := by
          show _ = _
          rw [HFa2.out, if_neg]
          have := takeV_pre (s.extract 1 (1 + m)).data.toList (i + 1)
          rw [HST.out] at this
          omega
        have HT : Hid (tk r s = (zIT, 0, 1)) := by show _ = _; rw [tk_err r s (by rw [HF.out]; simp), HF.out]
        go_wp2_with fail
        refine bodyPost_ret (v := .tuple #[.agg #[.bool false, .string ⟨#[]⟩, .slice none 0 0], .int .i64 0, .int .i64 1]) ?_ rfl ⟨⟨none, 0, 0, by rw [HT.out]; rfl, by rw [HT.out]; exact rd_nil _ _ _⟩, ?_⟩
        · simp [results, Try.results73, go_sem]
        · exact ((Below.refl _ w).alloc (Nat.le_refl _) _).alloc (by simp) _
    · have hlt' : decide ((i : Int) < (m : Int)) = false := decide_eq_false (by omega)
      have hlt'' : decide (i < m) = false := decide_eq_false hlt
      have hvm : v = takeV (s.extract 1 (1 + m)).data.toList := by
        have e := hv.out
        rw [List.take_of_length_le (by rw [data_len, HXl.out]; omega)] at e
        exact e
      have HV : Hid (v = takeV (s.extract 1 (1 + m)).data.toList) := hvm
      clear hvm hv
      by_cases h56 : v < 56
      · have h56' : decide ((v : Int) < 56) = true := decide_eq_true (by omega)
        have HF : Hid (fnd s = (false, 0, 0, 1)) := by show _ = _; rw [HFa2.out, ← HV.out, if_neg (by omega)]
        have HT : Hid (tk r s = (zIT, 0, 1)) := by show _ = _; rw [tk_err r s (by rw [HF.out]; simp), HF.out]
        go_wp2_with fail
        refine bodyPost_ret (v := .tuple #[.agg #[.bool false, .string ⟨#[]⟩, .slice none 0 0], .int .i64 0, .int .i64 1]) ?_ rfl ⟨⟨none, 0, 0, by rw [HT.out]; rfl, by rw [HT.out]; exact rd_nil _ _ _⟩, ?_⟩
        · simp [results, Try.results73, go_sem]
        · exact ((Below.refl _ w).alloc (Nat.le_refl _) _).alloc (by simp) _
      have h56' : decide ((v : Int) < 56) = false := decide_eq_false (by omega)
      obtain ⟨n, hn2⟩ : ∃ n, n = v := ⟨_, rfl⟩
      subst hn2
      have HFn : Hid (fnd s = fin s false (1 + m) n) := by show _ = _; rw [HFa2.out, ← HV.out, if_pos (by omega)]
      go_upto_region 27 with fail
      by_cases g1 : 65536 < (1 + m) + n
      · have g1' : decide ((65536 : Int) < (1 + (m : Int)) + (n : Int)) = true := decide_eq_true (by omega)
        have HF : Hid (fnd s = (false, 0, 0, 1)) := by show _ = _; rw [HFn.out, fin, if_pos g1]
        have HT : Hid (tk r s = (zIT, 0, 1)) := by show _ = _; rw [tk_err r s (by rw [HF.out]; simp), HF.out]
        go_wp2_with fail
        refine bodyPost_ret (v := .tuple #[.agg #[.bool false, .string ⟨#[]⟩, .slice none 0 0], .int .i64 0, .int .i64 1]) ?_ rfl ⟨⟨none, 0, 0, by rw [HT.out]; rfl, by rw [HT.out]; exact rd_nil _ _ _⟩, ?_⟩
        · simp [results, Try.results73, go_sem]
        · exact ((Below.refl _ w).alloc (Nat.le_refl _) _).alloc (by simp) _
      have g1' : decide ((65536 : Int) < (1 + (m : Int)) + (n : Int)) = false := decide_eq_false (by omega)
      by_cases g2 : s.size < (1 + m) + n
      · have g2' : decide ((s.size : Int) < (1 + (m : Int)) + (n : Int)) = true := decide_eq_true (by omega)
        have HF : Hid (fnd s = (false, 0, 0, 7)) := by show _ = _; rw [HFn.out, fin, if_neg g1, if_pos g2]
        have HT : Hid (tk r s = (zIT, 0, 7)) := by show _ = _; rw [tk_err r s (by rw [HF.out]; simp), HF.out]
        go_wp2_with fail
        refine bodyPost_ret (v := .tuple #[.agg #[.bool false, .string ⟨#[]⟩, .slice none 0 0], .int .i64 0, .int .i64 7]) ?_ rfl ⟨⟨none, 0, 0, by rw [HT.out]; rfl, by rw [HT.out]; exact rd_nil _ _ _⟩, ?_⟩
        · simp [results, Try.results73, go_sem]
        · exact ((Below.refl _ w).alloc (Nat.le_refl _) _).alloc (by simp) _
      have g2' : decide ((s.size : Int) < (1 + (m : Int)) + (n : Int)) = false := decide_eq_false (by omega)
      have hsl : ((1 + (m : Int)) + (n : Int)).toNat = (1 + m) + n := by omega
      have hle1 : (1 + (m : Int)) ≤ (1 + (m : Int)) + (n : Int) := by omega
      have hle2 : (1 + (m : Int)) + (n : Int) ≤ (s.size : Int) := by omega
      have hle3 : (0 : Int) ≤ (1 + (m : Int)) + (n : Int) := by omega
      have hXs : (s.extract (1 + m) ((1 + m) + n)).size = n := by rw [ByteArray.size_extract]; omega
      by_cases hn1 : n = 1
      · have hn1' : ((n : Int) == 1) = true := by rw [beq_iff_eq]; omega
        have hX0 : 0 < (s.extract (1 + m) ((1 + m) + n)).size := by omega
        have hX1 : (s.extract (1 + m) ((1 + m) + n)).size = 1 := by omega
        have hi2 := idx_str (s.extract (1 + m) ((1 + m) + n)) 0 0 hX0 rfl
        have hbp : bareS (s.extract (1 + m) ((1 + m) + n)) = decide (((s.extract (1 + m) ((1 + m) + n))[0].toNat : Int) < 128) := bareS_pos hX1
        clear hX1
        have HN1 : Hid (n = 1) := hn1
        clear hn1
        by_cases hlt : ((s.extract (1 + m) ((1 + m) + n))[0].toNat : Int) < 128
        · have hbr : bareS (s.extract (1 + m) ((1 + m) + n)) = true := by rw [hbp]; simpa using hlt
          have HF : Hid (fnd s = (false, 0, 0, 1)) := by show _ = _; rw [HFn.out, fin, if_neg g1, if_neg g2, if_pos (by simp [hbr])]
          clear hbp
          have HT : Hid (tk r s = (zIT, 0, 1)) := by show _ = _; rw [tk_err r s (by rw [HF.out]; simp), HF.out]
          go_wp2_with fail
          refine bodyPost_ret (v := .tuple #[.agg #[.bool false, .string ⟨#[]⟩, .slice none 0 0], .int .i64 0, .int .i64 1]) ?_ rfl ⟨⟨none, 0, 0, by rw [HT.out]; rfl, by rw [HT.out]; exact rd_nil _ _ _⟩, ?_⟩
          · simp [results, Try.results73, go_sem]
          · exact ((Below.refl _ w).alloc (Nat.le_refl _) _).alloc (by simp) _
        · have hbr : bareS (s.extract (1 + m) ((1 + m) + n)) = false := by rw [hbp]; simpa using hlt
          clear hbp
          have HF : Hid (fnd s = (false, (1 + m), (1 + m) + n, 0)) := by show _ = _; rw [HFn.out, fin, if_neg g1, if_neg g2, if_neg (by simp [hbr])]
          have HT : Hid (tk r s = (.mk false (s.extract (1 + m) ((1 + m) + n)) [], (1 + m) + n, 0)) := by show _ = _; rw [tk_text r s (by rw [HF.out]) (by rw [HF.out]), HF.out]
          go_wp2_with fail
          refine bodyPost_ret (v := .tuple #[.agg #[.bool false, .string (s.extract (1 + m) ((1 + m) + n)), .slice none 0 0], .int .i64 ((1 + (m : Int)) + (n : Int)), .int .i64 0]) ?_ rfl ⟨⟨none, 0, 0, by rw [HT.out]; first | rfl | (simp [IT.list, IT.text]; done), by rw [HT.out]; exact rd_nil _ _ _⟩, ?_⟩
          · simp [results, Try.results73, go_sem]
          · exact ((Below.refl _ w).alloc (Nat.le_refl _) _).alloc (by simp) _
      · have hn1' : ((n : Int) == 1) = false := by rw [beq_eq_false_iff_ne]; omega
        have hbr : bareS (s.extract (1 + m) ((1 + m) + n)) = false := bareS_neg (by omega)
        have HF : Hid (fnd s = (false, (1 + m), (1 + m) + n, 0)) := by show _ = _; rw [HFn.out, fin, if_neg g1, if_neg g2, if_neg (by simp [hbr])]
        have HT : Hid (tk r s = (.mk false (s.extract (1 + m) ((1 + m) + n)) [], (1 + m) + n, 0)) := by show _ = _; rw [tk_text r s (by rw [HF.out]) (by rw [HF.out]), HF.out]
        go_wp2_with fail
        refine bodyPost_ret (v := .tuple #[.agg #[.bool false, .string (s.extract (1 + m) ((1 + m) + n)), .slice none 0 0], .int .i64 ((1 + (m : Int)) + (n : Int)), .int .i64 0]) ?_ rfl ⟨⟨none, 0, 0, by rw [HT.out]; first | rfl | (simp [IT.list, IT.text]; done), by rw [HT.out]; exact rd_nil _ _ _⟩, ?_⟩
        · simp [results, Try.results73, go_sem]
        · exact ((Below.refl _ w).alloc (Nat.le_refl _) _).alloc (by simp) _
set_option maxRecDepth 100000 in
set_option maxHeartbeats 2000000 in
theorem rtake_sl (r d : Nat) (IH : ∀ r2, r = r2 + 1 → RtS r2) (hd : d + r = 16) (s : ByteArray) (w : World) (c n : Nat) (hc : c = hd0 s) (hsz : s.size ≤ 1099511627776) (h0 : 0 < s.size) (h1 : 192 ≤ c) (hnn : n = c - 192) (h55 : n ≤ 55) :
    Calls Try.prog 73 #[.string s, .int .i64 (d : Int)] w (TkQ r s w) := by
  have e0 : (if 192 ≤ c then 192 else 128) = 192 := if_pos h1
  have hix := idx_str s 0 0 h0 rfl
  rw [hd0_eq s h0, ← hc] at hix
  have hcm := hd0_lt s
  rw [← hc] at hcm
  have hz : ((s.size : Int) == 0) = false := by rw [beq_eq_false_iff_ne]; omega
  have d1 : decide ((c : Int) < 128) = false := decide_eq_false (by omega)
  have d2 : decide ((192 : Int) ≤ (c : Int)) = true := decide_eq_true (by omega)
  have hn : (c : Int) - 64 - 128 = (n : Int) := by omega
  have d3 : decide ((55 : Int) < (n : Int)) = false := decide_eq_false (by omega)
  have HFn : Hid (fnd s = fin s true 1 n) := by
    show _ = _
    rw [fnd, if_neg (show ¬ s.size = 0 by omega), ← hc, if_neg (show ¬ c < 128 by omega)]
    simp only [e0, ← hnn]
    rw [if_pos h55]
    congr 1
    exact decide_eq_true h1
  clear hnn hc e0
  go_enter Try.func73, Try.ntmps73
  go_upto_region 27 with fail
  by_cases g1 : 65536 < 1 + n
  · omega
  have g1' : decide ((65536 : Int) < 1 + (n : Int)) = false := decide_eq_false (by omega)
  by_cases g2 : s.size < 1 + n
  · have g2' : decide ((s.size : Int) < 1 + (n : Int)) = true := decide_eq_true (by omega)
    have HF : Hid (fnd s = (false, 0, 0, 7)) := by show _ = _; rw [HFn.out, fin, if_neg g1, if_pos g2]
    have HT : Hid (tk r s = (zIT, 0, 7)) := by show _ = _; rw [tk_err r s (by rw [HF.out]; simp), HF.out]
    go_wp2_with fail
    refine bodyPost_ret (v := .tuple #[.agg #[.bool false, .string ⟨#[]⟩, .slice none 0 0], .int .i64 0, .int .i64 7]) ?_ rfl ⟨⟨none, 0, 0, by rw [HT.out]; rfl, by rw [HT.out]; exact rd_nil _ _ _⟩, ?_⟩
    · simp [results, Try.results73, go_sem]
    · exact ((Below.refl _ w).alloc (Nat.le_refl _) _).alloc (by simp) _
  have g2' : decide ((s.size : Int) < 1 + (n : Int)) = false := decide_eq_false (by omega)
  have hsl : (1 + (n : Int)).toNat = 1 + n := by omega
  have hle1 : 1 ≤ 1 + (n : Int) := by omega
  have hle2 : 1 + (n : Int) ≤ (s.size : Int) := by omega
  have hle3 : (0 : Int) ≤ 1 + (n : Int) := by omega
  have hXs : (s.extract 1 (1 + n)).size = n := by rw [ByteArray.size_extract]; omega
  have HF : Hid (fnd s = (true, 1, 1 + n, 0)) := by show _ = _; rw [HFn.out, fin, if_neg g1, if_neg g2, if_neg (by simp)]
  cases r with
  | zero =>
    have hdd : decide ((16 : Int) < (d : Int) + 1) = true := decide_eq_true (by omega)
    have HT : Hid (tk 0 s = (zIT, 0, 1)) := by show _ = _; exact tk_deep s (by rw [HF.out]) (by rw [HF.out])
    go_wp2_with fail
    refine bodyPost_ret (v := .tuple #[.agg #[.bool false, .string ⟨#[]⟩, .slice none 0 0], .int .i64 0, .int .i64 1]) ?_ rfl ⟨⟨none, 0, 0, by rw [HT.out]; rfl, by rw [HT.out]; exact rd_nil _ _ _⟩, ?_⟩
    · simp [results, Try.results73, go_sem]
    · exact ((Below.refl _ w).alloc (Nat.le_refl _) _).alloc (by simp) _
  | succ r =>
    have hdd : decide ((16 : Int) < (d : Int) + 1) = false := decide_eq_false (by omega)
    have HTn : Hid (tkAll (tk r) (s.extract 1 (1 + n)) = none → tk (r + 1) s = (zIT, 0, 1)) := fun h => tk_none r s (by rw [HF.out]) (by rw [HF.out]) (by rw [HF.out]; exact h)
    have HTs : Hid (∀ xs, tkAll (tk r) (s.extract 1 (1 + n)) = some xs → tk (r + 1) s = (.mk true ⟨#[]⟩ xs, 1 + n, 0)) := fun xs h => by rw [tk_some r s xs (by rw [HF.out]) (by rw [HF.out]) (by rw [HF.out]; exact h), HF.out]
    have HIH : Hid (RtS r) := IH r rfl
    have hX40 : (s.extract 1 (1 + n)).size ≤ 1099511627776 := by omega
    obtain ⟨j0, hj, hz0, hz1, hz2⟩ := info_of infoI
    have HJ : Hid (Try.prog.info? 70 = some j0 ∧ j0.zero = some (.agg #[.bool false, .string ⟨#[]⟩, .slice none 0 0]) ∧ j0.size = 3 ∧ j0.bytes = 48) := ⟨hj, hz0, hz1, hz2⟩
    clear hj hz0 hz1 hz2 IH HF HFn
    obtain ⟨X, hX⟩ : ∃ X, X = s.extract 1 (1 + n) := ⟨_, rfl⟩
    rw [← hX] at HTn HTs hX40
    have HX : Hid (X = s.extract 1 (1 + n)) := hX
    clear hXs hX
    go_wp2_with fail
    go_loopw [14] (fun inv wr => ∃ (Y : ByteArray) (p : Nat) (ps : List (IT × Value)) (va : Option Addr) (vc : Nat), inv = .string Y ∧ Y.size ≤ 1099511627776 ∧ Hid (Y = X.extract p X.size ∧ p ≤ X.size ∧ Rn (tk r) X (ps.map Prod.fst) p ∧ Bld wr (w.heap.size + 3) (r + 2) (.slice va ps.length vc) ps ∧ Bk wr w.heap.size #[.bool false, .string ⟨#[]⟩, .slice none 0 0] 70 ∧ Bk wr (w.heap.size + 1) #[.bool false, .string ⟨#[]⟩, .slice none 0 0] 70 ∧ Bk wr (w.heap.size + 1 + 1) #[.bool true, .string ⟨#[]⟩, .slice va ps.length vc] 70) ∧ Below w.heap.size w wr) (fun inv _ => strSize inv)
    case atStart =>
      refine ⟨X, 0, [], none, 0, by rw [HX.out], hX40, ⟨(sub_all X).symm, by omega, Rn.nil, Bld.nil _ _ _, ((Bk.new w _ _).alloc _).alloc _, (Bk.new' _ _ _ (by simp)).alloc _, Bk.new' _ _ _ (by simp)⟩, (((Below.refl _ w).alloc (Nat.le_refl _) _).alloc (by simp) _).alloc (by simp; omega) _⟩
    case round =>
      obtain ⟨Y, p, ps, va, vc, rfl, hY40, hinv, hbo⟩ := hrel
      have hszo := hbo.size
      obtain ⟨hYX, hpX, hRn, hBl, bR, bZ, bI⟩ := id hinv.out
      have lI := bI.lt
      have lR := bR.lt
      have HB : Hid (Bk wr w.heap.size #[.bool false, .string ⟨#[]⟩, .slice none 0 0] 70 ∧ Bk wr (w.heap.size + 1) #[.bool false, .string ⟨#[]⟩, .slice none 0 0] 70 ∧ Bk wr (w.heap.size + 1 + 1) #[.bool true, .string ⟨#[]⟩, .slice va ps.length vc] 70) := ⟨bR, bZ, bI⟩
      have hYs : Y.size = X.size - p := by rw [hYX, sub_size X p hpX]
      by_cases hlt : 0 < Y.size
      · have hlt' : decide ((0 : Int) < (Y.size : Int)) = true := decide_eq_true (by omega)
        have hlt'' : decide (0 < Y.size) = true := decide_eq_true hlt
        have hcall : ∀ w, Calls Try.prog 73 #[.string Y, .int .i64 ((d : Int) + 1)] w fun e w' => (∃ ad l c, e = .returned (.tuple #[.agg #[.bool (tk r Y).1.list, .string (tk r Y).1.text, .slice ad l c], .int .i64 ((tk r Y).2.1 : Int), .int .i64 ((tk r Y).2.2 : Int)]) ∧ RdP w' (w.heap.size ≤ ·) (r + 2) (tk r Y).1.items (.slice ad l c)) ∧ Below w.heap.size w w' := fun w => by
          have := HIH.out Y w (d + 1) (by omega) hY40
          rw [show (((d + 1 : Nat)) : Int) = (d : Int) + 1 by omega] at this
          exact this
        have hpr := tk_prog r Y
        obtain ⟨T, hT⟩ : ∃ T, T = tk r Y := ⟨_, rfl⟩
        have HTe : Hid (T = tk r (X.extract p X.size)) := by show _ = _; rw [← hYX]; exact hT
        rw [← hT] at hcall hpr
        obtain ⟨t1, k1, e1⟩ := T
        have HC : Hid (∀ w, Calls Try.prog 73 #[.string Y, .int .i64 ((d : Int) + 1)] w fun e w' => (∃ ad l c, e = .returned (.tuple #[.agg #[.bool t1.list, .string t1.text, .slice ad l c], .int .i64 (k1 : Int), .int .i64 (e1 : Int)]) ∧ RdP w' (w.heap.size ≤ ·) (r + 2) t1.items (.slice ad l c)) ∧ Below w.heap.size w w') := hcall
        have HPr : Hid (e1 = 0 → 1 ≤ k1 ∧ k1 ≤ Y.size) := hpr
        have hlen := hRn.len (tk_prog r)
        simp only [List.length_map] at hlen
        have hpl40 : ps.length + 1 ≤ 1099511627776 := by omega
        have HBl : Hid (Bld wr (w.heap.size + 3) (r + 2) (.slice va ps.length vc) ps) := hBl
        have HY : Hid (Y = X.extract p X.size ∧ Y.size = X.size - p ∧ p < X.size ∧ Rn (tk r) X (ps.map Prod.fst) p) := ⟨hYX, hYs, by omega, hRn⟩
        clear hcall hpr hT hYX hYs hRn hBl bR bZ bI hlen hpX
        go_wp2_with fail
        refine (HC.out _).mono ?_
        rintro e w2 ⟨⟨ad', l', c', rfl, hrd2⟩, hb2⟩
        have H2 : Hid (RdP w2 (wr.heap.size ≤ ·) (r + 2) t1.items (.slice ad' l' c') ∧ Below wr.heap.size wr w2) := ⟨hrd2, hb2⟩
        have hs2 := hb2.size
        obtain ⟨z0, z1, z2⟩ := box_cells (HB.out.2.1.below hb2 HB.out.2.1.lt)
        obtain ⟨i0, i1, i2⟩ := box_cells (HB.out.2.2.below hb2 HB.out.2.2.lt)
        obtain ⟨r0, r1, r2⟩ := box_cells (HB.out.1.below hb2 HB.out.1.lt)
        have rf0 := (HB.out.1.below hb2 HB.out.1.lt).frozen 0
        have rf1 := (HB.out.1.below hb2 HB.out.1.lt).frozen 1
        have rf2 := (HB.out.1.below hb2 HB.out.1.lt).frozen 2
        have lI2 : w.heap.size + 1 + 1 < w2.heap.size := by omega
        have lR2 : w.heap.size < w2.heap.size := by omega
        have lZ2 : w.heap.size + 1 < w2.heap.size := by omega
        clear hrd2 hb2
        by_cases he : e1 = 0
        · have he' : ((e1 : Int) != 0) = false := by rw [bne_eq_false_iff_eq]; omega
          have hk := HPr.out he
          have hk1 : (k1 : Int) ≤ (Y.size : Int) := by omega
          have HE : Hid (e1 = 0) := he
          clear he
          go_wp2_with (at_builtin; refine wpList_append_src rfl _ _ 68 68 rfl (w.heap.size + 3) 70 j0 (.agg #[.bool false, .string ⟨#[]⟩, .slice none 0 0]) 3 48 Try.underlying68 HJ.out.1 HJ.out.2.1 HJ.out.2.2.1 HJ.out.2.2.2 rfl _ _ ps.length (icells ps) 1 [.bool t1.list, .string t1.text, .slice ad' l' c'] rfl rfl (by exact (((HBl.out.below H2.out.2).row).alloc _).alloc _) (one_src (Bk.new' _ _ _ (by simp)) rfl rfl rfl) (by unfold maxLen; omega) (by omega) (by simp; omega) ?_; intro v3 w3 hown3 hgr3 hsn3; obtain ⟨a3, c3, rfl⟩ := own_shape hown3; have H3 : Hid (w3.ownsRow (w.heap.size + 3) 70 3 (.slice a3 (ps.length + 1) c3) (ps.length + 1) (icells ps ++ [.bool t1.list, .string t1.text, .slice ad' l' c']) ∧ ((w2.alloc (.cells #[.bool t1.list, .string t1.text, .slice ad' l' c'] 70)).alloc (.cells #[.bool t1.list, .string t1.text, .slice ad' l' c'] 70)).grownBy w3 (Value.slice va ps.length vc).ownBlock ∧ Sn ((w2.alloc (.cells #[.bool t1.list, .string t1.text, .slice ad' l' c'] 70)).alloc (.cells #[.bool t1.list, .string t1.text, .slice ad' l' c'] 70)) (.slice va ps.length vc) (.slice a3 (ps.length + 1) c3)) := ⟨hown3, hgr3, hsn3⟩; have b3 := bk_grown (((HB.out.2.2.below H2.out.2 HB.out.2.2.lt).alloc (.cells #[.bool t1.list, .string t1.text, .slice ad' l' c'] 70)).alloc (.cells #[.bool t1.list, .string t1.text, .slice ad' l' c'] 70)) hgr3 (fun q hq => by have := (HBl.out.row.lt q hq).1; omega); have y2 := (box_cells b3).2.2; have yf := b3.frozen 2; have ly := b3.lt; clear hown3 hgr3 hsn3 b3)
          go_roundw
          case rel =>
            obtain ⟨hown3, hgr3, hsn3⟩ := H3.out
            obtain ⟨hrd2, hb2⟩ := H2.out
            have hB := HBl.out
            obtain ⟨hYX, hYs, hpX, hRn⟩ := HY.out
            have hrow : ∀ q, (Value.slice va ps.length vc).ownBlock = some q → w.heap.size + 3 ≤ q ∧ q < wr.heap.size := fun q hq => hB.row.lt q hq
            have hb2a : Below wr.heap.size wr ((w2.alloc (.cells #[.bool t1.list, .string t1.text, .slice ad' l' c'] 70)).alloc (.cells #[.bool t1.list, .string t1.text, .slice ad' l' c'] 70)) := (hb2.alloc hs2 _).alloc (by simp; omega) _
            have hBn := (hB.below hb2a).snoc (x := t1) (sv := .slice ad' l' c') (v' := .slice a3 (ps.length + 1) c3) (w' := w3) (B := wr.heap.size) (hrd2.keep fun b _ hl => (Below.heap_alloc _ _ b (by simp; omega)).trans (Below.heap_alloc w2 _ b hl)) ⟨_, _, _, rfl⟩ (by omega) (fun q hq => (hrow q hq).2) hown3 hgr3 hsn3
            have hold : ∀ (b : Nat) vs ty, Bk wr b vs ty → b < w.heap.size + 3 → b ≠ w.heap.size + 1 + 1 → Bk (w3.setCell ⟨w.heap.size + 1 + 1, 2, none⟩ (.slice a3 (ps.length + 1) c3)) b vs ty := fun b vs ty hb h1 h2 =>
              (bk_grown (((hb.below hb2 hb.lt).alloc _).alloc _) hgr3 (fun q hq => by have := (hrow q hq).1; omega)).other (by simpa using h2) _
            have b3 := bk_grown (((HB.out.2.2.below hb2 HB.out.2.2.lt).alloc (.cells #[.bool t1.list, .string t1.text, .slice ad' l' c'] 70)).alloc (.cells #[.bool t1.list, .string t1.text, .slice ad' l' c'] 70)) hgr3 (fun q hq => by have := (hrow q hq).1; omega)
            have hsub : Y.extract k1 Y.size = X.extract (p + k1) X.size := by rw [hYX]; exact sub_sub X p k1 (by omega)
            have hlen' : (ps ++ [(t1, Value.slice ad' l' c')]).length = ps.length + 1 := by simp
            refine ⟨Y.extract k1 Y.size, p + k1, ps ++ [(t1, .slice ad' l' c')], a3, c3, rfl, by rw [ByteArray.size_extract]; omega, ⟨hsub, by omega, ?_, ?_, hold _ _ _ HB.out.1 (by omega) (by omega), hold _ _ _ HB.out.2.1 (by omega) (by omega), ?_⟩, ?_⟩
            · have := Rn.snoc hRn hpX (by rw [← HTe.out]; exact HE.out)
              rw [← HTe.out] at this
              rw [List.map_append]; exact this
            · rw [hlen']
              refine ⟨World.ownsRow.kept hBn.row ⟨rfl, rfl, rfl, by simp, fun q _ hq => Below.heap_setCell w3 _ _ q (fun e => hq (by rw [e]))⟩ (own_ne (k := w.heap.size + 1 + 1) hBn.row (by omega)), fun y hy => ⟨(hBn.each y hy).1, (hBn.each y hy).2.keep fun b hb _ => Below.heap_setCell w3 _ _ b (fun e => by have := hb.1; simp at e; omega)⟩⟩
            · rw [hlen']; exact b3.set 2 _ rfl
            · exact ((hbo.trans (hb2a.mono hszo)).trans (grown_below hgr3 (by simp; omega) (fun q hq => by have := (hrow q hq).1; omega))).setCell (p := ⟨w.heap.size + 1 + 1, 2, none⟩) (by simp; omega) _
          case measure => simp [strSize, ByteArray.size_extract]; omega
        · have he' : ((e1 : Int) != 0) = true := by rw [bne_iff_ne]; omega
          have HT : Hid (tk (r + 1) s = (zIT, 0, 1)) := HTn.out (HY.out.2.2.2.fail (tk_prog r) HY.out.2.2.1 (by rw [← HTe.out]; exact he))
          clear he
          go_wp2_with fail
          have b9 := (set3_Bk (HB.out.1.below H2.out.2 HB.out.1.lt) (.bool false) (.string ⟨#[]⟩) (.slice none 0 0)).alloc (.cells #[.bool t1.list, .string t1.text, .slice ad' l' c'] 70)
          refine bodyPost_ret (v := .tuple #[.agg #[.bool false, .string ⟨#[]⟩, .slice none 0 0], .int .i64 0, .int .i64 1]) ?_ rfl ⟨⟨none, 0, 0, by rw [HT.out]; rfl, by rw [HT.out]; exact rd_nil _ _ _⟩, ?_⟩
          · obtain ⟨g0, g1, g2⟩ := box_cells b9
            simp [results, Try.results73, go_sem, g0, g1, g2]
          · exact (set3_below (hbo.trans (H2.out.2.mono hszo)) (Nat.le_refl _) _ _ _).alloc (by simp; omega) _
      · have hlt' : decide ((0 : Int) < (Y.size : Int)) = false := decide_eq_false (by omega)
        have hlt'' : decide (0 < Y.size) = false := decide_eq_false hlt
        have hall := hRn.done (tk_prog r) (by omega)
        have hlen := hRn.len (tk_prog r)
        simp only [List.length_map] at hlen
        have hrd := hBl.rd (by omega)
        have HT : Hid (tk (r + 1) s = (.mk true ⟨#[]⟩ (ps.map Prod.fst), 1 + n, 0) ∧ RdP wr (w.heap.size + 3 ≤ ·) (r + 2 + 1) (ps.map Prod.fst) (.slice va ps.length vc)) := ⟨HTs.out _ hall, hrd⟩
        obtain ⟨i0, i1, i2⟩ := box_cells bI
        obtain ⟨r0, r1, r2⟩ := box_cells bR
        have rf0 := bR.frozen 0
        have rf1 := bR.frozen 1
        have rf2 := bR.frozen 2
        clear hYX hYs hpX hRn hBl bR bZ bI hall hlen hrd
        go_wp2_with fail
        have b9 := set3_Bk HB.out.1 (.bool true) (.string ⟨#[]⟩) (.slice va ps.length vc)
        refine bodyPost_ret (v := .tuple #[.agg #[.bool true, .string ⟨#[]⟩, .slice va ps.length vc], .int .i64 (1 + (n : Int)), .int .i64 0]) ?_ rfl ⟨⟨va, ps.length, vc, by rw [HT.out.1]; first | rfl | (simp [IT.list, IT.text]; done), ?_⟩, ?_⟩
        · obtain ⟨g0, g1, g2⟩ := box_cells b9
          simp [results, Try.results73, go_sem, g0, g1, g2]
        · rw [HT.out.1]
          exact (set3_keep HT.out.2 (fun k hk => by omega) _ _ _).weak (fun b hb => by omega)
        · exact set3_below hbo (Nat.le_refl _) _ _ _
set_option maxRecDepth 100000 in
set_option maxHeartbeats 2000000 in
theorem rtake_gl (r d : Nat) (IH : ∀ r2, r = r2 + 1 → RtS r2) (hd : d + r = 16) (s : ByteArray) (w : World) (c k : Nat) (hc : c = hd0 s) (hsz : s.size ≤ 1099511627776) (h0 : 0 < s.size) (h1 : 192 ≤ c) (hnn : k = c - 192) (h55 : 55 < k) :
    Calls Try.prog 73 #[.string s, .int .i64 (d : Int)] w (TkQ r s w) := by
  have e0 : (if 192 ≤ c then 192 else 128) = 192 := if_pos h1
  have hix := idx_str s 0 0 h0 rfl
  rw [hd0_eq s h0, ← hc] at hix
  have hcm := hd0_lt s
  rw [← hc] at hcm
  have hz : ((s.size : Int) == 0) = false := by rw [beq_eq_false_iff_ne]; omega
  have d1 : decide ((c : Int) < 128) = false := decide_eq_false (by omega)
  have d2 : decide ((192 : Int) ≤ (c : Int)) = true := decide_eq_true (by omega)
  have hn : (c : Int) - 64 - 128 = (k : Int) := by omega
  have d3 : decide ((55 : Int) < (k : Int)) = true := decide_eq_true (by omega)
  obtain ⟨m, hm⟩ : ∃ m : Nat, m = k - 55 := ⟨_, rfl⟩
  have hm1 : (k : Int) - 55 = (m : Int) := by omega
  have hm8 : 1 ≤ m ∧ m ≤ 8 := by omega
  have HFa : Hid (fnd s = if s.size < 1 + m then (false, 0, 0, 7) else if tlGood (s.extract 1 (1 + m)) = true then fin s true (1 + m) (tkV (s.extract 1 (1 + m))) else (false, 0, 0, 1)) := by
    show _ = _
    rw [fnd, if_neg (show ¬ s.size = 0 by omega), ← hc, if_neg (show ¬ c < 128 by omega)]
    simp only [e0, ← hnn, ← hm]
    rw [if_neg (show ¬ k ≤ 55 by omega)]
    have e : decide (192 ≤ c) = true := decide_eq_true h1
    rw [e]
  clear hnn hc hm e0
  by_cases g0 : s.size < 1 + m
  · have g0' : decide ((s.size : Int) < 1 + (m : Int)) = true := decide_eq_true (by omega)
    have HF : Hid (fnd s = (false, 0, 0, 7)) := by show _ = _; rw [HFa.out, if_pos g0]
    go_enter Try.func73, Try.ntmps73
    have HT : Hid (tk r s = (zIT, 0, 7)) := by show _ = _; rw [tk_err r s (by rw [HF.out]; simp), HF.out]
    go_wp2_with fail
    refine bodyPost_ret (v := .tuple #[.agg #[.bool false, .string ⟨#[]⟩, .slice none 0 0], .int .i64 0, .int .i64 7]) ?_ rfl ⟨⟨none, 0, 0, by rw [HT.out]; rfl, by rw [HT.out]; exact rd_nil _ _ _⟩, ?_⟩
    · simp [results, Try.results73, go_sem]
    · exact ((Below.refl _ w).alloc (Nat.le_refl _) _).alloc (by simp) _
  have g0' : decide ((s.size : Int) < 1 + (m : Int)) = false := decide_eq_false (by omega)
  have hX1 : 1 < s.size := by omega
  have hi1 := idx_str s 1 1 hX1 rfl
  have hXl : (s.extract 1 (1 + m)).size = m := by rw [ByteArray.size_extract]; omega
  have hXi := fun i (h : i < m) => ext_get s m i h (by omega)
  have hhd := ext_head s m (by omega) (by omega)
  by_cases b0 : s[1].toNat = 0
  · have b0' : ((s[1].toNat : Int) == 0) = true := by rw [beq_iff_eq]; omega
    have HF : Hid (fnd s = (false, 0, 0, 1)) := by
      show _ = _
      rw [HFa.out, if_neg g0, if_neg]
      simp only [tlGood, tkGood, hhd, b0]; simp
    clear hXi hhd
    go_enter Try.func73, Try.ntmps73
    have HT : Hid (tk r s = (zIT, 0, 1)) := by show _ = _; rw [tk_err r s (by rw [HF.out]; simp), HF.out]
    go_wp2_with fail
    refine bodyPost_ret (v := .tuple #[.agg #[.bool false, .string ⟨#[]⟩, .slice none 0 0], .int .i64 0, .int .i64 1]) ?_ rfl ⟨⟨none, 0, 0, by rw [HT.out]; rfl, by rw [HT.out]; exact rd_nil _ _ _⟩, ?_⟩
    · simp [results, Try.results73, go_sem]
    · exact ((Below.refl _ w).alloc (Nat.le_refl _) _).alloc (by simp) _
  have b0' : ((s[1].toNat : Int) == 0) = false := by rw [beq_eq_false_iff_ne]; omega
  have HFa2 : Hid (fnd s = if 55 < takeV (s.extract 1 (1 + m)).data.toList ∧ takeV (s.extract 1 (1 + m)).data.toList ≤ 65536 then fin s true (1 + m) (takeV (s.extract 1 (1 + m)).data.toList) else (false, 0, 0, 1)) := by
    show _ = _
    have hg : tkGood (s.extract 1 (1 + m)) = true := by simp only [tkGood, hhd]; simp [hXl, b0]; omega
    rw [HFa.out, if_neg g0, tlGood, hg, show tkV (s.extract 1 (1 + m)) = takeV (s.extract 1 (1 + m)).data.toList by simp [tkV, hg]]
    simp
  have HXl : Hid ((s.extract 1 (1 + m)).size = m) := hXl
  have HXi : Hid (∀ i, i < m → ∀ h : 1 + i < s.size, takeV ((s.extract 1 (1 + m)).data.toList.take (i + 1)) = takeV ((s.extract 1 (1 + m)).data.toList.take i) * 256 + s[1 + i].toNat) := fun i hi h => hXi i hi
  clear hXi hhd hXl HFa b0
  go_enter Try.func73, Try.ntmps73
  go_wp2_with fail
  go_loop [10, 13] (fun nv iv => ∃ i v : Nat, i ≤ m ∧ iv = .int .i64 (i : Int) ∧ nv = .int .i64 (v : Int) ∧ Hid (v = takeV ((s.extract 1 (1 + m)).data.toList.take i)) ∧ v ≤ 65536) (fun _ iv => m - (intOf iv).toNat)
  case atStart => exact ⟨0, 0, by omega, rfl, rfl, by show 0 = _; simp [takeV], by omega⟩
  case round =>
    obtain ⟨i, v, hi, rfl, rfl, hv, hv16⟩ := hrel
    by_cases hlt : i < m
    · have hlt' : decide ((i : Int) < (m : Int)) = true := decide_eq_true (by omega)
      have hlt'' : decide (i < m) = true := decide_eq_true hlt
      have hX2 : 1 + i < s.size := by omega
      have hii := idx_str s (1 + (i : Int)) (1 + i) hX2 (by omega)
      have hst := HXi.out i hlt hX2
      have hb := byte_lt s[1 + i]
      generalize s[1 + i].toNat = y at *
      have HST : Hid (takeV ((s.extract 1 (1 + m)).data.toList.take (i + 1)) = v * 256 + y) := by show _ = _; rw [hst, ← hv.out]
      clear hst
      by_cases hg : v * 256 + y ≤ 65536
      · have hg' : decide ((65536 : Int) < (v : Int) * 256 + (y : Int)) = false := decide_eq_false (by omega)
        go_wp2_with fail
        go_round
        case rel => exact ⟨i + 1, v * 256 + y, by omega, by go_num, by go_num, HST.out.symm, hg⟩
        case measure => simp [intOf]; omega
      · have hg' : decide ((65536 : Int) < (v : Int) * 256 + (y : Int)) = true := decide_eq_true (by omega)
        have HF : Hid (fnd s = (false, 0, 0, 1)) := by
          show _ = _
          rw [HFa2.out, if_neg]
          have := takeV_pre (s.extract 1 (1 + m)).data.toList (i + 1)
          rw [HST.out] at this
          omega
        have HT : Hid (tk r s = (zIT, 0, 1)) := by show _ = _; rw [tk_err r s (by rw [HF.out]; simp), HF.out]
        go_wp2_with fail
        refine bodyPost_ret (v := .tuple #[.agg #[.bool false, .string ⟨#[]⟩, .slice none 0 0], .int .i64 0, .int .i64 1]) ?_ rfl ⟨⟨none, 0, 0, by rw [HT.out]; rfl, by rw [HT.out]; exact rd_nil _ _ _⟩, ?_⟩
        · simp [results, Try.results73, go_sem]
        · exact ((Below.refl _ w).alloc (Nat.le_refl _) _).alloc (by simp) _
    · have hlt' : decide ((i : Int) < (m : Int)) = false := decide_eq_false (by omega)
      have hlt'' : decide (i < m) = false := decide_eq_false hlt
      have hvm : v = takeV (s.extract 1 (1 + m)).data.toList := by
        have e := hv.out
        rw [List.take_of_length_le (by rw [data_len, HXl.out]; omega)] at e
        exact e
      have HV : Hid (v = takeV (s.extract 1 (1 + m)).data.toList) := hvm
      clear hvm hv
      by_cases h56 : v < 56
      · have h56' : decide ((v : Int) < 56) = true := decide_eq_true (by omega)
        have HF : Hid (fnd s = (false, 0, 0, 1)) := by show _ = _; rw [HFa2.out, ← HV.out, if_neg (by omega)]
        have HT : Hid (tk r s = (zIT, 0, 1)) := by show _ = _; rw [tk_err r s (by rw [HF.out]; simp), HF.out]
        go_wp2_with fail
        refine bodyPost_ret (v := .tuple #[.agg #[.bool false, .string ⟨#[]⟩, .slice none 0 0], .int .i64 0, .int .i64 1]) ?_ rfl ⟨⟨none, 0, 0, by rw [HT.out]; rfl, by rw [HT.out]; exact rd_nil _ _ _⟩, ?_⟩
        · simp [results, Try.results73, go_sem]
        · exact ((Below.refl _ w).alloc (Nat.le_refl _) _).alloc (by simp) _
      have h56' : decide ((v : Int) < 56) = false := decide_eq_false (by omega)
      obtain ⟨n, hn2⟩ : ∃ n, n = v := ⟨_, rfl⟩
      subst hn2
      have HFn : Hid (fnd s = fin s true (1 + m) n) := by show _ = _; rw [HFa2.out, ← HV.out, if_pos (by omega)]
      go_upto_region 27 with fail
      by_cases g1 : 65536 < (1 + m) + n
      · have g1' : decide ((65536 : Int) < (1 + (m : Int)) + (n : Int)) = true := decide_eq_true (by omega)
        have HF : Hid (fnd s = (false, 0, 0, 1)) := by show _ = _; rw [HFn.out, fin, if_pos g1]
        have HT : Hid (tk r s = (zIT, 0, 1)) := by show _ = _; rw [tk_err r s (by rw [HF.out]; simp), HF.out]
        go_wp2_with fail
        refine bodyPost_ret (v := .tuple #[.agg #[.bool false, .string ⟨#[]⟩, .slice none 0 0], .int .i64 0, .int .i64 1]) ?_ rfl ⟨⟨none, 0, 0, by rw [HT.out]; rfl, by rw [HT.out]; exact rd_nil _ _ _⟩, ?_⟩
        · simp [results, Try.results73, go_sem]
        · exact ((Below.refl _ w).alloc (Nat.le_refl _) _).alloc (by simp) _
      have g1' : decide ((65536 : Int) < (1 + (m : Int)) + (n : Int)) = false := decide_eq_false (by omega)
      by_cases g2 : s.size < (1 + m) + n
      · have g2' : decide ((s.size : Int) < (1 + (m : Int)) + (n : Int)) = true := decide_eq_true (by omega)
        have HF : Hid (fnd s = (false, 0, 0, 7)) := by show _ = _; rw [HFn.out, fin, if_neg g1, if_pos g2]
        have HT : Hid (tk r s = (zIT, 0, 7)) := by show _ = _; rw [tk_err r s (by rw [HF.out]; simp), HF.out]
        go_wp2_with fail
        refine bodyPost_ret (v := .tuple #[.agg #[.bool false, .string ⟨#[]⟩, .slice none 0 0], .int .i64 0, .int .i64 7]) ?_ rfl ⟨⟨none, 0, 0, by rw [HT.out]; rfl, by rw [HT.out]; exact rd_nil _ _ _⟩, ?_⟩
        · simp [results, Try.results73, go_sem]
        · exact ((Below.refl _ w).alloc (Nat.le_refl _) _).alloc (by simp) _
      have g2' : decide ((s.size : Int) < (1 + (m : Int)) + (n : Int)) = false := decide_eq_false (by omega)
      have hsl : ((1 + (m : Int)) + (n : Int)).toNat = (1 + m) + n := by omega
      have hle1 : (1 + (m : Int)) ≤ (1 + (m : Int)) + (n : Int) := by omega
      have hle2 : (1 + (m : Int)) + (n : Int) ≤ (s.size : Int) := by omega
      have hle3 : (0 : Int) ≤ (1 + (m : Int)) + (n : Int) := by omega
      have hXs : (s.extract (1 + m) ((1 + m) + n)).size = n := by rw [ByteArray.size_extract]; omega
      have HF : Hid (fnd s = (true, (1 + m), (1 + m) + n, 0)) := by show _ = _; rw [HFn.out, fin, if_neg g1, if_neg g2, if_neg (by simp)]
      cases r with
      | zero =>
        have hdd : decide ((16 : Int) < (d : Int) + 1) = true := decide_eq_true (by omega)
        have HT : Hid (tk 0 s = (zIT, 0, 1)) := by show _ = _; exact tk_deep s (by rw [HF.out]) (by rw [HF.out])
        go_wp2_with fail
        refine bodyPost_ret (v := .tuple #[.agg #[.bool false, .string ⟨#[]⟩, .slice none 0 0], .int .i64 0, .int .i64 1]) ?_ rfl ⟨⟨none, 0, 0, by rw [HT.out]; rfl, by rw [HT.out]; exact rd_nil _ _ _⟩, ?_⟩
        · simp [results, Try.results73, go_sem]
        · exact ((Below.refl _ w).alloc (Nat.le_refl _) _).alloc (by simp) _
      | succ r =>
        have hdd : decide ((16 : Int) < (d : Int) + 1) = false := decide_eq_false (by omega)
        have HTn : Hid (tkAll (tk r) (s.extract (1 + m) ((1 + m) + n)) = none → tk (r + 1) s = (zIT, 0, 1)) := fun h => tk_none r s (by rw [HF.out]) (by rw [HF.out]) (by rw [HF.out]; exact h)
        have HTs : Hid (∀ xs, tkAll (tk r) (s.extract (1 + m) ((1 + m) + n)) = some xs → tk (r + 1) s = (.mk true ⟨#[]⟩ xs, (1 + m) + n, 0)) := fun xs h => by rw [tk_some r s xs (by rw [HF.out]) (by rw [HF.out]) (by rw [HF.out]; exact h), HF.out]
        have HIH : Hid (RtS r) := IH r rfl
        have hX40 : (s.extract (1 + m) ((1 + m) + n)).size ≤ 1099511627776 := by omega
        obtain ⟨j0, hj, hz0, hz1, hz2⟩ := info_of infoI
        have HJ : Hid (Try.prog.info? 70 = some j0 ∧ j0.zero = some (.agg #[.bool false, .string ⟨#[]⟩, .slice none 0 0]) ∧ j0.size = 3 ∧ j0.bytes = 48) := ⟨hj, hz0, hz1, hz2⟩
        clear hj hz0 hz1 hz2 IH HF HFn
        obtain ⟨X, hX⟩ : ∃ X, X = s.extract (1 + m) ((1 + m) + n) := ⟨_, rfl⟩
        rw [← hX] at HTn HTs hX40
        have HX : Hid (X = s.extract (1 + m) ((1 + m) + n)) := hX
        clear hXs hX
        go_wp2_with fail
        go_loopw [14] (fun inv wr => ∃ (Y : ByteArray) (p : Nat) (ps : List (IT × Value)) (va : Option Addr) (vc : Nat), inv = .string Y ∧ Y.size ≤ 1099511627776 ∧ Hid (Y = X.extract p X.size ∧ p ≤ X.size ∧ Rn (tk r) X (ps.map Prod.fst) p ∧ Bld wr (w.heap.size + 3) (r + 2) (.slice va ps.length vc) ps ∧ Bk wr w.heap.size #[.bool false, .string ⟨#[]⟩, .slice none 0 0] 70 ∧ Bk wr (w.heap.size + 1) #[.bool false, .string ⟨#[]⟩, .slice none 0 0] 70 ∧ Bk wr (w.heap.size + 1 + 1) #[.bool true, .string ⟨#[]⟩, .slice va ps.length vc] 70) ∧ Below w.heap.size w wr) (fun inv _ => strSize inv)
        case atStart =>
          refine ⟨X, 0, [], none, 0, by rw [HX.out], hX40, ⟨(sub_all X).symm, by omega, Rn.nil, Bld.nil _ _ _, ((Bk.new w _ _).alloc _).alloc _, (Bk.new' _ _ _ (by simp)).alloc _, Bk.new' _ _ _ (by simp)⟩, (((Below.refl _ w).alloc (Nat.le_refl _) _).alloc (by simp) _).alloc (by simp; omega) _⟩
        case round =>
          obtain ⟨Y, p, ps, va, vc, rfl, hY40, hinv, hbo⟩ := hrel
          have hszo := hbo.size
          obtain ⟨hYX, hpX, hRn, hBl, bR, bZ, bI⟩ := id hinv.out
          have lI := bI.lt
          have lR := bR.lt
          have HB : Hid (Bk wr w.heap.size #[.bool false, .string ⟨#[]⟩, .slice none 0 0] 70 ∧ Bk wr (w.heap.size + 1) #[.bool false, .string ⟨#[]⟩, .slice none 0 0] 70 ∧ Bk wr (w.heap.size + 1 + 1) #[.bool true, .string ⟨#[]⟩, .slice va ps.length vc] 70) := ⟨bR, bZ, bI⟩
          have hYs : Y.size = X.size - p := by rw [hYX, sub_size X p hpX]
          by_cases hlt : 0 < Y.size
          · have hlt' : decide ((0 : Int) < (Y.size : Int)) = true := decide_eq_true (by omega)
            have hlt'' : decide (0 < Y.size) = true := decide_eq_true hlt
            have hcall : ∀ w, Calls Try.prog 73 #[.string Y, .int .i64 ((d : Int) + 1)] w fun e w' => (∃ ad l c, e = .returned (.tuple #[.agg #[.bool (tk r Y).1.list, .string (tk r Y).1.text, .slice ad l c], .int .i64 ((tk r Y).2.1 : Int), .int .i64 ((tk r Y).2.2 : Int)]) ∧ RdP w' (w.heap.size ≤ ·) (r + 2) (tk r Y).1.items (.slice ad l c)) ∧ Below w.heap.size w w' := fun w => by
              have := HIH.out Y w (d + 1) (by omega) hY40
              rw [show (((d + 1 : Nat)) : Int) = (d : Int) + 1 by omega] at this
              exact this
            have hpr := tk_prog r Y
            obtain ⟨T, hT⟩ : ∃ T, T = tk r Y := ⟨_, rfl⟩
            have HTe : Hid (T = tk r (X.extract p X.size)) := by show _ = _; rw [← hYX]; exact hT
            rw [← hT] at hcall hpr
            obtain ⟨t1, k1, e1⟩ := T
            have HC : Hid (∀ w, Calls Try.prog 73 #[.string Y, .int .i64 ((d : Int) + 1)] w fun e w' => (∃ ad l c, e = .returned (.tuple #[.agg #[.bool t1.list, .string t1.text, .slice ad l c], .int .i64 (k1 : Int), .int .i64 (e1 : Int)]) ∧ RdP w' (w.heap.size ≤ ·) (r + 2) t1.items (.slice ad l c)) ∧ Below w.heap.size w w') := hcall
            have HPr : Hid (e1 = 0 → 1 ≤ k1 ∧ k1 ≤ Y.size) := hpr
            have hlen := hRn.len (tk_prog r)
            simp only [List.length_map] at hlen
            have hpl40 : ps.length + 1 ≤ 1099511627776 := by omega
            have HBl : Hid (Bld wr (w.heap.size + 3) (r + 2) (.slice va ps.length vc) ps) := hBl
            have HY : Hid (Y = X.extract p X.size ∧ Y.size = X.size - p ∧ p < X.size ∧ Rn (tk r) X (ps.map Prod.fst) p) := ⟨hYX, hYs, by omega, hRn⟩
            clear hcall hpr hT hYX hYs hRn hBl bR bZ bI hlen hpX
            go_wp2_with fail
            refine (HC.out _).mono ?_
            rintro e w2 ⟨⟨ad', l', c', rfl, hrd2⟩, hb2⟩
            have H2 : Hid (RdP w2 (wr.heap.size ≤ ·) (r + 2) t1.items (.slice ad' l' c') ∧ Below wr.heap.size wr w2) := ⟨hrd2, hb2⟩
            have hs2 := hb2.size
            obtain ⟨z0, z1, z2⟩ := box_cells (HB.out.2.1.below hb2 HB.out.2.1.lt)
            obtain ⟨i0, i1, i2⟩ := box_cells (HB.out.2.2.below hb2 HB.out.2.2.lt)
            obtain ⟨r0, r1, r2⟩ := box_cells (HB.out.1.below hb2 HB.out.1.lt)
            have rf0 := (HB.out.1.below hb2 HB.out.1.lt).frozen 0
            have rf1 := (HB.out.1.below hb2 HB.out.1.lt).frozen 1
            have rf2 := (HB.out.1.below hb2 HB.out.1.lt).frozen 2
            have lI2 : w.heap.size + 1 + 1 < w2.heap.size := by omega
            have lR2 : w.heap.size < w2.heap.size := by omega
            have lZ2 : w.heap.size + 1 < w2.heap.size := by omega
            clear hrd2 hb2
            by_cases he : e1 = 0
            · have he' : ((e1 : Int) != 0) = false := by rw [bne_eq_false_iff_eq]; omega
              have hk := HPr.out he
              have hk1 : (k1 : Int) ≤ (Y.size : Int) := by omega
              have HE : Hid (e1 = 0) := he
              clear he
              go_wp2_with (at_builtin; refine wpList_append_src rfl _ _ 68 68 rfl (w.heap.size + 3) 70 j0 (.agg #[.bool false, .string ⟨#[]⟩, .slice none 0 0]) 3 48 Try.underlying68 HJ.out.1 HJ.out.2.1 HJ.out.2.2.1 HJ.out.2.2.2 rfl _ _ ps.length (icells ps) 1 [.bool t1.list, .string t1.text, .slice ad' l' c'] rfl rfl (by exact (((HBl.out.below H2.out.2).row).alloc _).alloc _) (one_src (Bk.new' _ _ _ (by simp)) rfl rfl rfl) (by unfold maxLen; omega) (by omega) (by simp; omega) ?_; intro v3 w3 hown3 hgr3 hsn3; obtain ⟨a3, c3, rfl⟩ := own_shape hown3; have H3 : Hid (w3.ownsRow (w.heap.size + 3) 70 3 (.slice a3 (ps.length + 1) c3) (ps.length + 1) (icells ps ++ [.bool t1.list, .string t1.text, .slice ad' l' c']) ∧ ((w2.alloc (.cells #[.bool t1.list, .string t1.text, .slice ad' l' c'] 70)).alloc (.cells #[.bool t1.list, .string t1.text, .slice ad' l' c'] 70)).grownBy w3 (Value.slice va ps.length vc).ownBlock ∧ Sn ((w2.alloc (.cells #[.bool t1.list, .string t1.text, .slice ad' l' c'] 70)).alloc (.cells #[.bool t1.list, .string t1.text, .slice ad' l' c'] 70)) (.slice va ps.length vc) (.slice a3 (ps.length + 1) c3)) := ⟨hown3, hgr3, hsn3⟩; have b3 := bk_grown (((HB.out.2.2.below H2.out.2 HB.out.2.2.lt).alloc (.cells #[.bool t1.list, .string t1.text, .slice ad' l' c'] 70)).alloc (.cells #[.bool t1.list, .string t1.text, .slice ad' l' c'] 70)) hgr3 (fun q hq => by have := (HBl.out.row.lt q hq).1; omega); have y2 := (box_cells b3).2.2; have yf := b3.frozen 2; have ly := b3.lt; clear hown3 hgr3 hsn3 b3)
              go_roundw
              case rel =>
                obtain ⟨hown3, hgr3, hsn3⟩ := H3.out
                obtain ⟨hrd2, hb2⟩ := H2.out
                have hB := HBl.out
                obtain ⟨hYX, hYs, hpX, hRn⟩ := HY.out
                have hrow : ∀ q, (Value.slice va ps.length vc).ownBlock = some q → w.heap.size + 3 ≤ q ∧ q < wr.heap.size := fun q hq => hB.row.lt q hq
                have hb2a : Below wr.heap.size wr ((w2.alloc (.cells #[.bool t1.list, .string t1.text, .slice ad' l' c'] 70)).alloc (.cells #[.bool t1.list, .string t1.text, .slice ad' l' c'] 70)) := (hb2.alloc hs2 _).alloc (by simp; omega) _
                have hBn := (hB.below hb2a).snoc (x := t1) (sv := .slice ad' l' c') (v' := .slice a3 (ps.length + 1) c3) (w' := w3) (B := wr.heap.size) (hrd2.keep fun b _ hl => (Below.heap_alloc _ _ b (by simp; omega)).trans (Below.heap_alloc w2 _ b hl)) ⟨_, _, _, rfl⟩ (by omega) (fun q hq => (hrow q hq).2) hown3 hgr3 hsn3
                have hold : ∀ (b : Nat) vs ty, Bk wr b vs ty → b < w.heap.size + 3 → b ≠ w.heap.size + 1 + 1 → Bk (w3.setCell ⟨w.heap.size + 1 + 1, 2, none⟩ (.slice a3 (ps.length + 1) c3)) b vs ty := fun b vs ty hb h1 h2 =>
                  (bk_grown (((hb.below hb2 hb.lt).alloc _).alloc _) hgr3 (fun q hq => by have := (hrow q hq).1; omega)).other (by simpa using h2) _
                have b3 := bk_grown (((HB.out.2.2.below hb2 HB.out.2.2.lt).alloc (.cells #[.bool t1.list, .string t1.text, .slice ad' l' c'] 70)).alloc (.cells #[.bool t1.list, .string t1.text, .slice ad' l' c'] 70)) hgr3 (fun q hq => by have := (hrow q hq).1; omega)
                have hsub : Y.extract k1 Y.size = X.extract (p + k1) X.size := by rw [hYX]; exact sub_sub X p k1 (by omega)
                have hlen' : (ps ++ [(t1, Value.slice ad' l' c')]).length = ps.length + 1 := by simp
                refine ⟨Y.extract k1 Y.size, p + k1, ps ++ [(t1, .slice ad' l' c')], a3, c3, rfl, by rw [ByteArray.size_extract]; omega, ⟨hsub, by omega, ?_, ?_, hold _ _ _ HB.out.1 (by omega) (by omega), hold _ _ _ HB.out.2.1 (by omega) (by omega), ?_⟩, ?_⟩
                · have := Rn.snoc hRn hpX (by rw [← HTe.out]; exact HE.out)
                  rw [← HTe.out] at this
                  rw [List.map_append]; exact this
                · rw [hlen']
                  refine ⟨World.ownsRow.kept hBn.row ⟨rfl, rfl, rfl, by simp, fun q _ hq => Below.heap_setCell w3 _ _ q (fun e => hq (by rw [e]))⟩ (own_ne (k := w.heap.size + 1 + 1) hBn.row (by omega)), fun y hy => ⟨(hBn.each y hy).1, (hBn.each y hy).2.keep fun b hb _ => Below.heap_setCell w3 _ _ b (fun e => by have := hb.1; simp at e; omega)⟩⟩
                · rw [hlen']; exact b3.set 2 _ rfl
                · exact ((hbo.trans (hb2a.mono hszo)).trans (grown_below hgr3 (by simp; omega) (fun q hq => by have := (hrow q hq).1; omega))).setCell (p := ⟨w.heap.size + 1 + 1, 2, none⟩) (by simp; omega) _
              case measure => simp [strSize, ByteArray.size_extract]; omega
            · have he' : ((e1 : Int) != 0) = true := by rw [bne_iff_ne]; omega
              have HT : Hid (tk (r + 1) s = (zIT, 0, 1)) := HTn.out (HY.out.2.2.2.fail (tk_prog r) HY.out.2.2.1 (by rw [← HTe.out]; exact he))
              clear he
              go_wp2_with fail
              have b9 := (set3_Bk (HB.out.1.below H2.out.2 HB.out.1.lt) (.bool false) (.string ⟨#[]⟩) (.slice none 0 0)).alloc (.cells #[.bool t1.list, .string t1.text, .slice ad' l' c'] 70)
              refine bodyPost_ret (v := .tuple #[.agg #[.bool false, .string ⟨#[]⟩, .slice none 0 0], .int .i64 0, .int .i64 1]) ?_ rfl ⟨⟨none, 0, 0, by rw [HT.out]; rfl, by rw [HT.out]; exact rd_nil _ _ _⟩, ?_⟩
              · obtain ⟨g0, g1, g2⟩ := box_cells b9
                simp [results, Try.results73, go_sem, g0, g1, g2]
              · exact (set3_below (hbo.trans (H2.out.2.mono hszo)) (Nat.le_refl _) _ _ _).alloc (by simp; omega) _
          · have hlt' : decide ((0 : Int) < (Y.size : Int)) = false := decide_eq_false (by omega)
            have hlt'' : decide (0 < Y.size) = false := decide_eq_false hlt
            have hall := hRn.done (tk_prog r) (by omega)
            have hlen := hRn.len (tk_prog r)
            simp only [List.length_map] at hlen
            have hrd := hBl.rd (by omega)
            have HT : Hid (tk (r + 1) s = (.mk true ⟨#[]⟩ (ps.map Prod.fst), (1 + m) + n, 0) ∧ RdP wr (w.heap.size + 3 ≤ ·) (r + 2 + 1) (ps.map Prod.fst) (.slice va ps.length vc)) := ⟨HTs.out _ hall, hrd⟩
            obtain ⟨i0, i1, i2⟩ := box_cells bI
            obtain ⟨r0, r1, r2⟩ := box_cells bR
            have rf0 := bR.frozen 0
            have rf1 := bR.frozen 1
            have rf2 := bR.frozen 2
            clear hYX hYs hpX hRn hBl bR bZ bI hall hlen hrd
            go_wp2_with fail
            have b9 := set3_Bk HB.out.1 (.bool true) (.string ⟨#[]⟩) (.slice va ps.length vc)
            refine bodyPost_ret (v := .tuple #[.agg #[.bool true, .string ⟨#[]⟩, .slice va ps.length vc], .int .i64 ((1 + (m : Int)) + (n : Int)), .int .i64 0]) ?_ rfl ⟨⟨va, ps.length, vc, by rw [HT.out.1]; first | rfl | (simp [IT.list, IT.text]; done), ?_⟩, ?_⟩
            · obtain ⟨g0, g1, g2⟩ := box_cells b9
              simp [results, Try.results73, go_sem, g0, g1, g2]
            · rw [HT.out.1]
              exact (set3_keep HT.out.2 (fun k hk => by omega) _ _ _).weak (fun b hb => by omega)
            · exact set3_below hbo (Nat.le_refl _) _ _ _
set_option maxRecDepth 100000 in
set_option maxHeartbeats 1000000 in
theorem rtake_e (r d : Nat) (s : ByteArray) (w : World) (h : s.size = 0 ∨ (0 < s.size ∧ hd0 s < 128)) : Calls Try.prog 73 #[.string s, .int .i64 (d : Int)] w (TkQ r s w) := by
  rcases h with h | ⟨h0, h1⟩
  · have HF : Hid (fnd s = (false, 0, 0, 7)) := by show _ = _; rw [fnd, if_pos h]
    have hz : ((s.size : Int) == 0) = true := by rw [beq_iff_eq]; omega
    go_enter Try.func73, Try.ntmps73
    have HT : Hid (tk r s = (zIT, 0, 7)) := by show _ = _; rw [tk_err r s (by rw [HF.out]; simp), HF.out]
    go_wp2_with fail
    refine bodyPost_ret (v := .tuple #[.agg #[.bool false, .string ⟨#[]⟩, .slice none 0 0], .int .i64 0, .int .i64 7]) ?_ rfl ⟨⟨none, 0, 0, by rw [HT.out]; rfl, by rw [HT.out]; exact rd_nil _ _ _⟩, ?_⟩
    · simp [results, Try.results73, go_sem]
    · exact ((Below.refl _ w).alloc (Nat.le_refl _) _).alloc (by simp) _
  · have HF : Hid (fnd s = (false, 0, 1, 0)) := by show _ = _; rw [fnd, if_neg (by omega), if_pos h1]
    have HT : Hid (tk r s = (.mk false (s.extract 0 1) [], 1, 0)) := by show _ = _; rw [tk_text r s (by rw [HF.out]) (by rw [HF.out]), HF.out]
    have hix := idx_str s 0 0 h0 rfl
    rw [hd0_eq s h0] at hix
    have hz : ((s.size : Int) == 0) = false := by rw [beq_eq_false_iff_ne]; omega
    have hc : decide ((hd0 s : Int) < 128) = true := decide_eq_true (by omega)
    have hle : (1 : Int) ≤ (s.size : Int) := by omega
    have hcm := hd0_lt s
    go_enter Try.func73, Try.ntmps73
    go_wp2_with fail
    refine bodyPost_ret (v := .tuple #[.agg #[.bool false, .string (s.extract 0 1), .slice none 0 0], .int .i64 1, .int .i64 0]) ?_ rfl ⟨⟨none, 0, 0, by rw [HT.out]; rfl, by rw [HT.out]; exact rd_nil _ _ _⟩, ?_⟩
    · simp [results, Try.results73, go_sem]
    · exact ((Below.refl _ w).alloc (Nat.le_refl _) _).alloc (by simp) _
theorem rtake_all (r : Nat) (IH : ∀ r2, r = r2 + 1 → RtS r2) : RtS r := fun s w d hd hs => by
  by_cases h0 : s.size = 0
  · exact rtake_e r d s w (.inl h0)
  by_cases h1 : hd0 s < 128
  · exact rtake_e r d s w (.inr ⟨by omega, h1⟩)
  by_cases h2 : 192 ≤ hd0 s
  · by_cases h3 : hd0 s - 192 ≤ 55
    · exact rtake_sl r d IH hd s w _ _ rfl hs (by omega) h2 rfl h3
    · exact rtake_gl r d IH hd s w _ _ rfl hs (by omega) h2 rfl (by omega)
  · by_cases h3 : hd0 s - 128 ≤ 55
    · exact rtake_st r d hd s w _ _ rfl hs (by omega) (by omega) rfl h3
    · exact rtake_gt r d hd s w _ _ rfl hs (by omega) (by omega) rfl (by omega)
theorem rtk : ∀ r, RtS r
  | 0 => rtake_all 0 (fun r2 h => by omega)
  | r + 1 => rtake_all (r + 1) (fun r2 h => Nat.succ.inj h ▸ rtk r)
set_option maxRecDepth 100000 in
set_option maxHeartbeats 2000000 in
theorem rTake (s : ByteArray) (w : World) (hs : s.size ≤ 1099511627776) : Calls Try.prog 39 #[.string s] w (TaQ0 s w) := by
  have HC : Hid (∀ w, Calls Try.prog 73 #[.string s, .int .i64 0] w fun e w' => (∃ ad l c, e = .returned (.tuple #[.agg #[.bool (tk0 s).1.list, .string (tk0 s).1.text, .slice ad l c], .int .i64 ((tk0 s).2.1 : Int), .int .i64 ((tk0 s).2.2 : Int)]) ∧ RdP w' (w.heap.size ≤ ·) 18 (tk0 s).1.items (.slice ad l c)) ∧ Below w.heap.size w w') := fun w => rtk 16 s w 0 rfl hs
  show Calls Try.prog _ _ w fun e w' => (∃ ad l c, e = .returned (.tuple #[.agg #[.bool (tk0 s).1.list, .string (tk0 s).1.text, .slice ad l c], .int .i64 ((tk0 s).2.1 : Int), .int .i64 ((tk0 s).2.2 : Int)]) ∧ RdP w' (w.heap.size ≤ ·) 18 (tk0 s).1.items (.slice ad l c)) ∧ Below w.heap.size w w'
  obtain ⟨T, hT⟩ : ∃ T, T = tk0 s := ⟨_, rfl⟩
  rw [← hT] at HC ⊢
  obtain ⟨t1, k1, e1⟩ := T
  clear hT
  have bR := Bk.new w #[.bool false, .string ⟨#[]⟩, .slice none 0 0] 70
  have HR : Hid (Bk (w.alloc (.cells #[.bool false, .string ⟨#[]⟩, .slice none 0 0] 70)) w.heap.size #[.bool false, .string ⟨#[]⟩, .slice none 0 0] 70) := bR
  clear bR
  go_enter Try.func39, Try.ntmps39
  go_wp2_with fail
  refine (HC.out _).mono ?_
  rintro e w1 ⟨⟨ad, l, c, rfl, hrd⟩, hb1⟩
  have b1 := HR.out.below hb1 HR.out.lt
  have HB : Hid (Bk w1 w.heap.size #[.bool false, .string ⟨#[]⟩, .slice none 0 0] 70 ∧ Below w.heap.size w w1 ∧ RdP w1 (w.heap.size + 1 ≤ ·) 18 t1.items (.slice ad l c)) := ⟨b1, ((Below.refl _ w).alloc (Nat.le_refl _) _).trans (hb1.mono (by simp)), by simpa using hrd⟩
  have lb1 := b1.lt
  obtain ⟨r0, r1, r2⟩ := box_cells b1
  have f0 := b1.frozen 0
  have f1 := b1.frozen 1
  have f2 := b1.frozen 2
  clear b1 hb1 hrd
  go_wp2_with fail
  have b9 := set3_Bk HB.out.1 (.bool t1.list) (.string t1.text) (.slice ad l c)
  refine bodyPost_ret (v := .tuple #[.agg #[.bool t1.list, .string t1.text, .slice ad l c], .int .i64 (k1 : Int), .int .i64 (e1 : Int)]) ?_ rfl ⟨⟨ad, l, c, rfl, ?_⟩, ?_⟩
  · obtain ⟨g0, g1, g2⟩ := box_cells b9
    simp [results, Try.results39, go_sem, g0, g1, g2]
  · exact (set3_keep HB.out.2.2 (fun k hk => by omega) _ _ _).weak (fun b hb => by omega)
  · exact set3_below HB.out.2.1 (Nat.le_refl _) _ _ _
end Go.Proofs.Ytapjonmgjccpbaa

import Derived.Test.YtljhhdpeakencaaJ10
set_option linter.unusedSimpArgs false
set_option linter.unusedVariables false
namespace Go.Proofs.Ytljhhdpeakencaa
open Go.RowKit

/-! tarnlaw9.DiskHoles: what the disks are. -/
abbrev hB (n : Nat) : List UInt8 := List.replicate (n * 64) 7
abbrev end9 : List UInt8 := [101, 110, 100]
def hX (n : Nat) : List UInt8 := List.replicate (n * 64) 0 ++ end9
abbrev hps (n : Nat) : List Int := List.replicate n 1 ++ [0]
def h1 (n : Nat) : Ds := wrD (dsN [] 8) 6 0 (hB n)
def h2 (n : Nat) : Ds := wrD (h1 n) 6 ((n * 64 : Nat) : Int) end9
theorem hB_len (n : Nat) : (hB n).length = n * 64 := by simp
theorem hX_len (n : Nat) : (hX n).length = n * 64 + 3 := by simp [hX]
theorem h1_w {n : Nat} (hn : n ≤ 5) : wrE (dsN [] 8) 6 0 (hB n).length = 0 := by
  unfold wrE
  have hc : cntE (dsN [] 8) 6 = 0 := by decide
  rw [hc, if_neg (by omega), hB_len, if_neg (by omega), if_neg (by omega)]
theorem pad_nil (m : Nat) : pad [] m = List.replicate m 0 := by simp [pad]
theorem h1_eq {n : Nat} (hn : n ≤ 5) : h1 n = { cnt (dsN [] 8) with now := upd (dsN [] 8).now 6 (hB n), chs := upd (dsN [] 8).chs 6 ((pcs 0 (n * 64) 0).map (pch 0 (hB n))) } := by
  have e := wrD_ok (f := 6) (at_ := 0) (h1_w hn)
  have e1 : splice (pad ((dsN [] 8).now 6) (0 + (hB n).length)) 0 (hB n) = hB n := by
    have := splice_eq (r := []) (b := hB n) (a := 0) (Nat.le_refl _)
    show splice (pad [] _) 0 _ = _
    rw [this]
    simp
  rw [show ((6 : Int).toNat) = 6 from rfl, show ((0 : Int).toNat) = 0 from rfl, e1, hB_len] at e
  exact e
theorem h2_w {n : Nat} (hn : n ≤ 5) : wrE (h1 n) 6 ((n * 64 : Nat) : Int) end9.length = 0 := by
  have hc : cntE (h1 n) 6 = 0 := by rw [h1_eq hn]; rfl
  have hl : ((h1 n).now 6).length = n * 64 := by
    rw [h1_eq hn]
    show (upd (dsN [] 8).now 6 (hB n) 6).length = _
    rw [upd_same, hB_len]
  unfold wrE
  rw [hc, if_neg (by omega), show ((6 : Int).toNat) = 6 from rfl, hl, if_neg (by omega), if_neg (by show ¬ 131072 - ((n * 64 : Nat) : Int) < ((3 : Nat) : Int); omega)]
theorem pcs_end (n : Nat) : pcs (n * 64) 3 0 = [(0, 3)] := by
  have e : pcn (n * 64) 3 0 = 3 := by unfold pcn; omega
  rw [pcs_cons (by omega), e, pcs_nil (by omega)]
theorem pcs_count (n : Nat) : ∀ t k, k + t = n → (pcs 0 (n * 64) (k * 64)).length = t
  | 0, k, h => by rw [pcs_nil (by omega)]; rfl
  | t + 1, k, h => by
    have e : pcn 0 (n * 64) (k * 64) = 64 := by unfold pcn; omega
    rw [pcs_cons (by omega), e, List.length_cons, show k * 64 + 64 = (k + 1) * 64 by omega, pcs_count n t (k + 1) (by omega)]
theorem h2_eq {n : Nat} (hn : n ≤ 5) : (h2 n).safe 6 = [] ∧ (∀ i, i ≠ 6 → (h2 n).chs i = []) ∧ (h2 n).chs 6 = (pcs 0 (n * 64) 0).map (pch 0 (hB n)) ++ [⟨false, n * 64, end9⟩] := by
  have e : h2 n = _ := wrD_ok (f := 6) (at_ := ((n * 64 : Nat) : Int)) (h2_w hn)
  rw [Int.toNat_natCast, show ((6 : Int).toNat) = 6 from rfl, show end9.length = 3 from rfl, pcs_end] at e
  have e1 := h1_eq hn
  refine ⟨by rw [e, e1]; rfl, fun i hi => ?_, ?_⟩
  · rw [e]
    show upd (h1 n).chs 6 _ i = []
    rw [upd_other _ _ hi, e1]
    show upd (dsN [] 8).chs 6 _ i = []
    rw [upd_other _ _ hi]
    rfl
  · rw [e]
    show upd (h1 n).chs 6 _ 6 = _
    rw [upd_same, e1]
    show upd (dsN [] 8).chs 6 _ 6 ++ _ = _
    rw [upd_same]
    rfl
theorem gl_none {D : Ds} (h : ∀ i, i < 6 → D.chs i = []) : gl D 6 = [] := by
  unfold gl
  simp [List.range_succ, h]
theorem crI_ones (ps : List Int) (cs : List Ch) : ∀ (k : Nat) (r : List UInt8), (∀ i, i < cs.length → pkk ps (k + i) = 1) → crI ps cs k r = r := by
  induction cs with
  | nil => intro k r _; rfl
  | cons c cs ih =>
    intro k r h
    show crI ps cs (k + 1) (pst c (pkk ps k) r) = r
    have h0 := h 0 (by simp)
    rw [Nat.add_zero] at h0
    rw [h0, pst_few (by omega) (by omega)]
    exact ih (k + 1) r (fun i hi => by have := h (i + 1) (by simpa using hi); rw [show k + 1 + i = k + (i + 1) by omega]; exact this)
theorem hps_one {n i : Nat} (h : i < n) : pkk (hps n) i = 1 := by
  have hl : i < (hps n).length := by simp; omega
  have e : (hps n)[i] = 1 := by rw [List.getElem_append_left (by simpa using h)]; simp
  rw [pkk_in hl (by rw [e]; omega), e]
theorem hps_last (n : Nat) : pkk (hps n) n = 0 := by
  have hl : n < (hps n).length := by simp
  have e : (hps n)[n] = 0 := by rw [List.getElem_append_right (by simp)]; simp
  rw [pkk_in hl (by rw [e]; omega), e]
theorem h2_crash {n : Nat} (hn : n ≤ 5) : crash (h2 n) (hps n) 6 = hX n := by
  obtain ⟨e1, e2, e3⟩ := h2_eq hn
  rw [crash_page _ _ 6 (by omega)]
  unfold pcr
  rw [gl_none (fun i hi => e2 i (by omega)), e1, e3, crI_snoc]
  have hc := pcs_count n n 0 (by omega)
  rw [Nat.zero_mul] at hc
  rw [crI_ones (hps n) _ _ _ (fun i hi => by rw [List.length_map, hc] at hi; rw [show ([] : List (Nat × Ch)).length + i = i by simp]; exact hps_one hi), List.length_map, hc, show ([] : List (Nat × Ch)).length + n = n by simp, hps_last, pst_all (by rfl)]
  show splice (pad [] (n * 64 + 3)) (n * 64) end9 = hX n
  rw [pad_nil]
  unfold splice hX
  rw [List.take_replicate, List.drop_replicate, show min (n * 64) (n * 64 + 3) = n * 64 by omega, show n * 64 + 3 - (n * 64 + end9.length) = 0 by show n * 64 + 3 - (n * 64 + 3) = 0; omega]
  rfl
theorem h2_few (n : Nat) : Few (h2 n) 2 := ((Few.new sml_nil 8 0).wrD _ _ _).wrD _ _ _
theorem h1_few (n : Nat) : Few (h1 n) 1 := (Few.new sml_nil 8 0).wrD _ _ _
/-- The second disk. -/
def e0 (n : Nat) : Ds := dsN ((List.range 8).map (crash (h2 n) (hps n))) 8
def e1 (n : Nat) : Ds := cutD (e0 n) 6 (n : Int)
theorem e0_sml (n : Nat) : Sml ((List.range 8).map (crash (h2 n) (hps n))) := small_crash (h2_few n) _
theorem e0_few (n : Nat) : Few (e0 n) 0 := Few.new (e0_sml n) 8 0
theorem e1_few (n : Nat) : Few (e1 n) 1 := (e0_few n).cutD _ _
theorem e0_row {n : Nat} (hn : n ≤ 5) : (e0 n).now 6 = hX n ∧ (e0 n).safe 6 = hX n := by
  have e : (if 6 < 8 then ((List.range 8).map (crash (h2 n) (hps n))).getD 6 [] else []) = hX n := by
    rw [if_pos (by omega)]
    show crash (h2 n) (hps n) 6 = hX n
    exact h2_crash hn
  exact ⟨e, e⟩
theorem e1_c {n : Nat} (hn : n ≤ 5) : cutE (e0 n) 6 (n : Int) = 0 := by
  have hc : cntE (e0 n) 6 = 0 := by unfold cntE; rw [if_neg (by simp [e0, dsN, cnt]), if_neg (by simp [e0, dsN])]; decide
  unfold cutE
  rw [hc, if_neg (by omega), show ((6 : Int).toNat) = 6 from rfl, (e0_row hn).1, hX_len, if_neg (by omega)]
theorem e1_eq {n : Nat} (hn : n ≤ 5) : e1 n = chg (cnt (e0 n)) 6 ⟨true, n, []⟩ := by
  have e : e1 n = _ := if_pos (e1_c hn)
  rw [Int.toNat_natCast, show ((6 : Int).toNat) = 6 from rfl] at e
  exact e
theorem e1_size {n : Nat} (hn : n ≤ 5) : sizeV (e1 n) 6 = (n : Int) ∧ fndE (e1 n).off 6 = 0 := by
  have h0 : fndE (e1 n).off 6 = 0 := by
    have : (e1 n).off = false := by rw [e1_eq hn]; rfl
    rw [this]; decide
  refine ⟨?_, h0⟩
  unfold sizeV
  rw [if_pos h0, show ((6 : Int).toNat) = 6 from rfl, e1_eq hn]
  have e9 : (chg (cnt (e0 n)) 6 ⟨true, n, []⟩).now 6 = ((e0 n).now 6).take n := by
    unfold chg
    show upd (cnt (e0 n)).now 6 (ovr ⟨true, n, []⟩ ((cnt (e0 n)).now 6)) 6 = _
    rw [upd_same, ovr_cut (by rfl)]
    rfl
  rw [e9, (e0_row hn).1, List.length_take, hX_len]
  show ((min n (n * 64 + 3) : Nat) : Int) = n
  omega
theorem e1_chs {n : Nat} (hn : n ≤ 5) : (∀ i, i < 6 → (e1 n).chs i = []) ∧ (e1 n).chs 6 = [⟨true, n, []⟩] ∧ (e1 n).safe 6 = hX n := by
  rw [e1_eq hn]
  refine ⟨fun i hi => ?_, ?_, (e0_row hn).2⟩
  · show upd (e0 n).chs 6 _ i = []
    rw [upd_other _ _ (by omega)]
    rfl
  · show upd (e0 n).chs 6 _ 6 = _
    rw [upd_same]
    rfl
theorem e1_back {n : Nat} (hn : n ≤ 5) (off : Bool) : (crash { e1 n with off := off } [] 6).length = n * 64 + 3 := by
  show (crL (e1 n).safe (gl (e1 n) 8) [] 6).length = _
  rw [crL_none, (e1_chs hn).2.2, hX_len]
theorem e1_cut {n : Nat} (hn : n ≤ 5) (off : Bool) : (crash { e1 n with off := off } [0] 6).length = n := by
  obtain ⟨c1, c2, c3⟩ := e1_chs hn
  have e : crash { e1 n with off := off } [0] 6 = crash (e1 n) [0] 6 := rfl
  rw [e, crash_page _ _ 6 (by omega)]
  unfold pcr
  rw [gl_none c1, c2, c3]
  show (pst ⟨true, n, []⟩ (pkk [0] 0) (hX n)).length = n
  rw [show pkk [0] 0 = 0 by decide, pst_cut0 (by rfl), List.length_take, hX_len]
  show min n (n * 64 + 3) = n
  omega
end Go.Proofs.Ytljhhdpeakencaa

import Derived.Test.YtljhhdpeakencaaJ10
set_option linter.unusedSimpArgs false
set_option linter.unusedVariables false
namespace Go.Proofs.Ytljhhdpeakencaa
open Go.RowKit

/-! tarnlaw9.DiskPieces: what is kept. -/
abbrev fr9 (k : Nat) : Nat := k * 5 % 70 % 64
theorem fr9_lt (k : Nat) : fr9 k < 64 := Nat.mod_lt _ (by omega)
abbrev ze9 : List UInt8 := List.replicate 192 0
abbrev on9 : List UInt8 := List.replicate 128 1
/-- The picks: one of them another one. -/
def bit9 (k i : Nat) : Int := ((k >>> i % 2 : Nat) : Int)
def pk9 (k : Nat) : List Int := [((k % 2 : Nat) : Int), ((k / 2 % 2 : Nat) : Int), ((k / 4 % 2 : Nat) : Int)].set (k % 3) ((2 + k % 9 : Nat) : Int)
def pf9 (fr : Nat) : List (Nat × Nat) := if fr = 0 then [(0, 64), (64, 64)] else [(0, 64 - fr), (64 - fr, 64), (128 - fr, fr)]
theorem pf9_eq {fr : Nat} (h : fr < 64) : pcs fr 128 0 = pf9 fr := by
  unfold pf9
  by_cases h0 : fr = 0
  · subst h0
    rw [if_pos rfl]
    have e1 : pcn 0 128 0 = 64 := by unfold pcn; omega
    have e2 : pcn 0 128 64 = 64 := by unfold pcn; omega
    rw [pcs_cons (by omega), e1, pcs_cons (by omega), Nat.zero_add, e2, pcs_nil (by omega)]
  · rw [if_neg h0]
    have e1 : pcn fr 128 0 = 64 - fr := by unfold pcn; omega
    have e2 : pcn fr 128 (64 - fr) = 64 := by unfold pcn; omega
    have e3 : pcn fr 128 (64 - fr + 64) = fr := by unfold pcn; omega
    rw [pcs_cons (by omega), e1, Nat.zero_add, pcs_cons (by omega), e2, pcs_cons (by omega), e3, pcs_nil (by omega), show 64 - fr + 64 = 128 - fr by omega]
/-- Is the byte kept? -/
def kep9 (k i : Nat) : Bool := decide (fr9 k ≤ i ∧ i < fr9 k + 128) && (decide ((pk9 k).getD (i / 64) 1 = 0) || (decide (2 ≤ (pk9 k).getD (i / 64) 1) && decide ((i : Int) - (max (fr9 k) (i - i % 64) : Nat) < (pk9 k).getD (i / 64) 1 - 2)))
def row9 (k : Nat) : List UInt8 := crI (pk9 k) ((pf9 (fr9 k)).map (pch (fr9 k) on9)) 0 ze9
def chk9 (k : Nat) : Bool := decide (row9 k = (List.range 192).map fun i => if kep9 k i = true then 1 else 0)
set_option maxRecDepth 100000 in
theorem chk_all : (List.range 40).all chk9 = true := by decide +kernel
theorem row9_eq {k : Nat} (h : k < 40) : row9 k = (List.range 192).map fun i => if kep9 k i = true then 1 else 0 := by
  have h1 := List.all_eq_true.1 chk_all k (List.mem_range.2 h)
  exact of_decide_eq_true h1
def p0 : Ds := wrD (dsN [] 8) 3 0 ze9
def p1 : Ds := psyD p0 3
def p2 (k : Nat) : Ds := wrD p1 3 ((fr9 k : Nat) : Int) on9
set_option maxRecDepth 100000 in
theorem p0_w : wrE (dsN [] 8) 3 0 ze9.length = 0 := by rw [show ze9.length = 192 from List.length_replicate]; decide
set_option maxRecDepth 100000 in
theorem p0_eq : p0 = { cnt (dsN [] 8) with now := upd (dsN [] 8).now 3 ze9, chs := upd (dsN [] 8).chs 3 ((pcs 0 192 0).map (pch 0 ze9)) } := by
  have e := wrD_ok (f := 3) (at_ := 0) p0_w
  have e1 : splice (pad ((dsN [] 8).now 3) (0 + ze9.length)) 0 ze9 = ze9 := by
    have := splice_eq (r := []) (b := ze9) (a := 0) (Nat.le_refl _)
    show splice (pad [] _) 0 _ = _
    rw [this]
    simp
  rw [show ((3 : Int).toNat) = 3 from rfl, show ((0 : Int).toNat) = 0 from rfl, e1, List.length_replicate] at e
  exact e
set_option maxRecDepth 100000 in
theorem p0_s : cntE p0 3 = 0 := by rw [p0_eq]; rfl
set_option maxRecDepth 100000 in
theorem p1_eq : p1.now 3 = ze9 ∧ p1.safe 3 = ze9 ∧ (∀ i, p1.chs i = []) ∧ p1.off = false ∧ p1.tO = 0 ∧ p1.tF = 0 := by
  have e : p1 = _ := psyD_ok p0_s
  have hn : p0.now 3 = ze9 := by rw [p0_eq]; show upd (dsN [] 8).now 3 ze9 3 = ze9; exact upd_same _ _ _
  refine ⟨by rw [e]; exact hn, ?_, fun i => ?_, by rw [e, p0_eq]; rfl, by rw [e, p0_eq]; rfl, by rw [e, p0_eq]; rfl⟩
  · rw [e]
    show upd p0.safe 3 (p0.now 3) 3 = ze9
    rw [upd_same, hn]
  · rw [e]
    show upd p0.chs 3 [] i = []
    by_cases h : i = 3
    · subst h; rw [upd_same]
    · rw [upd_other _ _ h, p0_eq]
      show upd (dsN [] 8).chs 3 _ i = []
      rw [upd_other _ _ h]
      rfl
set_option maxRecDepth 100000 in
theorem p2_w (k : Nat) : wrE p1 3 ((fr9 k : Nat) : Int) on9.length = 0 := by
  obtain ⟨e1, _, _, e4, e5, e6⟩ := p1_eq
  have hf := fr9_lt k
  have hc : cntE p1 3 = 0 := by
    unfold cntE
    have h1 : (cnt p1).off = false := by show (p1.off || decide (p1.tO = 1)) = false; rw [e4, e5]; rfl
    rw [if_neg (by rw [h1]; simp), if_neg (by rw [e6]; omega)]
    decide
  unfold wrE
  rw [hc, if_neg (by omega), show ((3 : Int).toNat) = 3 from rfl, e1, List.length_replicate, List.length_replicate, if_neg (by omega), if_neg (by omega)]
set_option maxRecDepth 100000 in
theorem p2_crash {k : Nat} (hk : k < 40) : crash (p2 k) (pk9 k) 3 = (List.range 192).map fun i => if kep9 k i = true then 1 else 0 := by
  rw [← row9_eq hk, crash_page _ _ 3 (by omega)]
  have e : p2 k = _ := wrD_ok (p2_w k)
  rw [Int.toNat_natCast, show ((3 : Int).toNat) = 3 from rfl, show on9.length = 128 from List.length_replicate, pf9_eq (fr9_lt k)] at e
  obtain ⟨_, e2, e3, _⟩ := p1_eq
  have hg : gl (p2 k) 3 = [] := by
    unfold gl
    have h : ∀ i, i < 3 → (p2 k).chs i = [] := fun i hi => by
      rw [e]
      show upd p1.chs 3 _ i = []
      rw [upd_other _ _ (by omega), e3]
    simp [List.range_succ, h]
  have hs : (p2 k).safe 3 = ze9 := by rw [e]; exact e2
  have hc : (p2 k).chs 3 = (pf9 (fr9 k)).map (pch (fr9 k) on9) := by
    rw [e]
    show upd p1.chs 3 _ 3 = _
    rw [upd_same, e3]
    rfl
  unfold pcr
  rw [hg, hs, hc]
  rfl
theorem p0_few : Few p0 1 := (Few.new sml_nil 8 0).wrD _ _ _
theorem p1_few : Few p1 1 := p0_few.psyD 3
theorem p2_few (k : Nat) : Few (p2 k) 2 := p1_few.wrD _ _ _
end Go.Proofs.Ytljhhdpeakencaa

import Derived.Test.YtljhhdpeakencaaJ10
set_option linter.unusedSimpArgs false
set_option linter.unusedVariables false
namespace Go.Proofs.Ytljhhdpeakencaa
open Go.RowKit

/-! tarnlaw9.DiskFails: what the two disks are, write by write. -/
theorem wrD_cnt (D : Ds) (f at_ : Int) (bs : List UInt8) : (wrD D f at_ bs).off = (cnt D).off ∧ (wrD D f at_ bs).tO = (cnt D).tO ∧ (wrD D f at_ bs).tF = (cnt D).tF := by
  by_cases hw : wrE D f at_ bs.length = 0
  · rw [wrD_ok hw]; exact ⟨rfl, rfl, rfl⟩
  · rw [wrD_no hw]; exact ⟨rfl, rfl, rfl⟩
def byt (j : Nat) : UInt8 := UInt8.ofNat (97 + j)
theorem byt_nat {j : Nat} (h : j ≤ 5) : ((byt j).toNat : Int) = 97 + j := by
  unfold byt
  rw [UInt8.toNat_ofNat']
  omega
def dF (n : Nat) : Nat → Ds
  | 0 => failD (dsN [] 8) n
  | j + 1 => wrD (dF n j) 1 (sizeV (dF n j) 1) [byt (j + 1)]
def oF (n : Nat) : Nat → Ds
  | 0 => offD (dsN [] 8) n
  | j + 1 => wrD (oF n j) 1 0 [byt (j + 1)]
def wF (n : Nat) : Nat → List UInt8
  | 0 => []
  | j + 1 => if j + 1 = n then wF n j else wF n j ++ [byt (j + 1)]
theorem wF_len (n : Nat) : ∀ j, (wF n j).length ≤ j
  | 0 => by simp [wF]
  | j + 1 => by
    have := wF_len n j
    unfold wF
    split <;> simp <;> omega
structure DfI (n j : Nat) (D : Ds) : Prop where
  now : D.now 1 = wF n j
  off : D.off = false
  tO : D.tO = 0
  tF : D.tF = n - j
theorem DfI.size {n j : Nat} {D : Ds} (h : DfI n j D) : sizeV D 1 = ((wF n j).length : Int) ∧ fndE D.off 1 = 0 := by
  have h0 : fndE D.off 1 = 0 := by rw [h.off]; decide
  refine ⟨?_, h0⟩
  unfold sizeV
  rw [if_pos h0]
  show ((D.now 1).length : Int) = _
  rw [h.now]
theorem DfI.wr {n j : Nat} {D : Ds} (h : DfI n j D) (hj : j ≤ 100) : wrE D 1 (sizeV D 1) 1 = if j + 1 = n then 14 else 0 := by
  have hl := wF_len n j
  have hc : cntE D 1 = if j + 1 = n then 14 else 0 := by
    unfold cntE
    have h1 : (cnt D).off = false := by show (D.off || decide (D.tO = 1)) = false; rw [h.off, h.tO]; rfl
    rw [if_neg (by rw [h1]; simp), h.tF]
    by_cases e : j + 1 = n
    · rw [if_pos e, if_pos (by omega)]
    · rw [if_neg e, if_neg (by omega)]; decide
  unfold wrE
  rw [hc]
  by_cases e : j + 1 = n
  · rw [if_pos e, if_pos (by omega)]
  · rw [if_neg e, if_neg (by omega), h.size.1, show ((1 : Int).toNat) = 1 from rfl, h.now, if_neg (by omega), if_neg (by omega)]
theorem dF_inv (n : Nat) : ∀ j, j ≤ 100 → DfI n j (dF n j)
  | 0, _ => ⟨by simp [dF, failD, dsN, wF], rfl, rfl, by show ((n : Int)).toNat = n - 0; omega⟩
  | j + 1, hj => by
    have ih := dF_inv n j (by omega)
    have hw := ih.wr (by omega)
    have hl := wF_len n j
    obtain ⟨c1, c2, c3⟩ := wrD_cnt (dF n j) 1 (sizeV (dF n j) 1) [byt (j + 1)]
    refine ⟨?_, ?_, ?_, ?_⟩
    · show (wrD (dF n j) 1 (sizeV (dF n j) 1) [byt (j + 1)]).now 1 = wF n (j + 1)
      by_cases e : j + 1 = n
      · rw [if_pos e] at hw
        rw [wrD_no (by show wrE _ _ _ 1 ≠ 0; rw [hw]; omega)]
        show (dF n j).now 1 = _
        rw [ih.now]
        show _ = if j + 1 = n then wF n j else _
        rw [if_pos e]
      · rw [if_neg e] at hw
        rw [wrD_ok (by show wrE _ _ _ 1 = 0; exact hw)]
        show upd (dF n j).now 1 (splice (pad ((dF n j).now 1) ((sizeV (dF n j) 1).toNat + 1)) (sizeV (dF n j) 1).toNat [byt (j + 1)]) 1 = _
        have hs : splice (pad (wF n j) ((wF n j).length + 1)) (wF n j).length [byt (j + 1)] = (wF n j).take (wF n j).length ++ [byt (j + 1)] ++ (wF n j).drop ((wF n j).length + 1) := splice_eq (r := wF n j) (b := [byt (j + 1)]) (Nat.le_refl _)
        rw [upd_same, ih.size.1, ih.now, Int.toNat_natCast, hs, List.take_length, List.drop_eq_nil_of_le (by omega), List.append_nil]
        show _ = if j + 1 = n then wF n j else _
        rw [if_neg e]
    · show (wrD _ _ _ _).off = false
      rw [c1]
      show ((dF n j).off || decide ((dF n j).tO = 1)) = false
      rw [ih.off, ih.tO]; rfl
    · show (wrD _ _ _ _).tO = 0
      rw [c2]
      show (dF n j).tO - 1 = 0
      rw [ih.tO]
    · show (wrD _ _ _ _).tF = n - (j + 1)
      rw [c3]
      show (dF n j).tF - 1 = _
      rw [ih.tF]
      omega
structure OfI (n j : Nat) (D : Ds) : Prop where
  off : D.off = decide (n ≤ j)
  tO : D.tO = n - j
  tF : D.tF = 0
theorem OfI.wr {n j : Nat} {D : Ds} (h : OfI n j D) : wrE D 1 0 1 = if n ≤ j + 1 then 13 else 0 := by
  have h1 : (cnt D).off = decide (n ≤ j + 1) := by
    show (D.off || decide (D.tO = 1)) = _
    rw [h.off, h.tO, ← Bool.decide_or]
    exact decide_eq_decide.2 (by omega)
  have hc : cntE D 1 = if n ≤ j + 1 then 13 else 0 := by
    unfold cntE
    rw [h1, h.tF]
    by_cases e : n ≤ j + 1
    · rw [if_pos (decide_eq_true e), if_pos e]
    · rw [if_neg (by simpa using e), if_neg e]; decide
  unfold wrE
  rw [hc]
  by_cases e : n ≤ j + 1
  · rw [if_pos e, if_pos (by omega)]
  · rw [if_neg e, if_neg (by omega), if_neg (by omega), if_neg (by omega)]
theorem oF_inv (n : Nat) : ∀ j, OfI n j (oF n j)
  | 0 => ⟨by show (false || decide ((n : Int) < 1)) = _; rw [Bool.false_or]; exact decide_eq_decide.2 (by omega), by show ((n : Int)).toNat = n - 0; omega, rfl⟩
  | j + 1 => by
    have ih := oF_inv n j
    obtain ⟨c1, c2, c3⟩ := wrD_cnt (oF n j) 1 0 [byt (j + 1)]
    refine ⟨?_, ?_, ?_⟩
    · show (wrD _ _ _ _).off = _
      rw [c1]
      show ((oF n j).off || decide ((oF n j).tO = 1)) = _
      rw [ih.off, ih.tO, ← Bool.decide_or]
      exact decide_eq_decide.2 (by omega)
    · show (wrD _ _ _ _).tO = _
      rw [c2]
      show (oF n j).tO - 1 = _
      rw [ih.tO]
      omega
    · show (wrD _ _ _ _).tF = 0
      rw [c3]
      show (oF n j).tF - 1 = 0
      rw [ih.tF]
theorem dF_few (n : Nat) : ∀ j, Few (dF n j) j
  | 0 => (Few.new sml_nil 8 0).failD _
  | j + 1 => (dF_few n j).wrD _ _ _
theorem oF_few (n : Nat) : ∀ j, Few (oF n j) j
  | 0 => (Few.new sml_nil 8 0).offD _
  | j + 1 => (oF_few n j).wrD _ _ _
theorem dF_read (n : Nat) : rdE (dF n 4) 1 0 ((wF n 4).length : Int) = 0 ∧ rdV (dF n 4) 1 0 ((wF n 4).length : Int) = wF n 4 := by
  have h := dF_inv n 4 (by omega)
  have e : rdE (dF n 4) 1 0 ((wF n 4).length : Int) = 0 := by
    unfold rdE
    rw [if_neg (by rw [h.size.2]; simp), show ((1 : Int).toNat) = 1 from rfl, h.now, if_neg (by omega)]
  refine ⟨e, ?_⟩
  unfold rdV
  rw [if_pos e, show ((1 : Int).toNat) = 1 from rfl, h.now, Int.toNat_natCast]
  show ((wF n 4).drop 0).take _ = _
  rw [List.drop_zero, List.take_length]
/-- Two disks of the program's, side by side. -/
structure D2 (w W : World) (d o : Nat) (O P : Nat → Nat) (D E : Ds) : Prop where
  d1 : D1 w W d O D
  d2 : D1 w W o P E
  ap : ∀ b, O b ≠ 0 → P b = 0
section
variable {w W W' : World} {d o : Nat} {O P O' P' : Nat → Nat} {D E D' E' : Ds}
theorem D2.below (h : D2 w W d o O P D E) (hb : Below W.heap.size W W') : D2 w W' d o O P D E := ⟨h.d1.below hb, h.d2.below hb, h.ap⟩
theorem D2.first (h : D2 w W d o O P D E) (h1 : D1 w W' d O' D') (hf : Fp O W O' W') : D2 w W' d o O' P D' E :=
  ⟨h1, h.d2.keep (fun b hb => hf.keep b (h.d2.olt b hb) (Classical.byContradiction fun h9 => hb (h.ap b h9))) hf.size h1.bel, fun b hb => Classical.byContradiction fun h9 => hb (hf.old b (h.d2.olt b h9) (Classical.byContradiction fun h8 => h9 (h.ap b h8)))⟩
theorem D2.second (h : D2 w W d o O P D E) (h2 : D1 w W' o P' E') (hf : Fp P W P' W') : D2 w W' d o O P' D E' :=
  ⟨h.d1.keep (fun b hb => hf.keep b (h.d1.olt b hb) (h.ap b hb)) hf.size h2.bel, h2, fun b hb => hf.old b (h.d1.olt b hb) (h.ap b hb)⟩
/-- A new disk beside one that is there. -/
theorem D2.start {w w1 w2 : World} {d o : Nat} {O P : Nat → Nat} {D E : Ds} (h1 : D1 w w1 d O D) (hb : Below w1.heap.size w1 w2) (h2 : D1 w1 w2 o P E) : D2 w w2 d o O P D E :=
  ⟨h1.below hb, ⟨h2.dk, fun b hb' => Nat.le_trans h1.bel.size (h2.lo b hb'), (h1.below hb).bel⟩, fun b hb' => h2.old (h1.olt b hb')⟩
end
end Go.Proofs.Ytljhhdpeakencaa

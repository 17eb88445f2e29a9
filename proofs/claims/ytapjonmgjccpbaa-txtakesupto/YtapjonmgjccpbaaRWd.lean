import Derived.Test.YtapjonmgjccpbaaRTake
import Derived.Test.YtapjonmgjccpbaaRBits
import Derived.Test.YtapjonmgjccpbaaJ2
import Derived.Test.YtapjonmgjccpbaaJ0
set_option linter.unusedSimpArgs false
set_option linter.unusedVariables false
namespace Go.Proofs.Ytapjonmgjccpbaa
open Go.RowKit

/-! tarnref7.wide, tarnref7.small. -/
def wdOk (l : Bool) (s : ByteArray) : Bool := !l && tkGood s
def wdV (l : Bool) (s : ByteArray) : Nat := if l then 0 else tkV s
theorem wdV_lt (l : Bool) (s : ByteArray) : wdV l s < M256 := by
  unfold wdV
  split
  · decide
  · exact tkV_lt s
set_option maxRecDepth 100000 in
set_option maxHeartbeats 2000000 in
theorem rwide (l : Bool) (s : ByteArray) (a : Option Addr) (n c : Nat) (w : World) :
    Calls Try.prog 41 #[.agg #[.bool l, .string s, .slice a n c]] w fun e w' => e = .returned (.tuple #[V (wdV l s), .bool (wdOk l s)]) ∧ Below w.heap.size w w' := by
  have HT : Hid (∀ w, Calls Try.prog 74 #[.string s] w fun e w' => e = .returned (.tuple #[V (tkV s), .bool (tkGood s)]) ∧ Below w.heap.size w w') := fun w => rtake s w
  obtain ⟨wr, hwr⟩ : ∃ wr, wr = (w.alloc (.cells #[.bool l, .string s, .slice a n c] 70)).alloc (.cells (A4 0 0 0 0) 26) := ⟨_, rfl⟩
  go_enter Try.func41, Try.ntmps41
  go_upto_region 1 with fail
  rw [← hwr]
  have bX : Bk wr w.heap.size #[.bool l, .string s, .slice a n c] 70 := by rw [hwr]; exact (Bk.new _ _ _).alloc _
  have bR : Bk wr (w.heap.size + 1) (A4 0 0 0 0) 26 := by rw [hwr]; exact Bk.new' _ _ _ (by simp)
  have HB : Hid (Below w.heap.size w wr) := by show Below _ _ _; rw [hwr]; exact ((Below.refl _ _).alloc (Nat.le_refl _) _).alloc (by simp) _
  clear hwr
  obtain ⟨X, hX⟩ : ∃ X, X = w.heap.size := ⟨_, rfl⟩
  have HX : Hid (X = w.heap.size) := hX
  rw [← hX] at bX bR ⊢
  have lR := bR.lt
  have HR : Hid (Bk wr (X + 1) (A4 0 0 0 0) 26) := bR
  have x0 := bX.cell 0
  have x1 := bX.cell 1
  simp only [List.getElem?_toArray, List.getElem?_cons_zero, List.getElem?_cons_succ] at x0 x1
  clear hX bX
  cases l with
  | true =>
    have r0 := bR.cell 0
    have rf0 := bR.frozen 0
    have r1 := bR.cell 1
    have rf1 := bR.frozen 1
    have r2 := bR.cell 2
    have rf2 := bR.frozen 2
    have r3 := bR.cell 3
    have rf3 := bR.frozen 3
    simp only [List.getElem?_toArray, List.getElem?_cons_zero, List.getElem?_cons_succ] at r0 r1 r2 r3
    clear bR
    go_wp2_with fail
    refine bodyPost_ret (v := .tuple #[V 0, .bool false]) ?_ rfl ⟨rfl, set4_below HB.out (by rw [HX.out]; omega) _ _ _ _⟩
    rw [V_zero]
    simp [results, Try.results41, go_sem, r0, r1, r2, r3]
  | false =>
    clear bR
    go_wp2_with fail
    refine (HT.out _).mono ?_
    rintro e w1 ⟨rfl, hb1⟩
    have bR1 := HR.out.below hb1 lR
    have HB1 : Hid (Below w.heap.size w w1) := HB.out.trans (hb1.mono HB.out.size)
    have lR1 := bR1.lt
    have HV : Hid (wdV false s = tkV s ∧ wdOk false s = tkGood s) := ⟨rfl, by simp [wdOk]⟩
    generalize tkV s = v at *
    generalize tkGood s = g at *
    have r0 := bR1.cell 0
    have rf0 := bR1.frozen 0
    have r1 := bR1.cell 1
    have rf1 := bR1.frozen 1
    have r2 := bR1.cell 2
    have rf2 := bR1.frozen 2
    have r3 := bR1.cell 3
    have rf3 := bR1.frozen 3
    simp only [List.getElem?_toArray, List.getElem?_cons_zero, List.getElem?_cons_succ] at r0 r1 r2 r3
    clear bR1 hb1
    go_wp2_with fail
    refine bodyPost_ret (v := .tuple #[V v, .bool g]) ?_ rfl ⟨by rw [HV.out.1, HV.out.2], set4_below HB1.out (by rw [HX.out]; omega) _ _ _ _⟩
    simp [results, Try.results41, go_sem, r0, r1, r2, r3]
/-- A number that goes so far. -/
def smP (l : Bool) (s : ByteArray) (m : Int) : Prop := wdOk l s = true ∧ wdV l s < 4611686018427387904 ∧ (wdV l s : Int) ≤ m
instance (l : Bool) (s : ByteArray) (m : Int) : Decidable (smP l s m) := by unfold smP; infer_instance
def smV (l : Bool) (s : ByteArray) (m : Int) : Int := if smP l s m then (wdV l s : Int) else 0
set_option maxRecDepth 100000 in
set_option maxHeartbeats 2000000 in
theorem rsmall (l : Bool) (s : ByteArray) (a : Option Addr) (n c : Nat) (m : Int) (w : World) :
    Calls Try.prog 40 #[.agg #[.bool l, .string s, .slice a n c], .int .i64 m] w fun e w' => e = .returned (.tuple #[.int .i64 (smV l s m), .bool (decide (smP l s m))]) ∧ Below w.heap.size w w' := by
  have hv := wdV_lt l s
  have HWd : Hid (∀ w, Calls Try.prog 41 #[.agg #[.bool l, .string s, .slice a n c]] w fun e w' => e = .returned (.tuple #[V (wdV l s), .bool (wdOk l s)]) ∧ Below w.heap.size w w') := fun w => rwide l s a n c w
  have HBt : Hid (∀ w, Calls Try.prog 36 #[V (wdV l s)] w fun e w' => e = .returned (.int .i64 (bl (wdV l s))) ∧ Below w.heap.size w w') := fun w => rbits _ hv w
  have HNo : Hid (¬ smP l s m → smV l s m = 0 ∧ decide (smP l s m) = false) := fun h => ⟨if_neg h, decide_eq_false h⟩
  have HYes : Hid (smP l s m → smV l s m = (wdV l s : Int) ∧ decide (smP l s m) = true) := fun h => ⟨if_pos h, decide_eq_true h⟩
  have HP : Hid (smP l s m ↔ wdOk l s = true ∧ wdV l s < 4611686018427387904 ∧ (wdV l s : Int) ≤ m) := Iff.rfl
  generalize wdV l s = v at *
  generalize wdOk l s = g at *
  clear hv
  obtain ⟨wr, hwr⟩ : ∃ wr, wr = w.alloc (.cells #[.bool l, .string s, .slice a n c] 70) := ⟨_, rfl⟩
  go_enter Try.func40, Try.ntmps40
  go_upto_region 1 with fail
  rw [← hwr]
  have bX : Bk wr w.heap.size #[.bool l, .string s, .slice a n c] 70 := by rw [hwr]; exact Bk.new _ _ _
  have HB : Hid (Below w.heap.size w wr) := by show Below _ _ _; rw [hwr]; exact (Below.refl _ _).alloc (Nat.le_refl _) _
  clear hwr
  have x0 := bX.cell 0
  have x1 := bX.cell 1
  have x2 := bX.cell 2
  simp only [List.getElem?_toArray, List.getElem?_cons_zero, List.getElem?_cons_succ] at x0 x1 x2
  clear bX
  go_wp2_with fail
  refine (HWd.out _).mono ?_
  rintro e w1 ⟨rfl, hb1⟩
  have HB1 : Hid (Below w.heap.size w w1) := HB.out.trans (hb1.mono HB.out.size)
  clear hb1 x0 x1 x2
  cases g with
  | false =>
    have HN : Hid (smV l s m = 0 ∧ decide (smP l s m) = false) := HNo.out (fun h => by have := (HP.out.1 h).1; cases this)
    go_wp2_with fail
    go_ret2
    exact ⟨by rw [HN.out.1, HN.out.2]; rfl, HB1.out.alloc HB1.out.size _⟩
  | true =>
    have bD := Bk.new w1 (A4 (lb (v) 0) (lb (v) 1) (lb (v) 2) (lb (v) 3)) 26
    have hB2 : Below w.heap.size w (w1.alloc (.cells (A4 (lb (v) 0) (lb (v) 1) (lb (v) 2) (lb (v) 3)) 26)) := HB1.out.alloc HB1.out.size _
    obtain ⟨w2, hw2⟩ : ∃ w2, w2 = w1.alloc (.cells (A4 (lb (v) 0) (lb (v) 1) (lb (v) 2) (lb (v) 3)) 26) := ⟨_, rfl⟩
    obtain ⟨D, hD⟩ : ∃ D, D = w1.heap.size := ⟨_, rfl⟩
    have HW : Hid (w2 = w1.alloc (.cells (A4 (lb (v) 0) (lb (v) 1) (lb (v) 2) (lb (v) 3)) 26) ∧ D = w1.heap.size) := ⟨hw2, hD⟩
    rw [← hw2] at bD hB2
    rw [← hD] at bD
    clear hw2 hD
    go_upto_region 2 with fail
    rw [← HW.out.1, ← HW.out.2]
    have d0 := bD.cell 0
    have d1 := bD.cell 1
    have d2 := bD.cell 2
    have d3 := bD.cell 3
    simp only [List.getElem?_toArray, List.getElem?_cons_zero, List.getElem?_cons_succ] at d0 d1 d2 d3
    have lD := bD.lt
    have HD : Hid (Bk w2 D (A4 (lb (v) 0) (lb (v) 1) (lb (v) 2) (lb (v) 3)) 26 ∧ Below w.heap.size w w2) := ⟨bD, hB2⟩
    clear bD hB2 HW HB1
    go_wp2_with fail
    refine (HBt.out _).mono ?_
    rintro e w3 ⟨rfl, hb3⟩
    have bD3 := HD.out.1.below hb3 lD
    have HB3 : Hid (Below w.heap.size w w3) := HD.out.2.trans (hb3.mono HD.out.2.size)
    clear d0 d1 d2 d3 hb3
    by_cases h62 : v < 4611686018427387904
    · have hbl : ¬ 62 < (bl v : Int) := by have := (bl_iff v 62).2 h62; omega
      have e0 := (lb_small v (by omega)).1
      rw [e0] at bD3
      have d0 := bD3.cell 0
      have d1 := bD3.cell 1
      have d2 := bD3.cell 2
      have d3 := bD3.cell 3
      simp only [List.getElem?_toArray, List.getElem?_cons_zero, List.getElem?_cons_succ] at d0 d1 d2 d3
      clear bD3
      have hcv : wrap64 (v : Int) = (v : Int) := by unfold wrap64; omega
      generalize bl v = q at *
      by_cases hm : (v : Int) ≤ m
      · have hm' : ¬ m < (v : Int) := by omega
        have HN : Hid (smV l s m = (v : Int) ∧ decide (smP l s m) = true) := HYes.out (HP.out.2 ⟨by first | rfl | trivial, h62, hm⟩)
        go_wp2_with fail
        go_ret2
        exact ⟨by rw [HN.out.1, HN.out.2]; rfl, HB3.out⟩
      · have hm' : m < (v : Int) := by omega
        have HN : Hid (smV l s m = 0 ∧ decide (smP l s m) = false) := HNo.out (fun h => hm (HP.out.1 h).2.2)
        go_wp2_with fail
        go_ret2
        exact ⟨by rw [HN.out.1, HN.out.2]; rfl, HB3.out⟩
    · have hbl : 62 < (bl v : Int) := by
        have : ¬ bl v ≤ 62 := fun h => h62 ((bl_iff v 62).1 h)
        omega
      generalize bl v = q at *
      have HN : Hid (smV l s m = 0 ∧ decide (smP l s m) = false) := HNo.out (fun h => h62 (HP.out.1 h).2.1)
      clear bD3
      go_wp2_with fail
      go_ret2
      exact ⟨by rw [HN.out.1, HN.out.2]; rfl, HB3.out⟩
end Go.Proofs.Ytapjonmgjccpbaa

import Derived.Test.YtapjonmgjccpbaaGreatBy7
import Derived.Test.YtapjonmgjccpbaaGreatJ8
set_option linter.unusedSimpArgs false
set_option linter.unusedVariables false
namespace Go.Proofs.YtapjonmgjccpbaaGreat
open Go.RowKit

/-! tx.ID. -/
def idV (t : TX) : Nat := if TxOk t then mk (itS (txI t)) else 0
theorem itS_small (a : IT) : (itS a).size ≤ 65536 := by
  unfold itS
  split
  · next h => rw [st_size]; exact h.2
  · rw [st_size]; simp
set_option maxRecDepth 100000 in
set_option maxHeartbeats 1000000 in
theorem id7 (t : TX) (aH aB : Option Addr) (cH cB : Nat) (w : World) (hw : TXw t) (hr : RT w t (.slice aH t.hs.length cH) (.slice aB t.bs.length cB)) :
    Calls Tryz.prog 19 #[.agg (txc t (.slice aH t.hs.length cH) (.slice aB t.bs.length cB))] w fun e w' => e = .returned (.tuple #[.int .u64 (idV t : Int), .int .i64 (cosE t)]) ∧ Below w.heap.size w w' := by
  have HBy : Hid (∀ W, Below w.heap.size w W → Calls Tryz.prog 18 #[.agg (txc t (.slice aH t.hs.length cH) (.slice aB t.bs.length cB))] W fun e w' => e = .returned (.tuple #[.string (bytS t), .int .i64 (cosE t)]) ∧ Below W.heap.size W w') := fun W h => bytes7 t aH aB cH cB W hw (hr.below h)
  have HM : Hid (TxOk t → ∀ W, Calls Tryz.prog 49 #[.string (bytS t)] W fun e w' => e = .returned (.int .u64 (idV t : Int)) ∧ Below W.heap.size W w') := fun h W => by
    rw [show bytS t = itS (txI t) from if_pos h, show idV t = mk (itS (txI t)) from if_pos h]
    exact mark _ (by have := itS_small (txI t); omega) W
  have H0 : Hid (cosE t = if TxOk t then 0 else 1) := rfl
  have H1 : Hid (¬ TxOk t → idV t = 0) := fun h => if_neg h
  clear hw hr
  obtain ⟨wr, hwr⟩ : ∃ wr, wr = w.alloc (.cells (txc t (.slice aH t.hs.length cH) (.slice aB t.bs.length cB)) 30) := ⟨_, rfl⟩
  go_enter Tryz.func19, Tryz.ntmps19
  go_upto_region 1 with fail
  rw [← hwr]
  have bX : Bk wr w.heap.size (txc t (.slice aH t.hs.length cH) (.slice aB t.bs.length cB)) 30 := by rw [hwr]; exact Bk.new _ _ _
  have HB : Hid (Below w.heap.size w wr) := by show Below _ _ _; rw [hwr]; exact (Below.refl _ _).alloc (Nat.le_refl _) _
  have HX : Hid (Bk wr w.heap.size (txc t (.slice aH t.hs.length cH) (.slice aB t.bs.length cB)) 30) := bX
  clear hwr bX
  go_wp2_with (refine wpList_load_tx rfl _ rfl rfl HX.out ?_)
  refine (HBy.out _ HB.out).mono ?_
  rintro e w1 ⟨rfl, hb1⟩
  have HB1 : Hid (Below w.heap.size w w1) := HB.out.trans (hb1.mono HB.out.size)
  clear hb1 HB HX
  by_cases hok : TxOk t
  · have e0 : cosE t = 0 := if_pos hok
    have HM1 : Hid _ := HM.out hok
    have HE : Hid (cosE t = 0) := e0
    rw [e0]
    clear e0 HM H0 H1 HBy
    generalize bytS t = s at *
    go_wp2_with fail
    refine (HM1.out _).mono ?_
    rintro e w2 ⟨rfl, hb2⟩
    go_wp2_with fail
    go_ret2
    exact ⟨by rw [HE.out]; rfl, HB1.out.trans (hb2.mono HB1.out.size)⟩
  · have e0 : cosE t = 1 := if_neg hok
    have e1 := H1.out hok
    have HE : Hid (idV t = 0 ∧ cosE t = 1) := ⟨e1, e0⟩
    rw [e0]
    clear e0 e1 HM H0 H1 HBy
    generalize bytS t = s at *
    go_wp2_with fail
    go_ret2
    exact ⟨by rw [HE.out.1, HE.out.2]; rfl, HB1.out⟩
end Go.Proofs.YtapjonmgjccpbaaGreat

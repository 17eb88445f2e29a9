/- Texts joined: RSub RPay RText. -/
import Derived.Test.YtapjonmgjccpbaaJ13
import Derived.Test.YtapjonmgjccpbaaJ0
import Derived.Test.YtapjonmgjccpbaaJ16
section
set_option linter.unusedSimpArgs false
set_option linter.unusedVariables false
namespace Go.Proofs.Ytapjonmgjccpbaa
open Go.RowKit

theorem cmpV_neg {n m : Nat} (h : ¬ m ≤ n) : cmpV n m < 0 := by rw [cmpV_less (by omega)]; decide
theorem cmpV_nonneg {n m : Nat} (h : m ≤ n) : 0 ≤ cmpV n m := by unfold cmpV; split <;> (try split) <;> omega
set_option maxHeartbeats 1000000 in
theorem rsub (n m : Nat) (hn : n < M256) (hm : m < M256) (w : World) :
    Calls Try.prog 49 #[V n, V m] w fun e w' => e = .returned (.tuple #[V (subV n m), .bool (subOk n m)]) ∧ Below w.heap.size w w' := by
  have Hn : Hid (n < M256) := hn
  have Hm : Hid (m < M256) := hm
  clear hn hm
  by_cases hle : m ≤ n
  · have hc := cmpV_nonneg hle
    have HL : Hid (m ≤ n) := hle
    clear hle
    go_enter Try.func49, Try.ntmps49
    go_wp2_with (go_at_call 21; refine (rcmp n m Hn.out Hm.out _).mono ?_; rintro e w1 ⟨rfl, hb1⟩)
    have hsz := hb1.size
    simp only [World.size_alloc] at hsz hb1
    have hA : Bk w1 w.heap.size (A4 (lb n 0) (lb n 1) (lb n 2) (lb n 3)) 26 := (((Bk.new _ _ _).alloc _).alloc _).below hb1 (by omega)
    have hB : Bk w1 (w.heap.size + 1) (A4 (lb m 0) (lb m 1) (lb m 2) (lb m 3)) 26 := ((Bk.new' _ _ _ (by simp)).alloc _).below hb1 (by omega)
    have hZ : Bk w1 (w.heap.size + 1 + 1) (A4 0 0 0 0) 26 := (Bk.new' _ _ _ (by simp)).below hb1 (by omega)
    have hb0 : Below w.heap.size w w1 := ((((Below.refl _ _).alloc (Nat.le_refl _) _).alloc (by simp) _).alloc (by simp; omega) _).trans (hb1.mono (by omega))
    clear hb1
    go_loopw [7, 8] (fun c i wr => ∃ (k : Nat) (x0 x1 x2 x3 cc : Int), k ≤ 4 ∧ c = .int .u64 cc ∧ i = .int .i64 k ∧ Bk wr w.heap.size (A4 (lb n 0) (lb n 1) (lb n 2) (lb n 3)) 26 ∧ Bk wr (w.heap.size + 1) (A4 (lb m 0) (lb m 1) (lb m 2) (lb m 3)) 26 ∧ Bk wr (w.heap.size + 1 + 1) (A4 0 0 0 0) 26 ∧ Bk wr w1.heap.size (A4 x0 x1 x2 x3) 26 ∧ Below w.heap.size w wr ∧ SubInv k n m x0 x1 x2 x3 cc) (fun _ i _ => 4 - (intOf i).toNat)
    case atStart =>
      exact ⟨0, 0, 0, 0, 0, 0, by omega, rfl, rfl, hA.alloc _, hB.alloc _, hZ.alloc _, Bk.new _ _ _, hb0.alloc (by omega) _, subInv0 n m⟩
    case round =>
      clear hA hB hZ hb0
      obtain ⟨k, x0, x1, x2, x3, cc, hk, rfl, rfl, ha, hb, hz, hx, hbl, hinv⟩ := hrel
      have hak := ha.cell k
      have hbk := hb.cell k
      have hxk := hx.cell k
      have hxf := hx.frozen k
      have hk' : k = 0 ∨ k = 1 ∨ k = 2 ∨ k = 3 ∨ k = 4 := by omega
      rcases hk' with rfl | rfl | rfl | rfl | rfl
      · simp only [List.getElem?_toArray, List.getElem?_cons_zero, List.getElem?_cons_succ] at hak hbk hxk
        go_wp2
        go_quiet (fail)
        go_wp2
        go_quiet (fail)
        go_wp2
        all_goals
          have hl := refLimbS (lb n 0) (lb m 0) cc (lb_bd _ _) (lb_bd _ _) (subInv_c hinv)
          have st := subStep0 n m x0 x1 x2 x3 cc hinv
          first | (rw [← hl.1, ← hl.2.1 (by assumption)] at st) | (rw [← hl.1, ← hl.2.2.1 (by assumption)] at st) | (rw [← hl.1, ← hl.2.2.2 (by assumption) (by assumption)] at st)
          go_roundw
          case rel => exact ⟨1, _, x1, x2, x3, _, by omega, rfl, rfl, (ha.drewN _).other (by simp <;> omega) _, (hb.drewN _).other (by simp <;> omega) _, (hz.drewN _).other (by simp <;> omega) _, (hx.drewN _).set 0 _ rfl, (bdrewN hbl _).setCell (by simp; omega) _, st⟩
          case measure => simp [intOf]
      · simp only [List.getElem?_toArray, List.getElem?_cons_zero, List.getElem?_cons_succ] at hak hbk hxk
        go_wp2
        go_quiet (fail)
        go_wp2
        go_quiet (fail)
        go_wp2
        all_goals
          have hl := refLimbS (lb n 1) (lb m 1) cc (lb_bd _ _) (lb_bd _ _) (subInv_c hinv)
          have st := subStep1 n m x0 x1 x2 x3 cc hinv
          first | (rw [← hl.1, ← hl.2.1 (by assumption)] at st) | (rw [← hl.1, ← hl.2.2.1 (by assumption)] at st) | (rw [← hl.1, ← hl.2.2.2 (by assumption) (by assumption)] at st)
          go_roundw
          case rel => exact ⟨2, x0, _, x2, x3, _, by omega, rfl, rfl, (ha.drewN _).other (by simp <;> omega) _, (hb.drewN _).other (by simp <;> omega) _, (hz.drewN _).other (by simp <;> omega) _, (hx.drewN _).set 1 _ rfl, (bdrewN hbl _).setCell (by simp; omega) _, st⟩
          case measure => simp [intOf]
      · simp only [List.getElem?_toArray, List.getElem?_cons_zero, List.getElem?_cons_succ] at hak hbk hxk
        go_wp2
        go_quiet (fail)
        go_wp2
        go_quiet (fail)
        go_wp2
        all_goals
          have hl := refLimbS (lb n 2) (lb m 2) cc (lb_bd _ _) (lb_bd _ _) (subInv_c hinv)
          have st := subStep2 n m x0 x1 x2 x3 cc hinv
          first | (rw [← hl.1, ← hl.2.1 (by assumption)] at st) | (rw [← hl.1, ← hl.2.2.1 (by assumption)] at st) | (rw [← hl.1, ← hl.2.2.2 (by assumption) (by assumption)] at st)
          go_roundw
          case rel => exact ⟨3, x0, x1, _, x3, _, by omega, rfl, rfl, (ha.drewN _).other (by simp <;> omega) _, (hb.drewN _).other (by simp <;> omega) _, (hz.drewN _).other (by simp <;> omega) _, (hx.drewN _).set 2 _ rfl, (bdrewN hbl _).setCell (by simp; omega) _, st⟩
          case measure => simp [intOf]
      · simp only [List.getElem?_toArray, List.getElem?_cons_zero, List.getElem?_cons_succ] at hak hbk hxk
        go_wp2
        go_quiet (fail)
        go_wp2
        go_quiet (fail)
        go_wp2
        all_goals
          have hl := refLimbS (lb n 3) (lb m 3) cc (lb_bd _ _) (lb_bd _ _) (subInv_c hinv)
          have st := subStep3 n m x0 x1 x2 x3 cc hinv
          first | (rw [← hl.1, ← hl.2.1 (by assumption)] at st) | (rw [← hl.1, ← hl.2.2.1 (by assumption)] at st) | (rw [← hl.1, ← hl.2.2.2 (by assumption) (by assumption)] at st)
          go_roundw
          case rel => exact ⟨4, x0, x1, x2, _, _, by omega, rfl, rfl, (ha.drewN _).other (by simp <;> omega) _, (hb.drewN _).other (by simp <;> omega) _, (hz.drewN _).other (by simp <;> omega) _, (hx.drewN _).set 3 _ rfl, (bdrewN hbl _).setCell (by simp; omega) _, st⟩
          case measure => simp [intOf]
      · have hx0 := hx.cell 0
        have hx1 := hx.cell 1
        have hx2 := hx.cell 2
        have hx3 := hx.cell 3
        have hz0 := hz.cell 0
        have hz1 := hz.cell 1
        have hz2 := hz.cell 2
        have hz3 := hz.cell 3
        have hf0 := hz.frozen 0
        have hf1 := hz.frozen 1
        have hf2 := hz.frozen 2
        have hf3 := hz.frozen 3
        simp only [List.getElem?_toArray, List.getElem?_cons_zero, List.getElem?_cons_succ] at hx0 hx1 hx2 hx3 hz0 hz1 hz2 hz3
        clear hak hbk hxk hxf
        have he := subEnd n m Hn.out Hm.out _ _ _ _ _ hinv
        rcases he with ⟨rfl, hlt, rfl, rfl, rfl, rfl⟩ | ⟨rfl, hge⟩
        · clear hlt
          go_wp2
          refine bodyPost_ret (v := .tuple #[V (n - m), .bool true]) ?_ rfl ⟨?_, ?_⟩
          · simp [results, Try.results49, go_sem, hz0, hz1, hz2, hz3]
          · have HL' := HL.out
            simp [subV, subOk, HL']
          · exact (((hbl.setCell (by simp; omega) _).setCell (by simp; omega) _).setCell (by simp; omega) _).setCell (by simp; omega) _
        · exact absurd HL.out hge
  · have hc := cmpV_neg hle
    have HL : Hid (¬ m ≤ n) := hle
    clear hle
    go_enter Try.func49, Try.ntmps49
    go_wp2_with (go_at_call 21; refine (rcmp n m Hn.out Hm.out _).mono ?_; rintro e w1 ⟨rfl, hb1⟩; have hsz := hb1.size; simp only [World.size_alloc] at hsz hb1; have hz : Bk w1 (w.heap.size + 1 + 1) (A4 0 0 0 0) 26 := (Bk.new' _ _ _ (by simp)).below hb1 (by omega); have hz0 := hz.cell 0; have hz1 := hz.cell 1; have hz2 := hz.cell 2; have hz3 := hz.cell 3; have hf0 := hz.frozen 0; have hf1 := hz.frozen 1; have hf2 := hz.frozen 2; have hf3 := hz.frozen 3; simp only [List.getElem?_toArray, List.getElem?_cons_zero, List.getElem?_cons_succ] at hz0 hz1 hz2 hz3)
    have hb0 : Below w.heap.size w w1 := ((((Below.refl _ _).alloc (Nat.le_refl _) _).alloc (by simp) _).alloc (by simp; omega) _).trans (hb1.mono (by omega))
    refine bodyPost_ret (v := .tuple #[.agg (A4 0 0 0 0), .bool false]) ?_ rfl ⟨?_, ?_⟩
    · simp [results, Try.results49, go_sem, hz0, hz1, hz2, hz3]
    · have HL' := HL.out
      simp [subV, subOk, HL', lb_zero]
    · exact (((hb0.setCell (by simp; omega) _).setCell (by simp; omega) _).setCell (by simp; omega) _).setCell (by simp; omega) _
end Go.Proofs.Ytapjonmgjccpbaa
end
section
set_option linter.unusedSimpArgs false
set_option linter.unusedVariables false
namespace Go.Proofs.Ytapjonmgjccpbaa
open Go.RowKit

/-! tarnref7.Pays. -/
def payOk (t : TX) (b : Nat) : Bool := decide (b ≤ t.ca)
def payV (t : TX) (b : Nat) : Nat := if b ≤ t.ca then (if t.ti < t.ca - b then t.ti else t.ca - b) else 0
set_option maxRecDepth 100000 in
set_option maxHeartbeats 4000000 in
theorem rpays (t : TX) (u v : Value) (b : Nat) (w : World) (hw : TXw t) (hb : b < M256) :
    Calls Try.prog 19 #[.agg (txc t u v), V b] w fun e w' => e = .returned (.tuple #[V (payV t b), .bool (payOk t b)]) ∧ Below w.heap.size w w' := by
  have hca := hw.ca
  have hti := hw.ti
  have HS : Hid (∀ w, Calls Try.prog 49 #[V t.ca, V b] w fun e w' => e = .returned (.tuple #[V (subV t.ca b), .bool (subOk t.ca b)]) ∧ Below w.heap.size w w') := fun w => rsub _ _ hw.ca hb w
  have HC : Hid (∀ d, d < M256 → ∀ w, Calls Try.prog 21 #[V t.ti, V d] w fun e w' => e = .returned (.int .i64 (cmpV t.ti d)) ∧ Below w.heap.size w w') := fun d hd w => rcmp _ _ hti hd w
  clear hw
  obtain ⟨wr, hwr⟩ : ∃ wr, wr = ((w.alloc (.cells (txc t u v) 30)).alloc (.cells (A4 (lb (b) 0) (lb (b) 1) (lb (b) 2) (lb (b) 3)) 26)).alloc (.cells (A4 0 0 0 0) 26) := ⟨_, rfl⟩
  go_enter Try.func19, Try.ntmps19
  go_upto_region 1 with fail
  rw [← hwr]
  have bX : Bk wr w.heap.size (txc t u v) 30 := by rw [hwr]; exact ((Bk.new _ _ _).alloc _).alloc _
  have bY : Bk wr (w.heap.size + 1) (A4 (lb (b) 0) (lb (b) 1) (lb (b) 2) (lb (b) 3)) 26 := by rw [hwr]; exact (Bk.new' _ _ _ (by simp)).alloc _
  have bR : Bk wr (w.heap.size + 1 + 1) (A4 0 0 0 0) 26 := by rw [hwr]; exact Bk.new' _ _ _ (by simp)
  have hB : Below w.heap.size w wr := by rw [hwr]; exact (((Below.refl _ _).alloc (Nat.le_refl _) _).alloc (by simp) _).alloc (by simp; omega) _
  clear hwr
  obtain ⟨X, hX⟩ : ∃ X, X = w.heap.size := ⟨_, rfl⟩
  have HX : Hid (X = w.heap.size) := hX
  rw [← hX] at bX bY bR ⊢
  have lX := bX.lt
  have lR := bR.lt
  have HB : Hid (Below w.heap.size w wr) := hB
  have HBX : Hid (Bk wr X (txc t u v) 30 ∧ Bk wr (X + 1 + 1) (A4 0 0 0 0) 26) := ⟨bX, bR⟩
  have x6 := bX.cell 6
  have x7 := bX.cell 7
  have x8 := bX.cell 8
  have x9 := bX.cell 9
  simp only [List.getElem?_toArray, List.getElem?_cons_zero, List.getElem?_cons_succ] at x6 x7 x8 x9
  have y0 := bY.cell 0
  have y1 := bY.cell 1
  have y2 := bY.cell 2
  have y3 := bY.cell 3
  simp only [List.getElem?_toArray, List.getElem?_cons_zero, List.getElem?_cons_succ] at y0 y1 y2 y3
  clear bX bY bR hB hX
  go_wp2_with fail
  refine (HS.out _).mono ?_
  rintro e w1 ⟨rfl, hb1⟩
  have bX1 := HBX.out.1.below hb1 lX
  have bR1 := HBX.out.2.below hb1 lR
  have lX1 := bX1.lt
  have lR1 := bR1.lt
  have HB1 : Hid (Below w.heap.size w w1) := HB.out.trans (hb1.mono HB.out.size)
  have HBX1 : Hid (Bk w1 X (txc t u v) 30 ∧ Bk w1 (X + 1 + 1) (A4 0 0 0 0) 26) := ⟨bX1, bR1⟩
  clear x6 x7 x8 x9 y0 y1 y2 y3 HB HBX hb1
  by_cases hle : b ≤ t.ca
  · rw [show subOk t.ca b = true from decide_eq_true hle, show subV t.ca b = t.ca - b from if_pos hle]
    have HC2 : Hid (∀ w, Calls Try.prog 21 #[V t.ti, V (t.ca - b)] w fun e w' => e = .returned (.int .i64 (cmpV t.ti (t.ca - b))) ∧ Below w.heap.size w w') := fun w => HC.out _ (by omega) w
    have HV : Hid (payV t b = (if t.ti < t.ca - b then t.ti else t.ca - b) ∧ payOk t b = true) := ⟨if_pos hle, decide_eq_true hle⟩
    generalize hd : t.ca - b = d at *
    have bD := Bk.new w1 (A4 (lb (d) 0) (lb (d) 1) (lb (d) 2) (lb (d) 3)) 26
    have bX2 := bX1.alloc (.cells (A4 (lb (d) 0) (lb (d) 1) (lb (d) 2) (lb (d) 3)) 26)
    have bR2 := bR1.alloc (.cells (A4 (lb (d) 0) (lb (d) 1) (lb (d) 2) (lb (d) 3)) 26)
    have hB2 : Below w.heap.size w (w1.alloc (.cells (A4 (lb (d) 0) (lb (d) 1) (lb (d) 2) (lb (d) 3)) 26)) := HB1.out.alloc HB1.out.size _
    obtain ⟨w2, hw2⟩ : ∃ w2, w2 = w1.alloc (.cells (A4 (lb (d) 0) (lb (d) 1) (lb (d) 2) (lb (d) 3)) 26) := ⟨_, rfl⟩
    obtain ⟨D, hD⟩ : ∃ D, D = w1.heap.size := ⟨_, rfl⟩
    have HW : Hid (w2 = w1.alloc (.cells (A4 (lb (d) 0) (lb (d) 1) (lb (d) 2) (lb (d) 3)) 26) ∧ D = w1.heap.size) := ⟨hw2, hD⟩
    rw [← hw2] at bD bX2 bR2 hB2
    rw [← hD] at bD
    clear hw2 hD bX1 bR1
    go_upto_region 4 with fail
    rw [← HW.out.1, ← HW.out.2]
    have hDX : X + 1 + 1 < D := by rw [HW.out.2]; exact lR1
    have x2 := bX2.cell 2
    have x3 := bX2.cell 3
    have x4 := bX2.cell 4
    have x5 := bX2.cell 5
    simp only [List.getElem?_toArray, List.getElem?_cons_zero, List.getElem?_cons_succ] at x2 x3 x4 x5
    have d0 := bD.cell 0
    have d1 := bD.cell 1
    have d2 := bD.cell 2
    have d3 := bD.cell 3
    simp only [List.getElem?_toArray, List.getElem?_cons_zero, List.getElem?_cons_succ] at d0 d1 d2 d3
    have HB2 : Hid (Below w.heap.size w w2 ∧ Bk w2 X (txc t u v) 30 ∧ Bk w2 (X + 1 + 1) (A4 0 0 0 0) 26 ∧ Bk w2 D (A4 (lb (d) 0) (lb (d) 1) (lb (d) 2) (lb (d) 3)) 26) := ⟨hB2, bX2, bR2, bD⟩
    have lX2 := bX2.lt
    have lR2 := bR2.lt
    have lD2 := bD.lt
    clear bD bX2 bR2 hB2 HW HB1 HBX1 lX1 lR1
    go_wp2_with fail
    refine (HC2.out _).mono ?_
    rintro e w3 ⟨rfl, hb3⟩
    have bX3 := HB2.out.2.1.below hb3 lX2
    have bR3 := HB2.out.2.2.1.below hb3 lR2
    have bD3 := HB2.out.2.2.2.below hb3 lD2
    have HB3 : Hid (Below w.heap.size w w3) := HB2.out.1.trans (hb3.mono HB2.out.1.size)
    have lR3 := bR3.lt
    clear x2 x3 x4 x5 d0 d1 d2 d3 hb3 HB2
    have r0 := bR3.cell 0
    have rf0 := bR3.frozen 0
    have r1 := bR3.cell 1
    have rf1 := bR3.frozen 1
    have r2 := bR3.cell 2
    have rf2 := bR3.frozen 2
    have r3 := bR3.cell 3
    have rf3 := bR3.frozen 3
    simp only [List.getElem?_toArray, List.getElem?_cons_zero, List.getElem?_cons_succ] at r0 r1 r2 r3
    by_cases hlt : t.ti < d
    · have hc : cmpV t.ti d < 0 := by unfold cmpV; rw [if_pos hlt]; omega
      rw [if_pos hlt] at HV
      have x2 := bX3.cell 2
      have x3 := bX3.cell 3
      have x4 := bX3.cell 4
      have x5 := bX3.cell 5
      simp only [List.getElem?_toArray, List.getElem?_cons_zero, List.getElem?_cons_succ] at x2 x3 x4 x5
      generalize cmpV t.ti d = cv at *
      clear bX3 bR3 bD3
      go_wp2_with fail
      refine bodyPost_ret (v := .tuple #[V t.ti, .bool true]) ?_ rfl ⟨by rw [HV.out.1, HV.out.2], ?_⟩
      · simp [results, Try.results19, go_sem, r0, r1, r2, r3]
      · exact set4_below HB3.out (by rw [HX.out]; omega) _ _ _ _
    · have hc : ¬ cmpV t.ti d < 0 := by unfold cmpV; rw [if_neg hlt]; split <;> omega
      rw [if_neg hlt] at HV
      have d0 := bD3.cell 0
      have d1 := bD3.cell 1
      have d2 := bD3.cell 2
      have d3 := bD3.cell 3
      simp only [List.getElem?_toArray, List.getElem?_cons_zero, List.getElem?_cons_succ] at d0 d1 d2 d3
      generalize cmpV t.ti d = cv at *
      clear bX3 bR3 bD3
      go_wp2_with fail
      refine bodyPost_ret (v := .tuple #[V d, .bool true]) ?_ rfl ⟨by rw [HV.out.1, HV.out.2], ?_⟩
      · simp [results, Try.results19, go_sem, r0, r1, r2, r3]
      · exact set4_below HB3.out (by rw [HX.out]; omega) _ _ _ _
  · rw [show subOk t.ca b = false from decide_eq_false hle, show subV t.ca b = 0 from if_neg hle, V_zero]
    have HV : Hid (payV t b = 0 ∧ payOk t b = false) := ⟨if_neg hle, decide_eq_false hle⟩
    have r0 := bR1.cell 0
    have rf0 := bR1.frozen 0
    have r1 := bR1.cell 1
    have rf1 := bR1.frozen 1
    have r2 := bR1.cell 2
    have rf2 := bR1.frozen 2
    have r3 := bR1.cell 3
    have rf3 := bR1.frozen 3
    simp only [List.getElem?_toArray, List.getElem?_cons_zero, List.getElem?_cons_succ] at r0 r1 r2 r3
    have bQ : Hid (Bk (((((w1.setCell ⟨X + 1 + 1, 0, none⟩ (.int .u64 0)).setCell ⟨X + 1 + 1, 1, none⟩ (.int .u64 0)).setCell ⟨X + 1 + 1, 2, none⟩ (.int .u64 0)).setCell ⟨X + 1 + 1, 3, none⟩ (.int .u64 0)).alloc (.cells (A4 0 0 0 0) 26)) (X + 1 + 1) (A4 0 0 0 0) 26) := (set4_Bk bR1 _ _ _ _).alloc _
    clear bX1 bR1
    go_wp2_with fail
    have s0 := bQ.out.cell 0
    have s1 := bQ.out.cell 1
    have s2 := bQ.out.cell 2
    have s3 := bQ.out.cell 3
    simp only [List.getElem?_toArray, List.getElem?_cons_zero, List.getElem?_cons_succ] at s0 s1 s2 s3
    have HBz := set4_below HB1.out (b := X + 1 + 1) (by rw [HX.out]; omega) (.int .u64 0) (.int .u64 0) (.int .u64 0) (.int .u64 0)
    refine bodyPost_ret (v := .tuple #[V 0, .bool false]) ?_ rfl ⟨by rw [HV.out.1, HV.out.2], HBz.alloc HBz.size _⟩
    rw [V_zero]
    simp [results, Try.results19, go_sem, s0, s1, s2, s3]
end Go.Proofs.Ytapjonmgjccpbaa
end
section
set_option linter.unusedSimpArgs false
set_option linter.unusedVariables false
namespace Go.Proofs.Ytapjonmgjccpbaa
open Go.RowKit

/-! tarnref1.Text. -/
set_option maxRecDepth 100000 in
set_option maxHeartbeats 1000000 in
theorem rtext (n : Nat) (hn : n < M256) (w : World) :
    Calls Try.prog 61 #[V n] w fun e w' => e = .returned (.string (strOfNums (tnums n))) ∧ Below w.heap.size w w' := by
  have hL := tlen_le n hn
  have HL := tnums_length n
  have HN : Hid (n < M256) := hn
  clear hn
  obtain ⟨i0, hi, hz0, hz1, hz2⟩ := info_of info5
  go_enter Try.func61, Try.ntmps61
  go_wp2
  go_loopw [3, 4] (fun b i wr => ∃ (k : Nat), k ≤ 32 ∧ i = .int .i64 ((k : Int) - 1) ∧ Bk wr w.heap.size (A4 (lb n 0) (lb n 1) (lb n 2) (lb n 3)) 26 ∧ wr.ownsRow (w.heap.size + 1) 5 1 b (tlen n - k) (((tnums n).take (tlen n - k)).map (Value.int .u8)) ∧ Below w.heap.size w wr) (fun _ i _ => (intOf i + 1).toNat)
  case atStart =>
    have e : tlen n - 32 = 0 := by omega
    refine ⟨32, by omega, rfl, Bk.new _ _ _, ?_, (Below.refl _ _).alloc (Nat.le_refl _) _⟩
    rw [e]
    exact ⟨rfl, .inl ⟨rfl, rfl⟩⟩
  case round =>
    obtain ⟨k, hk, rfl, ha, hown, hbl⟩ := hrel
    have hsz := ha.lt
    have hsz2 := hbl.size
    cases k with
    | zero =>
      rw [Nat.sub_zero, List.take_of_length_le (by omega)] at hown
      rcases hown.2 with ⟨rfl, hz⟩ | ⟨g, cap, cur, rfl, hg, hh, h4, h5, h6, h7⟩
      · have hcv := run_convert_bytes_nil (P := Try.prog) wr 51 5 Try.underlying51 Try.underlying5 0 0 9 Try.underlying9
        go_wp2
        go_ret
        refine ⟨?_, hbl⟩
        have : tnums n = [] := List.length_eq_zero_iff.1 (by omega)
        rw [this]; rfl
      · have hcv := run_convert_bytes_arg (P := Try.prog) wr 51 5 Try.underlying51 Try.underlying5 g 0 (tlen n) cap (tnums n) (tnums_length n) (fun i hi => by
          rw [Nat.zero_add]
          have h8 : (cur.toList.take (tlen n * 1))[i]? = some (Value.int .u8 ((tnums n).getD i 0)) := by
            rw [h7, List.getElem?_map, List.getElem?_eq_getElem (by omega), List.getD_eq_getElem?_getD, List.getElem?_eq_getElem (by omega)]
            rfl
          rw [List.getElem?_take] at h8
          split at h8
          · simp only [World.cell?, hh]; simpa using h8
          · simp at h8) 9 Try.underlying9
        go_wp2
        go_ret
        exact ⟨rfl, hbl⟩
    | succ i =>
      have hak := lb_cells ha (i / 8) (by omega)
      have hbe := by8_eq n i (by omega)
      have e : ((i + 1 : Nat) : Int) - 1 = (i : Int) := by omega
      rw [e]
      clear e
      generalize hX : lb n (i / 8) / 2 ^ (8 * (i % 8)) % 256 = X at hbe
      have HX := hX
      by_cases hit : i < tlen n
      · have hst := tnums_take n i hit
        rw [← hbe] at hst
        have HST : Hid (_ = _) := hst
        have hor : (X != 0) = true ∨ (X != 0) = false ∧ (0 : Int) < ((tlen n - (i + 1) : Nat) : Int) := by
          by_cases e : i = tlen n - 1
          · left
            have h0 : n ≠ 0 := by rintro rfl; simp [tlen, bl] at hit
            have := (top_byte n h0).2
            rw [← e, ← hbe] at this
            simpa using this
          · cases hb : (X != 0)
            · right; exact ⟨rfl, by omega⟩
            · left; rfl
        clear hst hbe HL HX
        obtain ⟨ad, cap, rfl⟩ : ∃ ad cap, u3 = Value.slice ad (tlen n - (i + 1)) cap := by
          rcases hown.2 with ⟨rfl, hz⟩ | ⟨g, cap, cur, rfl, _⟩
          · exact ⟨none, 0, by rw [hz]⟩
          · exact ⟨_, cap, rfl⟩
        rcases hor with hx1 | ⟨hx1, hx2⟩
        all_goals
          go_wp2_with (at_builtin; refine wpList_append_own _ rfl _ _ 51 rfl (w.heap.size + 1) 5 i0 (.int .u8 0) 1 1 Try.underlying51 hi hz0 hz1 hz2 rfl (by decide) _ (tlen n - (i + 1)) _ rfl (hown.alloc _) ⟨wr.heap.size, 0, none⟩ 1 1 [.int .u8 X] rfl rfl (cell_one_new _ _ _) (by simp [Value.oneCell']) (by unfold maxLen; omega) (by omega) (by simp; omega) ?_; intro v1 w1 hown1 hgrow1 hnil1)
          go_roundw
          case rel =>
            refine ⟨i, by omega, rfl, ?_, ?_, ?_⟩
            · exact own_kept (ha.alloc _) hgrow1 (by simp; omega) (fun e => by have := owns_ge hown e.symm; omega)
            · rw [HST.out, List.map_append, show tlen n - i = tlen n - (i + 1) + 1 by omega]
              exact hown1
            · exact (hbl.alloc hsz2 _).grown hgrow1 (by simp; omega) (fun j hj => by have := owns_ge hown hj; omega)
          case measure => simp [intOf]
      · have hX0 : X = 0 := by rw [hbe]; exact high_byte n i (by omega)
        subst hX0
        have e0 : tlen n - (i + 1) = 0 := by omega
        rw [e0] at hown
        clear hbe HL HX
        obtain ⟨ad, cap, rfl⟩ : ∃ ad cap, u3 = Value.slice ad 0 cap := by
          rcases hown.2 with ⟨rfl, hz⟩ | ⟨g, cap, cur, rfl, _⟩
          · exact ⟨none, 0, rfl⟩
          · exact ⟨_, cap, rfl⟩
        go_wp2
        go_roundw
        case rel => exact ⟨i, by omega, rfl, ha, by rw [show tlen n - i = 0 by omega]; exact hown, hbl⟩
        case measure => simp [intOf]
end Go.Proofs.Ytapjonmgjccpbaa
end

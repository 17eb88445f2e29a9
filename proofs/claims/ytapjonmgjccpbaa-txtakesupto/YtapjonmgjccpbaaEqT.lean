import Derived.Test.YtapjonmgjccpbaaJ0
import Derived.Test.YtapjonmgjccpbaaJ20
set_option linter.unusedSimpArgs false
set_option linter.unusedVariables false
namespace Go.Proofs.Ytapjonmgjccpbaa
open Go.RowKit

/-! tarnref0.EqTx. -/
theorem TX.ext' {t s : TX} (h0 : t.fr = s.fr) (h1 : t.no = s.no) (h2 : t.ti = s.ti) (h3 : t.ca = s.ca) (h4 : t.bc = s.bc) (h5 : t.va = s.va) (h6 : t.ga = s.ga) (h7 : t.hs = s.hs) (h8 : t.bs = s.bs) : t = s := by
  cases t; cases s; simp_all
theorem eql_num (a b : Nat) (ha : a < M256) (hb : b < M256) (w : World) : (binOp .eql 26 (V a) (V b)).run Try.prog w = .ok (.bool (decide (a = b))) w := by
  rw [eql26]
  congr 2
  by_cases h : a = b
  · subst h; rw [decide_eq_true rfl]; simp [eq4]
  · rw [decide_eq_false h]
    unfold eq4
    rw [beq_eq_false_iff_ne]
    intro e
    simp at e
    apply h
    have h1 := lb_val a ha
    have h2 := lb_val b hb
    rw [e.1, e.2.1, e.2.2.1, e.2.2.2, h2] at h1
    omega
set_option maxRecDepth 100000 in
set_option maxHeartbeats 4000000 in
theorem eqTx (t s : TX) (aH aB eH eB : Option Addr) (cH cB dH dB : Nat) (w : World) (ht : TXw t) (hs : TXw s) (hr : RT w t (.slice aH t.hs.length cH) (.slice aB t.bs.length cB)) (hq : RT w s (.slice eH s.hs.length dH) (.slice eB s.bs.length dB)) :
    Calls Try.prog 14 #[.agg (txc t (.slice aH t.hs.length cH) (.slice aB t.bs.length cB)), .agg (txc s (.slice eH s.hs.length dH) (.slice eB s.bs.length dB))] w fun e w' => (∃ c : Bool, e = .returned (.bool c) ∧ (c = true ↔ t = s)) ∧ Below w.heap.size w w' := by
  have HE1 : Hid (∀ W, Below w.heap.size w W → Calls Try.prog 43 #[.slice aH t.hs.length cH, .slice eH s.hs.length dH] W fun r w' => r = .returned (.bool (decide (t.hs = s.hs))) ∧ Below W.heap.size W w') := fun W h => eqMarks _ _ t.hs s.hs W (hr.1.below h) (hq.1.below h)
  have HE2 : Hid (∀ W, Below w.heap.size w W → Calls Try.prog 44 #[.slice aB t.bs.length cB, .slice eB s.bs.length dB] W fun r w' => r = .returned (.bool (decide (t.bs = s.bs))) ∧ Below W.heap.size W w') := fun W h => eqStrings _ _ t.bs s.bs W (hr.2.below h) (hq.2.below h)
  have HT : Hid (TXw t ∧ TXw s) := ⟨ht, hs⟩
  obtain ⟨wr, hwr⟩ : ∃ wr, wr = (w.alloc (.cells (txc t (.slice aH t.hs.length cH) (.slice aB t.bs.length cB)) 30)).alloc (.cells (txc s (.slice eH s.hs.length dH) (.slice eB s.bs.length dB)) 30) := ⟨_, rfl⟩
  clear ht hs hr hq
  go_enter Try.func14, Try.ntmps14
  go_upto_region 1 with fail
  rw [← hwr]
  have bX : Bk wr w.heap.size (txc t (.slice aH t.hs.length cH) (.slice aB t.bs.length cB)) 30 := by rw [hwr]; exact (Bk.new _ _ _).alloc _
  have bY : Bk wr (w.heap.size + 1) (txc s (.slice eH s.hs.length dH) (.slice eB s.bs.length dB)) 30 := by rw [hwr]; exact Bk.new' _ _ _ (by simp)
  have HB : Hid (Below w.heap.size w wr) := by show Below _ _ _; rw [hwr]; exact ((Below.refl _ _).alloc (Nat.le_refl _) _).alloc (by simp) _
  clear hwr
  obtain ⟨X, hX⟩ : ∃ X, X = w.heap.size := ⟨_, rfl⟩
  rw [← hX] at bX bY ⊢
  clear hX
  have lX := bX.lt
  have lY := bY.lt
  have x0 := bX.cell 0
  have x1 := bX.cell 1
  have x2 := bX.cell 2
  have x3 := bX.cell 3
  have x4 := bX.cell 4
  have x5 := bX.cell 5
  have x6 := bX.cell 6
  have x7 := bX.cell 7
  have x8 := bX.cell 8
  have x9 := bX.cell 9
  have x10 := bX.cell 10
  have x11 := bX.cell 11
  have x12 := bX.cell 12
  have x13 := bX.cell 13
  have x14 := bX.cell 14
  have x15 := bX.cell 15
  have x16 := bX.cell 16
  have x17 := bX.cell 17
  have x18 := bX.cell 18
  have x19 := bX.cell 19
  have x20 := bX.cell 20
  simp only [List.getElem?_toArray, List.getElem?_cons_zero, List.getElem?_cons_succ] at x0 x1 x2 x3 x4 x5 x6 x7 x8 x9 x10 x11 x12 x13 x14 x15 x16 x17 x18 x19 x20
  have y0 := bY.cell 0
  have y1 := bY.cell 1
  have y2 := bY.cell 2
  have y3 := bY.cell 3
  have y4 := bY.cell 4
  have y5 := bY.cell 5
  have y6 := bY.cell 6
  have y7 := bY.cell 7
  have y8 := bY.cell 8
  have y9 := bY.cell 9
  have y10 := bY.cell 10
  have y11 := bY.cell 11
  have y12 := bY.cell 12
  have y13 := bY.cell 13
  have y14 := bY.cell 14
  have y15 := bY.cell 15
  have y16 := bY.cell 16
  have y17 := bY.cell 17
  have y18 := bY.cell 18
  have y19 := bY.cell 19
  have y20 := bY.cell 20
  simp only [List.getElem?_toArray, List.getElem?_cons_zero, List.getElem?_cons_succ] at y0 y1 y2 y3 y4 y5 y6 y7 y8 y9 y10 y11 y12 y13 y14 y15 y16 y17 y18 y19 y20
  have HX : Hid (Bk wr X (txc t (.slice aH t.hs.length cH) (.slice aB t.bs.length cB)) 30 ∧ Bk wr (X + 1) (txc s (.slice eH s.hs.length dH) (.slice eB s.bs.length dB)) 30) := ⟨bX, bY⟩
  clear bX bY
  by_cases hfr : t.fr = s.fr
  · have qfr : (t.fr == s.fr) = true := by rw [beq_iff_eq]; exact hfr
    have Hfr : Hid (t.fr = s.fr) := hfr
    clear hfr
    by_cases hno : t.no = s.no
    · have qno : (t.no == s.no) = true := by rw [beq_iff_eq]; exact hno
      have Hno : Hid (t.no = s.no) := hno
      clear hno
      by_cases hti : t.ti = s.ti
      · have qti : ∀ w, (binOp .eql 26 (V t.ti) (V s.ti)).run Try.prog w = .ok (.bool true) w := fun w => by rw [eql_num _ _ HT.out.1.ti HT.out.2.ti, decide_eq_true hti]
        have Hti : Hid (t.ti = s.ti) := hti
        clear hti
        by_cases hca : t.ca = s.ca
        · have qca : ∀ w, (binOp .eql 26 (V t.ca) (V s.ca)).run Try.prog w = .ok (.bool true) w := fun w => by rw [eql_num _ _ HT.out.1.ca HT.out.2.ca, decide_eq_true hca]
          have Hca : Hid (t.ca = s.ca) := hca
          clear hca
          by_cases hbc : t.bc = s.bc
          · have qbc : ∀ w, (binOp .eql 26 (V t.bc) (V s.bc)).run Try.prog w = .ok (.bool true) w := fun w => by rw [eql_num _ _ HT.out.1.bc HT.out.2.bc, decide_eq_true hbc]
            have Hbc : Hid (t.bc = s.bc) := hbc
            clear hbc
            by_cases hva : t.va = s.va
            · have qva : ∀ w, (binOp .eql 26 (V t.va) (V s.va)).run Try.prog w = .ok (.bool true) w := fun w => by rw [eql_num _ _ HT.out.1.va HT.out.2.va, decide_eq_true hva]
              have Hva : Hid (t.va = s.va) := hva
              clear hva
              by_cases hga : t.ga = s.ga
              · have qga : (t.ga == s.ga) = true := by rw [beq_iff_eq]; exact hga
                have Hga : Hid (t.ga = s.ga) := hga
                clear hga
                go_wp2_with fail
                refine (HE1.out _ HB.out).mono ?_
                rintro e w1 ⟨rfl, hb1⟩
                have bX1 := HX.out.1.below hb1 lX
                have bY1 := HX.out.2.below hb1 lY
                replace HB : Hid (Below w.heap.size w w1) := HB.out.trans (hb1.mono HB.out.size)
                clear x0 y0 x1 y1 x2 y2 x3 y3 x4 y4 x5 y5 x6 y6 x7 y7 x8 y8 x9 y9 x10 y10 x11 y11 x12 y12 x13 y13 x14 y14 x15 y15 x16 y16 x17 y17 x18 y18 x19 y19 x20 y20
                have x20 := bX1.cell 20
                simp only [List.getElem?_toArray, List.getElem?_cons_zero, List.getElem?_cons_succ] at x20
                have y20 := bY1.cell 20
                simp only [List.getElem?_toArray, List.getElem?_cons_zero, List.getElem?_cons_succ] at y20
                clear bX1 bY1 hb1
                by_cases hhs : t.hs = s.hs
                · rw [decide_eq_true hhs]
                  have Hhs : Hid (t.hs = s.hs) := hhs
                  clear hhs
                  go_wp2_with fail
                  refine (HE2.out _ HB.out).mono ?_
                  rintro e w2 ⟨rfl, hb2⟩
                  replace HB : Hid (Below w.heap.size w w2) := HB.out.trans (hb2.mono HB.out.size)
                  have HD : Hid (decide (t.bs = s.bs) = true ↔ t = s) := by
                    show _ ↔ _
                    rw [decide_eq_true_iff]
                    exact ⟨fun h => TX.ext' Hfr.out Hno.out Hti.out Hca.out Hbc.out Hva.out Hga.out Hhs.out h, fun h => by rw [h]⟩
                  generalize decide (t.bs = s.bs) = d at *
                  go_wp2_with fail
                  go_ret
                  exact ⟨⟨d, rfl, HD.out⟩, HB.out⟩
                · rw [decide_eq_false hhs]
                  have HN : Hid (¬ t = s) := fun h => hhs (by rw [h])
                  clear hhs
                  go_wp2_with fail
                  go_ret
                  exact ⟨⟨false, rfl, by simp [HN.out]⟩, HB.out⟩
              · have qga : (t.ga == s.ga) = false := by rw [beq_eq_false_iff_ne]; exact hga
                have HN : Hid (¬ t = s) := fun h => hga (by rw [h])
                clear hga
                go_wp2_with fail
                go_ret
                exact ⟨⟨false, rfl, by simp [HN.out]⟩, HB.out⟩
            · have qva : ∀ w, (binOp .eql 26 (V t.va) (V s.va)).run Try.prog w = .ok (.bool false) w := fun w => by rw [eql_num _ _ HT.out.1.va HT.out.2.va, decide_eq_false hva]
              have HN : Hid (¬ t = s) := fun h => hva (by rw [h])
              clear hva
              go_wp2_with fail
              go_ret
              exact ⟨⟨false, rfl, by simp [HN.out]⟩, HB.out⟩
          · have qbc : ∀ w, (binOp .eql 26 (V t.bc) (V s.bc)).run Try.prog w = .ok (.bool false) w := fun w => by rw [eql_num _ _ HT.out.1.bc HT.out.2.bc, decide_eq_false hbc]
            have HN : Hid (¬ t = s) := fun h => hbc (by rw [h])
            clear hbc
            go_wp2_with fail
            go_ret
            exact ⟨⟨false, rfl, by simp [HN.out]⟩, HB.out⟩
        · have qca : ∀ w, (binOp .eql 26 (V t.ca) (V s.ca)).run Try.prog w = .ok (.bool false) w := fun w => by rw [eql_num _ _ HT.out.1.ca HT.out.2.ca, decide_eq_false hca]
          have HN : Hid (¬ t = s) := fun h => hca (by rw [h])
          clear hca
          go_wp2_with fail
          go_ret
          exact ⟨⟨false, rfl, by simp [HN.out]⟩, HB.out⟩
      · have qti : ∀ w, (binOp .eql 26 (V t.ti) (V s.ti)).run Try.prog w = .ok (.bool false) w := fun w => by rw [eql_num _ _ HT.out.1.ti HT.out.2.ti, decide_eq_false hti]
        have HN : Hid (¬ t = s) := fun h => hti (by rw [h])
        clear hti
        go_wp2_with fail
        go_ret
        exact ⟨⟨false, rfl, by simp [HN.out]⟩, HB.out⟩
    · have qno : (t.no == s.no) = false := by rw [beq_eq_false_iff_ne]; exact hno
      have HN : Hid (¬ t = s) := fun h => hno (by rw [h])
      clear hno
      go_wp2_with fail
      go_ret
      exact ⟨⟨false, rfl, by simp [HN.out]⟩, HB.out⟩
  · have qfr : (t.fr == s.fr) = false := by rw [beq_eq_false_iff_ne]; exact hfr
    have HN : Hid (¬ t = s) := fun h => hfr (by rw [h])
    clear hfr
    go_wp2_with fail
    go_ret
    exact ⟨⟨false, rfl, by simp [HN.out]⟩, HB.out⟩
end Go.Proofs.Ytapjonmgjccpbaa

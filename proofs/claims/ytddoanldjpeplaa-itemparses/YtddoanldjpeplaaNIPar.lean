import Derived.Test.YtddoanldjpeplaaAsk4
import Derived.Test.YtddoanldjpeplaaHvyU
import Derived.Test.YtddoanldjpeplaaRTk
set_option linter.unusedSimpArgs false
set_option linter.unusedVariables false
namespace Go.Proofs.Ytddoanldjpeplaa
open Go.RowKit

/-! tarnlaw4.ItemParses, walked. -/
theorem tk_bad (r : Nat) (s : ByteArray) (h : (tk r s).2.2 ≠ 0) : (tk r s).1 = zIT := by
  cases r <;> unfold tk at * <;> (repeat' split) <;> simp_all
set_option maxRecDepth 100000 in
set_option maxHeartbeats 2000000 in
theorem itemParses_walk (n : Nat) (v : Value) (qs : List Q4) (w : World) (hq : Sq w n v qs) :
    Calls Try.prog 10 #[v] w fun e w' => e = .returned (.bool true) ∧ Below w.heap.size w w' := by
  obtain ⟨hlen, ad, cap, rfl, hat⟩ := hq
  have HA : Hid (∀ i (hi : i < qs.length), ∃ b off, ad = some ⟨b, off, none⟩ ∧ ∃ a l c, w.cell? ⟨b, off + i * 4, none⟩ = some (.bool qs[i].it.list) ∧ w.cell? ⟨b, off + i * 4 + 1, none⟩ = some (.string qs[i].it.text) ∧ w.cell? ⟨b, off + i * 4 + 2, none⟩ = some (.slice a l c) ∧ w.cell? ⟨b, off + i * 4 + 3, none⟩ = some (.string qs[i].s) ∧ Rd w n qs[i].it.items (.slice a l c)) := hat
  clear hat
  go_enter Try.func10, Try.ntmps10
  go_wp2_with fail
  go_loopw [3] (fun i wr => ∃ k : Nat, k ≤ qs.length ∧ k ≤ 6 ∧ i = .int .i64 k ∧ Below w.heap.size w wr) (fun i _ => qs.length - (intOf i).toNat)
  case atStart => exact ⟨0, by omega, by omega, rfl, Below.refl _ _⟩
  case round =>
    obtain ⟨k, hk, hk6, rfl, hbo⟩ := hrel
    have hszo := hbo.size
    by_cases hlt : k < qs.length
    · have hlt' : (k : Int) < (qs.length : Int) := by omega
      by_cases h6 : k < 6
      · have h6' : (k : Int) < 6 := by omega
        obtain ⟨b, off, rfl, s0, s1, s2, c0, c1, c2, c3, hrd⟩ := HA.out k hlt
        have c0 := (hbo.cell (cell_lt' c0)).trans c0
        have c1 := (hbo.cell (cell_lt' c1)).trans c1
        have c2 := (hbo.cell (cell_lt' c2)).trans c2
        have c3 := (hbo.cell (cell_lt' c3)).trans c3
        have hrd := hrd.below hbo
        generalize qs[k].it = a at *
        generalize qs[k].s = S at *
        have HRd : Hid (Rd wr n a.items (.slice s0 s1 s2)) := hrd
        clear hrd
        go_wp2_with fail
        refine (heavyU n a s0 s1 s2 S _ HRd.out).mono ?_
        rintro e w1 ⟨⟨hv, rfl, hhv⟩, hb1⟩
        cases hv with
        | true =>
          go_wp2_with fail
          go_ret
          exact ⟨rfl, hbo.trans (hb1.mono hszo)⟩
        | false =>
          have c3 := (hb1.cell (cell_lt' c3)).trans c3
          have hbw : b < w1.heap.size := cell_lt' c3
          have hsz : S.size ≤ 70000 := hhv rfl
          have H1 : Hid (Below w.heap.size w w1) := hbo.trans (hb1.mono hszo)
          clear hhv hb1 HRd c0 c1 c2
          go_wp2_with fail
          refine (iParse S w1 (by omega)).mono ?_
          rintro e w2 ⟨⟨x0, x1, x2, rfl, hrd2⟩, hb2⟩
          have c3 := (hb2.cell (cell_lt' c3)).trans c3
          have c3 := ((Below.refl _ w2).alloc (Nat.le_refl _) (.cells #[.bool (pz S).1.list, .string (pz S).1.text, .slice x0 x1 x2] 26)).cell (cell_lt' c3) |>.trans c3
          have bX := Bk.new w2 #[.bool (pz S).1.list, .string (pz S).1.text, .slice x0 x1 x2] 26
          have hb2a := hb2.alloc hb2.size (.cells #[.bool (pz S).1.list, .string (pz S).1.text, .slice x0 x1 x2] 26)
          have hrd2 := hrd2.rd.alloc (.cells #[.bool (pz S).1.list, .string (pz S).1.text, .slice x0 x1 x2] 26)
          obtain ⟨P, hPZ⟩ : ∃ P, pz S = P := ⟨_, rfl⟩
          rw [hPZ] at c3 bX hb2a hrd2 ⊢
          obtain ⟨pa, pe⟩ := P
          obtain ⟨W, hW⟩ : ∃ W, W = w2.alloc (.cells #[.bool pa.list, .string pa.text, .slice x0 x1 x2] 26) := ⟨_, rfl⟩
          obtain ⟨X, hX⟩ : ∃ X, X = w2.heap.size := ⟨_, rfl⟩
          have HW : Hid (W = w2.alloc (.cells #[.bool pa.list, .string pa.text, .slice x0 x1 x2] 26) ∧ X = w2.heap.size) := ⟨hW, hX⟩
          have H2 : Hid (Rd W 18 pa.items (.slice x0 x1 x2) ∧ pz S = (pa, pe) ∧ Below w.heap.size w W ∧ Bk W X #[.bool pa.list, .string pa.text, .slice x0 x1 x2] 26) := ⟨hW ▸ hrd2, hPZ, hW ▸ H1.out.trans (hb2a.mono H1.out.size), hW ▸ hX ▸ bX⟩
          rw [← hW] at c3
          clear hrd2 hPZ hb2 hb2a bX H1 hW hX
          go_upto_region 7 with fail
          rw [← HW.out.1, ← HW.out.2]
          clear HW
          have HT : Hid (Calls Try.prog 20 #[.string S] W fun e w' => (∃ ad l c, e = .returned (.tuple #[.agg #[.bool (tk0 S).1.list, .string (tk0 S).1.text, .slice ad l c], .int .i64 ((tk0 S).2.1 : Int), .int .i64 ((tk0 S).2.2 : Int)]) ∧ RdP w' (W.heap.size ≤ ·) 18 (tk0 S).1.items (.slice ad l c)) ∧ Below W.heap.size W w') := rTake S W (by omega)
          have HP : Hid (pz S = if (tk0 S).2.2 ≠ 0 then (zIT, (tk0 S).2.2) else if (tk0 S).2.1 < S.size then (zIT, 1) else ((tk0 S).1, 0)) := rfl
          have HZ : Hid ((tk0 S).2.2 ≠ 0 → (tk0 S).1 = zIT) := fun h => tk_bad 16 S h
          have HPR : Hid ((tk0 S).2.2 = 0 → (tk0 S).2.1 ≤ S.size) := fun h => (tk_prog 16 S h).2
          obtain ⟨T, hT⟩ : ∃ T, T = tk0 S := ⟨_, rfl⟩
          rw [← hT] at HT HP HPR HZ
          obtain ⟨t1, k1, e1⟩ := T
          clear hT
          go_wp2_with fail
          refine HT.out.mono ?_
          rintro e w3 ⟨⟨y0, y1, y2, rfl, hrd3⟩, hb3⟩
          have hcase : (e1 ≠ 0 ∧ pa = t1 ∧ pe = e1) ∨ (e1 = 0 ∧ k1 = S.size ∧ pa = t1 ∧ pe = 0) ∨ (e1 = 0 ∧ k1 < S.size ∧ pa = zIT ∧ pe = 1) := by
            have hp := HP.out
            rw [H2.out.2.1] at hp
            by_cases he : e1 = 0
            · have hk := HPR.out he
              rw [if_neg (by simpa using he)] at hp
              by_cases hk2 : k1 < S.size
              · rw [if_pos hk2] at hp
                injection hp with h1 h2
                exact .inr (.inr ⟨he, hk2, h1, h2⟩)
              · rw [if_neg hk2] at hp
                injection hp with h1 h2
                exact .inr (.inl ⟨he, by omega, h1, h2⟩)
            · rw [if_pos (by simpa using he)] at hp
              injection hp with h1 h2
              exact .inl ⟨he, h1.trans (HZ.out he).symm, h2⟩
          have c3 := (hb3.cell (cell_lt' c3)).trans c3
          have c3 := ((Below.refl _ w3).alloc (Nat.le_refl _) (.cells #[.bool t1.list, .string t1.text, .slice y0 y1 y2] 26)).cell (cell_lt' c3) |>.trans c3
          have bY := Bk.new w3 #[.bool t1.list, .string t1.text, .slice y0 y1 y2] 26
          have hb3a := hb3.alloc hb3.size (.cells #[.bool t1.list, .string t1.text, .slice y0 y1 y2] 26)
          have hrd3 := hrd3.rd.alloc (.cells #[.bool t1.list, .string t1.text, .slice y0 y1 y2] 26)
          have hYW : W.heap.size ≤ w3.heap.size := hb3.size
          obtain ⟨V, hV⟩ : ∃ V, V = w3.alloc (.cells #[.bool t1.list, .string t1.text, .slice y0 y1 y2] 26) := ⟨_, rfl⟩
          obtain ⟨Y, hY⟩ : ∃ Y, Y = w3.heap.size := ⟨_, rfl⟩
          have HV : Hid (V = w3.alloc (.cells #[.bool t1.list, .string t1.text, .slice y0 y1 y2] 26) ∧ Y = w3.heap.size) := ⟨hV, hY⟩
          have H3 : Hid (Rd V 18 t1.items (.slice y0 y1 y2) ∧ Below w.heap.size w V ∧ Bk V Y #[.bool t1.list, .string t1.text, .slice y0 y1 y2] 26 ∧ Below W.heap.size W V ∧ W.heap.size ≤ Y) := ⟨hV ▸ hrd3, hV ▸ H2.out.2.2.1.trans (hb3a.mono H2.out.2.2.1.size), hV ▸ hY ▸ bY, hV ▸ hb3a, hY ▸ hYW⟩
          rw [← hV] at c3
          clear hrd3 hb3 hb3a bY hV hY hYW HT HP HPR HZ
          obtain ⟨p0, p1, p2⟩ := box_cells (H2.out.2.2.2.below H3.out.2.2.2.1 H2.out.2.2.2.lt)
          obtain ⟨q0, q1, q2⟩ := box_cells H3.out.2.2.1
          have fy0 := H3.out.2.2.1.frozen 0
          have fy1 := H3.out.2.2.1.frozen 1
          have fy2 := H3.out.2.2.1.frozen 2
          have hbV : b < V.heap.size := cell_lt' c3
          have hXV : X < V.heap.size := cell_lt' p0
          have hYV : Y < V.heap.size := cell_lt' q0
          go_upto_region 8 with fail
          rw [← HV.out.1, ← HV.out.2]
          clear HV
          rcases hcase with ⟨he, rfl, rfl⟩ | ⟨rfl, rfl, rfl, rfl⟩ | ⟨rfl, hk2, rfl, rfl⟩
          · have he' : ((pe : Int) == 0) = false := by rw [beq_eq_false_iff_ne]; omega
            have HEq : Hid (Calls Try.prog 17 #[.agg #[.bool pa.list, .string pa.text, .slice x0 x1 x2], .agg #[.bool pa.list, .string pa.text, .slice y0 y1 y2]] V fun e w' => e = .returned (.bool true) ∧ Below V.heap.size V w') := eqSame 18 18 pa x0 y0 x1 x2 y1 y2 V (H2.out.1.below H3.out.2.2.2.1) H3.out.1
            go_wp2_with (first | (go_at_call 15; refine (num4 _ _).mono ?_; rintro e w5 ⟨rfl, rfl⟩) | (go_at_call 17; refine (HEq.out).mono ?_; rintro e w6 ⟨rfl, hb6⟩))
            go_roundw
            case rel => exact ⟨k + 1, by omega, by omega, by go_num, H3.out.2.1.trans (hb6.mono H3.out.2.1.size)⟩
            case measure => simp [intOf]; omega
          · have HEq : Hid (Calls Try.prog 17 #[.agg #[.bool pa.list, .string pa.text, .slice x0 x1 x2], .agg #[.bool pa.list, .string pa.text, .slice y0 y1 y2]] V fun e w' => e = .returned (.bool true) ∧ Below V.heap.size V w') := eqSame 18 18 pa x0 y0 x1 x2 y1 y2 V (H2.out.1.below H3.out.2.2.2.1) H3.out.1
            go_wp2_with (first | (go_at_call 15; refine (num4 _ _).mono ?_; rintro e w5 ⟨rfl, rfl⟩) | (go_at_call 17; refine (HEq.out).mono ?_; rintro e w6 ⟨rfl, hb6⟩))
            go_roundw
            case rel => exact ⟨k + 1, by omega, by omega, by go_num, H3.out.2.1.trans (hb6.mono H3.out.2.1.size)⟩
            case measure => simp [intOf]; omega
          · have hk3 : ((k1 : Int) != (S.size : Int)) = true := by rw [bne_iff_ne]; omega
            have hk4 : ((k1 : Int) == (S.size : Int)) = false := by rw [beq_eq_false_iff_ne]; omega
            have b9 := set3_Bk H3.out.2.2.1 (.bool false) (.string ⟨#[]⟩) (.slice none 0 0)
            have hbel9 := set3_below H3.out.2.2.2.1 H3.out.2.2.2.2 (.bool false) (.string ⟨#[]⟩) (.slice none 0 0)
            have hbelw := set3_below H3.out.2.1 (Nat.le_trans H2.out.2.2.1.size H3.out.2.2.2.2) (.bool false) (.string ⟨#[]⟩) (.slice none 0 0)
            obtain ⟨U, hU⟩ : ∃ U, U = ((V.setCell ⟨Y, 0, none⟩ (.bool false)).setCell ⟨Y, 1, none⟩ (.string ⟨#[]⟩)).setCell ⟨Y, 2, none⟩ (.slice none 0 0) := ⟨_, rfl⟩
            have HU : Hid (U = ((V.setCell ⟨Y, 0, none⟩ (.bool false)).setCell ⟨Y, 1, none⟩ (.string ⟨#[]⟩)).setCell ⟨Y, 2, none⟩ (.slice none 0 0)) := hU
            rw [← hU] at b9 hbel9 hbelw
            clear hU
            have H4 : Hid (Bk U Y #[.bool false, .string ⟨#[]⟩, .slice none 0 0] 26 ∧ Below W.heap.size W U ∧ Below w.heap.size w U) := ⟨b9, hbel9, hbelw⟩
            have HEq : Hid (Calls Try.prog 17 #[.agg #[.bool false, .string ⟨#[]⟩, .slice x0 x1 x2], .agg #[.bool false, .string ⟨#[]⟩, .slice none 0 0]] U fun e w' => e = .returned (.bool true) ∧ Below U.heap.size U w') := eqSame 18 18 zIT x0 none x1 x2 0 0 U (H2.out.1.below hbel9) (rd_nil U (fun _ => True) 17).rd
            clear b9 hbel9 hbelw
            have e0 : zIT.list = false := rfl
            have e1 : zIT.text = ⟨#[]⟩ := rfl
            go_upto_region 10 with fail
            rw [← HU.out]
            clear HU p0 p1 p2 q0 q1 q2 fy0 fy1 fy2 c3 hbV hXV hYV
            obtain ⟨p0, p1, p2⟩ := box_cells (H2.out.2.2.2.below H4.out.2.1 H2.out.2.2.2.lt)
            obtain ⟨q0, q1, q2⟩ := box_cells H4.out.1
            rw [e0] at p0
            rw [e1] at p1
            have hXV : X < U.heap.size := cell_lt' p0
            have hYV : Y < U.heap.size := cell_lt' q0
            go_wp2_with (first | (go_at_call 15; refine (num4 _ _).mono ?_; rintro e w5 ⟨rfl, rfl⟩) | (go_at_call 17; refine (HEq.out).mono ?_; rintro e w6 ⟨rfl, hb6⟩))
            go_roundw
            case rel => exact ⟨k + 1, by omega, by omega, by go_num, H4.out.2.2.trans (hb6.mono H4.out.2.2.size)⟩
            case measure => simp [intOf]; omega
      · have h6' : ¬ (k : Int) < 6 := by omega
        go_wp2_with (go_at_call 18; refine (wakes _).mono ?_; rintro e w1 ⟨rfl, hb1⟩)
        go_ret
        exact ⟨rfl, hbo.trans (hb1.mono hszo)⟩
    · have hlt' : ¬ (k : Int) < (qs.length : Int) := by omega
      go_wp2_with (go_at_call 18; refine (wakes _).mono ?_; rintro e w1 ⟨rfl, hb1⟩)
      go_ret
      exact ⟨rfl, hbo.trans (hb1.mono hszo)⟩
end Go.Proofs.Ytddoanldjpeplaa

import Derived.Test.YtliaegnhnnnojaaAsk4
import Derived.Test.YtliaegnhnnnojaaHvyU
import Derived.Test.YtliaegnhnnnojaaRTk
import Derived.Test.YtliaegnhnnnojaaSpl
set_option linter.unusedSimpArgs false
set_option linter.unusedVariables false
namespace Go.Proofs.Ytliaegnhnnnojaa
open Go.RowKit

/-! tarnlaw4.ItemTakes, walked. -/
theorem tk_bad (r : Nat) (s : ByteArray) (h : (tk r s).2.2 ≠ 0) : (tk r s).1 = zIT := by
  cases r <;> unfold tk at * <;> (repeat' split) <;> simp_all
set_option maxRecDepth 100000 in
set_option maxHeartbeats 4000000 in
theorem itemTakes_walk (n : Nat) (v : Value) (qs : List Q4) (w : World) (hq : Sq w n v qs) :
    Calls Try.prog 3 #[v] w fun e w' => e = .returned (.bool true) ∧ Below w.heap.size w w' := by
  obtain ⟨hlen, ad, cap, rfl, hat⟩ := hq
  have HA : Hid (∀ i (hi : i < qs.length), ∃ b off, ad = some ⟨b, off, none⟩ ∧ ∃ a l c, w.cell? ⟨b, off + i * 4, none⟩ = some (.bool qs[i].it.list) ∧ w.cell? ⟨b, off + i * 4 + 1, none⟩ = some (.string qs[i].it.text) ∧ w.cell? ⟨b, off + i * 4 + 2, none⟩ = some (.slice a l c) ∧ w.cell? ⟨b, off + i * 4 + 3, none⟩ = some (.string qs[i].s) ∧ Rd w n qs[i].it.items (.slice a l c)) := hat
  clear hat
  go_enter Try.func3, Try.ntmps3
  go_wp2_with fail
  go_loopw [3] (fun i wr => ∃ k : Nat, k ≤ qs.length ∧ k ≤ 6 ∧ i = .int .i64 k ∧ Below w.heap.size w wr) (fun i _ => qs.length - (intOf i).toNat)
  case atStart => exact ⟨0, by omega, by omega, rfl, Below.refl _ _⟩
  case round =>
    obtain ⟨k, hk, hk6, rfl, hbo⟩ := hrel
    have hszo := hbo.size
    by_cases hlt : k < qs.length
    · have hlt' : (k : Int) < (qs.length : Int) := by omega
      by_cases h6 : k < 6
      · have h6' : (k : Int) < 6 := by omega
        obtain ⟨b, off, rfl, s0, s1, s2, c0, c1, c2, c3, hrd⟩ := HA.out k hlt
        have hbW0 : b < w.heap.size := cell_lt' c0
        have c0 := (hbo.cell (cell_lt' c0)).trans c0
        have c1 := (hbo.cell (cell_lt' c1)).trans c1
        have c2 := (hbo.cell (cell_lt' c2)).trans c2
        have c3 := (hbo.cell (cell_lt' c3)).trans c3
        have hrd := hrd.below hbo
        generalize qs[k].it = a at *
        generalize qs[k].s = S at *
        have HRd : Hid (Rd wr n a.items (.slice s0 s1 s2)) := hrd
        clear hrd
        go_wp2_with fail
        refine (heavyU n a s0 s1 s2 S _ HRd.out).mono ?_
        rintro e w1 ⟨⟨hv, rfl, hhv⟩, hb1⟩
        cases hv with
        | true =>
          go_wp2_with fail
          go_ret
          exact ⟨rfl, hbo.trans (hb1.mono hszo)⟩
        | false =>
          have c3 := (hb1.cell (cell_lt' c3)).trans c3
          have hbw : b < w1.heap.size := cell_lt' c3
          have hsz : S.size ≤ 70000 := hhv rfl
          have H1 : Hid (Below w.heap.size w w1) := hbo.trans (hb1.mono hszo)
          clear hhv hb1 HRd c0 c1 c2
          have HT : Hid (∀ W, Calls Try.prog 12 #[.string S] W fun e w' => (∃ ad l c, e = .returned (.tuple #[.agg #[.bool (tk0 S).1.list, .string (tk0 S).1.text, .slice ad l c], .int .i64 ((tk0 S).2.1 : Int), .int .i64 ((tk0 S).2.2 : Int)]) ∧ RdP w' (W.heap.size ≤ ·) 18 (tk0 S).1.items (.slice ad l c)) ∧ Below W.heap.size W w') := fun W => iTake S W (by omega)
          have HR : Hid (∀ W, Calls Try.prog 13 #[.string S] W fun e w' => (∃ ad l c, e = .returned (.tuple #[.agg #[.bool (tk0 S).1.list, .string (tk0 S).1.text, .slice ad l c], .int .i64 ((tk0 S).2.1 : Int), .int .i64 ((tk0 S).2.2 : Int)]) ∧ RdP w' (W.heap.size ≤ ·) 18 (tk0 S).1.items (.slice ad l c)) ∧ Below W.heap.size W w') := fun W => rTake S W (by omega)
          have HPz : Hid (∀ W, Calls Try.prog 17 #[.string S] W fun e w' => (∃ ad l c, e = .returned (.tuple #[.agg #[.bool (pz S).1.list, .string (pz S).1.text, .slice ad l c], .int .i64 ((pz S).2 : Int)]) ∧ RdP w' (W.heap.size ≤ ·) 18 (pz S).1.items (.slice ad l c)) ∧ Below W.heap.size W w') := fun W => iParse S W (by omega)
          have hcase : ((tk0 S).2.2 ≠ 0 ∧ (pz S).1 = (tk0 S).1 ∧ (pz S).2 = (tk0 S).2.2) ∨ ((tk0 S).2.2 = 0 ∧ (tk0 S).2.1 = S.size ∧ (pz S).1 = (tk0 S).1 ∧ (pz S).2 = 0) ∨ ((tk0 S).2.2 = 0 ∧ (tk0 S).2.1 < S.size ∧ (pz S).1 = zIT ∧ (pz S).2 = 1) := by
            have HP : pz S = if (tk0 S).2.2 ≠ 0 then (zIT, (tk0 S).2.2) else if (tk0 S).2.1 < S.size then (zIT, 1) else ((tk0 S).1, 0) := rfl
            by_cases he : (tk0 S).2.2 = 0
            · have hk : (tk0 S).2.1 ≤ S.size := (tk_prog 16 S he).2
              rw [if_neg (by simpa using he)] at HP
              by_cases hk2 : (tk0 S).2.1 < S.size
              · rw [if_pos hk2] at HP
                exact .inr (.inr ⟨he, hk2, by rw [HP], by rw [HP]⟩)
              · rw [if_neg hk2] at HP
                exact .inr (.inl ⟨he, by omega, by rw [HP], by rw [HP]⟩)
            · rw [if_pos (by simpa using he)] at HP
              exact .inl ⟨he, by rw [HP]; exact (tk_bad 16 S he).symm, by rw [HP]⟩
          obtain ⟨T, hT⟩ : ∃ T, T = tk0 S := ⟨_, rfl⟩
          obtain ⟨PZ, hPZ⟩ : ∃ P, P = pz S := ⟨_, rfl⟩
          rw [← hT] at HT HR hcase
          rw [← hPZ] at HPz hcase
          obtain ⟨t1, k1, e1⟩ := T
          obtain ⟨pa, pe⟩ := PZ
          clear hT hPZ
          simp only at HT HR HPz hcase
          have HCase := hcase
          go_wp2_with fail
          refine (HT.out _).mono ?_
          rintro e w2 ⟨⟨x0, x1, x2, rfl, hrd2⟩, hb2⟩
          have c3 := (hb2.cell (cell_lt' c3)).trans c3
          have c3 := ((Below.refl _ w2).alloc (Nat.le_refl _) (.cells #[.bool t1.list, .string t1.text, .slice x0 x1 x2] 26)).cell (cell_lt' c3) |>.trans c3
          have bX := Bk.new w2 #[.bool t1.list, .string t1.text, .slice x0 x1 x2] 26
          have hb2a := hb2.alloc hb2.size (.cells #[.bool t1.list, .string t1.text, .slice x0 x1 x2] 26)
          have htw := (RdP.tw (by omega) hrd2).same (w' := w2.alloc (.cells #[.bool t1.list, .string t1.text, .slice x0 x1 x2] 26)) fun b _ hl => Below.heap_alloc w2 _ b hl
          have hrd2 := hrd2.rd.alloc (.cells #[.bool t1.list, .string t1.text, .slice x0 x1 x2] 26)
          obtain ⟨W, hW⟩ : ∃ W, W = w2.alloc (.cells #[.bool t1.list, .string t1.text, .slice x0 x1 x2] 26) := ⟨_, rfl⟩
          obtain ⟨X, hX⟩ : ∃ X, X = w2.heap.size := ⟨_, rfl⟩
          have HW : Hid (W = w2.alloc (.cells #[.bool t1.list, .string t1.text, .slice x0 x1 x2] 26) ∧ X = w2.heap.size) := ⟨hW, hX⟩
          have hXs : w1.heap.size ≤ X := hX ▸ hb2.size
          have hWs : W.heap.size = X + 1 := by rw [hW, hX]; simp
          have H2 : Hid (Rd W 18 t1.items (.slice x0 x1 x2) ∧ TW W w1.heap.size X 18 (.slice x0 x1 x2) ∧ Below w.heap.size w W ∧ Bk W X #[.bool t1.list, .string t1.text, .slice x0 x1 x2] 26 ∧ w1.heap.size ≤ X ∧ W.heap.size = X + 1) := ⟨hW ▸ hrd2, hW ▸ hX ▸ htw, hW ▸ H1.out.trans (hb2a.mono H1.out.size), hW ▸ hX ▸ bX, hXs, hWs⟩
          have hb1w := H1.out.size
          rw [← hW] at c3
          clear hrd2 hb2 hb2a bX H1 hW hX htw HT hXs hWs
          go_upto_region 7 with fail
          rw [← HW.out.1, ← HW.out.2]
          clear HW
          go_wp2_with fail
          refine (HR.out _).mono ?_
          rintro e w3 ⟨⟨y0, y1, y2, rfl, hrd3⟩, hb3⟩
          have c3 := (hb3.cell (cell_lt' c3)).trans c3
          have c3 := ((Below.refl _ w3).alloc (Nat.le_refl _) (.cells #[.bool t1.list, .string t1.text, .slice y0 y1 y2] 26)).cell (cell_lt' c3) |>.trans c3
          have bY := Bk.new w3 #[.bool t1.list, .string t1.text, .slice y0 y1 y2] 26
          have hb3a := hb3.alloc hb3.size (.cells #[.bool t1.list, .string t1.text, .slice y0 y1 y2] 26)
          have hrd3 := hrd3.keep (w' := w3.alloc (.cells #[.bool t1.list, .string t1.text, .slice y0 y1 y2] 26)) fun b _ hl => Below.heap_alloc w3 _ b hl
          have hYW : W.heap.size ≤ w3.heap.size := hb3.size
          obtain ⟨V, hV⟩ : ∃ V, V = w3.alloc (.cells #[.bool t1.list, .string t1.text, .slice y0 y1 y2] 26) := ⟨_, rfl⟩
          obtain ⟨Y, hY⟩ : ∃ Y, Y = w3.heap.size := ⟨_, rfl⟩
          have HV : Hid (V = w3.alloc (.cells #[.bool t1.list, .string t1.text, .slice y0 y1 y2] 26) ∧ Y = w3.heap.size) := ⟨hV, hY⟩
          have H3 : Hid (RdP V (W.heap.size ≤ ·) 18 t1.items (.slice y0 y1 y2) ∧ Below w.heap.size w V ∧ Bk V Y #[.bool t1.list, .string t1.text, .slice y0 y1 y2] 26 ∧ Below W.heap.size W V ∧ W.heap.size ≤ Y) := ⟨hV ▸ hrd3, hV ▸ H2.out.2.2.1.trans (hb3a.mono H2.out.2.2.1.size), hV ▸ hY ▸ bY, hV ▸ hb3a, hY ▸ hYW⟩
          rw [← hV] at c3
          clear hrd3 hb3 hb3a bY hV hY hYW HR
          obtain ⟨p0, p1, p2⟩ := box_cells (H2.out.2.2.2.1.below H3.out.2.2.2.1 H2.out.2.2.2.1.lt)
          obtain ⟨q0, q1, q2⟩ := box_cells H3.out.2.2.1
          have hbV : b < V.heap.size := cell_lt' c3
          have hXV : X < V.heap.size := cell_lt' p0
          have hYV : Y < V.heap.size := cell_lt' q0
          go_upto_region 8 with fail
          rw [← HV.out.1, ← HV.out.2]
          clear HV
          have HEq : Hid (Calls Try.prog 15 #[.agg #[.bool t1.list, .string t1.text, .slice x0 x1 x2], .agg #[.bool t1.list, .string t1.text, .slice y0 y1 y2]] V fun e w' => e = .returned (.bool true) ∧ Below V.heap.size V w') := eqSame 18 18 t1 x0 y0 x1 x2 y1 y2 V (H2.out.1.below H3.out.2.2.2.1) H3.out.1.rd
          go_upto_region 10 with (first | (go_at_call 14; refine (num4 _ _).mono ?_; rintro e w5 ⟨rfl, rfl⟩) | (go_at_call 15; refine (HEq.out).mono ?_; rintro e w6 ⟨rfl, hb6⟩))
          have hs6 := hb6.size
          have hsV := H3.out.2.2.2.1.size
          have hWX := H2.out.2.2.2.2.2
          have hX1 := H2.out.2.2.2.2.1
          have hY1 := H3.out.2.2.2.2
          have hbel : Below W.heap.size W w6 := H3.out.2.2.2.1.trans (hb6.mono hsV)
          have bX6 := H2.out.2.2.2.1.below hbel (by omega)
          have bY6 := H3.out.2.2.1.below hb6 (by omega)
          have hsp := spoil 18 w1.heap.size X (.slice x0 x1 x2) t1.list t1.text w6 (H2.out.2.1.same fun q _ hq => hbel.block q (by omega)) (by omega)
          have HSp : Hid (Calls Try.prog 16 #[.agg #[.bool t1.list, .string t1.text, .slice x0 x1 x2]] w6 fun e w' => (∃ u, e = .returned u) ∧ Kx w1.heap.size X w6 w') := hsp.mono fun e w' h => ⟨h.1, h.2.1⟩
          have H6 : Hid (RdP w6 (W.heap.size ≤ ·) 18 t1.items (.slice y0 y1 y2) ∧ Below w.heap.size w w6 ∧ Bk w6 X #[.bool t1.list, .string t1.text, .slice x0 x1 x2] 26 ∧ Bk w6 Y #[.bool t1.list, .string t1.text, .slice y0 y1 y2] 26) := ⟨H3.out.1.keep fun q _ hl => hb6.block q hl, H3.out.2.1.trans (hb6.mono H3.out.2.1.size), bX6, bY6⟩
          have c3 := (hb6.cell (cell_lt' c3)).trans c3
          clear HEq H2 H3 hbel bY6 hsp p0 p1 p2 q0 q1 q2 hb6 hsV hXV hYV hbV
          obtain ⟨p0, p1, p2⟩ := box_cells bX6
          have hX6 := bX6.lt
          clear bX6
          go_wp2_with fail
          refine HSp.out.mono ?_
          rintro e w7 ⟨⟨u, rfl⟩, hK⟩
          have hb6' : b < w6.heap.size := cell_lt' c3
          have c3 : w7.cell? ⟨b, off + k * 4 + 3, none⟩ = some (.string S) := (World.cell?_of_block (w := w6) (hK.block b hb6' (by omega))).trans c3
          have bX7 : Bk w7 X #[.bool t1.list, .string t1.text, .slice x0 x1 x2] 26 := (hK.block X hX6 (by omega)).trans H6.out.2.2.1
          have bY7 : Bk w7 Y #[.bool t1.list, .string t1.text, .slice y0 y1 y2] 26 := (hK.block Y H6.out.2.2.2.lt (by omega)).trans H6.out.2.2.2
          have H7 : Hid (RdP w7 (W.heap.size ≤ ·) 18 t1.items (.slice y0 y1 y2) ∧ Below w.heap.size w w7 ∧ Bk w7 X #[.bool t1.list, .string t1.text, .slice x0 x1 x2] 26 ∧ Bk w7 Y #[.bool t1.list, .string t1.text, .slice y0 y1 y2] 26) := ⟨H6.out.1.keep fun q hq hl => hK.block q hl (by have : W.heap.size ≤ q := hq; omega), H6.out.2.1.trans ((hK.below (by omega)).mono hb1w), bX7, bY7⟩
          have hs7 := hK.size
          clear HSp hK p0 p1 p2 H6 bX7 bY7
          go_wp2_with fail
          refine (HPz.out _).mono ?_
          rintro e w8 ⟨⟨z0, z1, z2, rfl, hrd8⟩, hb8⟩
          have hs8 := hb8.size
          have c3 := (hb8.cell (cell_lt' c3)).trans c3
          have bX8 := H7.out.2.2.1.below hb8 H7.out.2.2.1.lt
          have bY8 := H7.out.2.2.2.below hb8 H7.out.2.2.2.lt
          have hX7 := H7.out.2.2.1.lt
          have hY7 := H7.out.2.2.2.lt
          have hB8 := H7.out.2.1.trans (hb8.mono H7.out.2.1.size)
          have b9 := set3_Bk bX8 (.bool pa.list) (.string pa.text) (.slice z0 z1 z2)
          have hbelw := set3_below hB8 (by omega : w.heap.size ≤ X) (.bool pa.list) (.string pa.text) (.slice z0 z1 z2)
          have bY9 : Bk (((w8.setCell ⟨X, 0, none⟩ (.bool pa.list)).setCell ⟨X, 1, none⟩ (.string pa.text)).setCell ⟨X, 2, none⟩ (.slice z0 z1 z2)) Y #[.bool t1.list, .string t1.text, .slice y0 y1 y2] 26 := ((bY8.other (by simp; omega) _).other (by simp; omega) _).other (by simp; omega) _
          have hrdx := set3_keep (b := X) hrd8 (fun q hq => by have : w7.heap.size ≤ q := hq; omega) (.bool pa.list) (.string pa.text) (.slice z0 z1 z2)
          have hrdy := set3_keep (b := X) (H7.out.1.keep (w' := w8) fun q _ hl => hb8.block q hl) (fun q hq => by have : W.heap.size ≤ q := hq; omega) (.bool pa.list) (.string pa.text) (.slice z0 z1 z2)
          have c9 : (((w8.setCell ⟨X, 0, none⟩ (.bool pa.list)).setCell ⟨X, 1, none⟩ (.string pa.text)).setCell ⟨X, 2, none⟩ (.slice z0 z1 z2)).cell? ⟨b, off + k * 4 + 3, none⟩ = some (.string S) := by
            rw [World.cell?_of_block (w := w8) (((Below.heap_setCell _ _ _ b (by show b ≠ X; omega)).trans (Below.heap_setCell _ _ _ b (by show b ≠ X; omega))).trans (Below.heap_setCell _ _ _ b (by show b ≠ X; omega)))]; exact c3
          obtain ⟨x8a, x8b, x8c⟩ := box_cells bX8
          have fx0 := bX8.frozen 0
          have fx1 := bX8.frozen 1
          have fx2 := bX8.frozen 2
          have lX8 := bX8.lt
          obtain ⟨U, hU⟩ : ∃ U, U = ((w8.setCell ⟨X, 0, none⟩ (.bool pa.list)).setCell ⟨X, 1, none⟩ (.string pa.text)).setCell ⟨X, 2, none⟩ (.slice z0 z1 z2) := ⟨_, rfl⟩
          have HU : Hid (U = ((w8.setCell ⟨X, 0, none⟩ (.bool pa.list)).setCell ⟨X, 1, none⟩ (.string pa.text)).setCell ⟨X, 2, none⟩ (.slice z0 z1 z2)) := hU
          rw [← hU] at b9 hbelw bY9 hrdx hrdy c9
          have H9 : Hid (Bk U X #[.bool pa.list, .string pa.text, .slice z0 z1 z2] 26 ∧ Bk U Y #[.bool t1.list, .string t1.text, .slice y0 y1 y2] 26 ∧ Below w.heap.size w U ∧ Rd U 18 pa.items (.slice z0 z1 z2) ∧ RdP U (fun q => W.heap.size ≤ q) 18 t1.items (.slice y0 y1 y2) ∧ RdP U (fun q => w7.heap.size ≤ q) 18 pa.items (.slice z0 z1 z2)) := ⟨b9, bY9, hbelw, hrdx.rd, hrdy, hrdx⟩
          clear hU b9 hbelw bY9 hrdx hrdy hrd8 hb8 bX8 bY8 hB8 HPz H7
          go_upto_region 12 with fail
          rw [← HU.out]
          clear HU c3 x8a x8b x8c fx0 fx1 fx2 lX8
          obtain ⟨p0, p1, p2⟩ := box_cells H9.out.1
          obtain ⟨q0, q1, q2⟩ := box_cells H9.out.2.1
          have hbU : b < U.heap.size := cell_lt' c9
          have hXU : X < U.heap.size := cell_lt' p0
          have hYU : Y < U.heap.size := cell_lt' q0
          rcases HCase with ⟨he, rfl, rfl⟩ | ⟨rfl, rfl, rfl, rfl⟩ | ⟨rfl, hk2, rfl, rfl⟩
          · have he' : ((pe : Int) == 0) = false := by rw [beq_eq_false_iff_ne]; omega
            have HEq : Hid (Calls Try.prog 15 #[.agg #[.bool pa.list, .string pa.text, .slice z0 z1 z2], .agg #[.bool pa.list, .string pa.text, .slice y0 y1 y2]] U fun e w' => e = .returned (.bool true) ∧ Below U.heap.size U w') := eqSame 18 18 pa z0 y0 z1 z2 y1 y2 U H9.out.2.2.2.1 H9.out.2.2.2.2.1.rd
            go_wp2_with (first | (go_at_call 14; refine (num4 _ _).mono ?_; rintro e w5 ⟨rfl, rfl⟩) | (go_at_call 15; refine (HEq.out).mono ?_; rintro e w9 ⟨rfl, hb9⟩))
            go_roundw
            case rel => exact ⟨k + 1, by omega, by omega, by go_num, H9.out.2.2.1.trans (hb9.mono H9.out.2.2.1.size)⟩
            case measure => simp [intOf]; omega
          · have HEq : Hid (Calls Try.prog 15 #[.agg #[.bool pa.list, .string pa.text, .slice z0 z1 z2], .agg #[.bool pa.list, .string pa.text, .slice y0 y1 y2]] U fun e w' => e = .returned (.bool true) ∧ Below U.heap.size U w') := eqSame 18 18 pa z0 y0 z1 z2 y1 y2 U H9.out.2.2.2.1 H9.out.2.2.2.2.1.rd
            go_wp2_with (first | (go_at_call 14; refine (num4 _ _).mono ?_; rintro e w5 ⟨rfl, rfl⟩) | (go_at_call 15; refine (HEq.out).mono ?_; rintro e w9 ⟨rfl, hb9⟩))
            go_roundw
            case rel => exact ⟨k + 1, by omega, by omega, by go_num, H9.out.2.2.1.trans (hb9.mono H9.out.2.2.1.size)⟩
            case measure => simp [intOf]; omega
          · have hk3 : ((k1 : Int) != (S.size : Int)) = true := by rw [bne_iff_ne]; omega
            have hk4 : ((k1 : Int) == (S.size : Int)) = false := by rw [beq_eq_false_iff_ne]; omega
            have b9 := set3_Bk H9.out.2.1 (.bool false) (.string ⟨#[]⟩) (.slice none 0 0)
            have hbelw := set3_below H9.out.2.2.1 (by omega : w.heap.size ≤ Y) (.bool false) (.string ⟨#[]⟩) (.slice none 0 0)
            have bX9 : Bk (((U.setCell ⟨Y, 0, none⟩ (.bool false)).setCell ⟨Y, 1, none⟩ (.string ⟨#[]⟩)).setCell ⟨Y, 2, none⟩ (.slice none 0 0)) X #[.bool zIT.list, .string zIT.text, .slice z0 z1 z2] 26 := ((H9.out.1.other (by simp; omega) _).other (by simp; omega) _).other (by simp; omega) _
            have hrdx := set3_keep (b := Y) H9.out.2.2.2.2.2 (fun q hq => by have : w7.heap.size ≤ q := hq; omega) (.bool false) (.string ⟨#[]⟩) (.slice none 0 0)
            have fy0 := H9.out.2.1.frozen 0
            have fy1 := H9.out.2.1.frozen 1
            have fy2 := H9.out.2.1.frozen 2
            obtain ⟨U2, hU2⟩ : ∃ U2, U2 = ((U.setCell ⟨Y, 0, none⟩ (.bool false)).setCell ⟨Y, 1, none⟩ (.string ⟨#[]⟩)).setCell ⟨Y, 2, none⟩ (.slice none 0 0) := ⟨_, rfl⟩
            have HU2 : Hid (U2 = ((U.setCell ⟨Y, 0, none⟩ (.bool false)).setCell ⟨Y, 1, none⟩ (.string ⟨#[]⟩)).setCell ⟨Y, 2, none⟩ (.slice none 0 0)) := hU2
            rw [← hU2] at b9 bX9 hbelw hrdx
            clear hU2
            have H4 : Hid (Bk U2 Y #[.bool false, .string ⟨#[]⟩, .slice none 0 0] 26 ∧ Below w.heap.size w U2) := ⟨b9, hbelw⟩
            have HEq : Hid (Calls Try.prog 15 #[.agg #[.bool false, .string ⟨#[]⟩, .slice z0 z1 z2], .agg #[.bool false, .string ⟨#[]⟩, .slice none 0 0]] U2 fun e w' => e = .returned (.bool true) ∧ Below U2.heap.size U2 w') := eqSame 18 18 zIT z0 none z1 z2 0 0 U2 hrdx.rd (rd_nil U2 (fun _ => True) 17).rd
            have e0 : zIT.list = false := rfl
            have e1 : zIT.text = ⟨#[]⟩ := rfl
            have HX9 : Hid (Bk U2 X #[.bool zIT.list, .string zIT.text, .slice z0 z1 z2] 26) := bX9
            clear b9 bX9 hbelw hrdx
            go_upto_region 14 with fail
            rw [← HU2.out]
            clear HU2 p0 p1 p2 q0 q1 q2 fy0 fy1 fy2 c9 hbU hXU hYU
            obtain ⟨p0, p1, p2⟩ := box_cells HX9.out
            obtain ⟨q0, q1, q2⟩ := box_cells H4.out.1
            rw [e0] at p0
            rw [e1] at p1
            have hXV : X < U2.heap.size := cell_lt' p0
            have hYV : Y < U2.heap.size := cell_lt' q0
            go_wp2_with (first | (go_at_call 14; refine (num4 _ _).mono ?_; rintro e w5 ⟨rfl, rfl⟩) | (go_at_call 15; refine (HEq.out).mono ?_; rintro e w9 ⟨rfl, hb9⟩))
            go_roundw
            case rel => exact ⟨k + 1, by omega, by omega, by go_num, H4.out.2.trans (hb9.mono H4.out.2.size)⟩
            case measure => simp [intOf]; omega
      · have h6' : ¬ (k : Int) < 6 := by omega
        go_wp2_with (go_at_call 18; refine (wakes _).mono ?_; rintro e w1 ⟨rfl, hb1⟩)
        go_ret
        exact ⟨rfl, hbo.trans (hb1.mono hszo)⟩
    · have hlt' : ¬ (k : Int) < (qs.length : Int) := by omega
      go_wp2_with (go_at_call 18; refine (wakes _).mono ?_; rintro e w1 ⟨rfl, hb1⟩)
      go_ret
      exact ⟨rfl, hbo.trans (hb1.mono hszo)⟩
end Go.Proofs.Ytliaegnhnnnojaa

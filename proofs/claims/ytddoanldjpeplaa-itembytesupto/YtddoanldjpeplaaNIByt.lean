import Derived.Test.YtddoanldjpeplaaAsk4
set_option linter.unusedSimpArgs false
set_option linter.unusedVariables false
namespace Go.Proofs.Ytddoanldjpeplaa
open Go.RowKit

/-! tarnlaw4.ItemBytes, walked. -/
set_option maxRecDepth 100000 in
set_option maxHeartbeats 2000000 in
theorem itemBytes_walk (n : Nat) (v : Value) (qs : List Q4) (w : World) (hq : Sq w n v qs) (hs : Small qs) :
    Calls Try.prog 3 #[v] w fun e w' => e = .returned (.bool true) ∧ Below w.heap.size w w' := by
  obtain ⟨hlen, ad, cap, rfl, hat⟩ := hq
  have HA : Hid (∀ i (hi : i < qs.length), ∃ b off, ad = some ⟨b, off, none⟩ ∧ ∃ a l c, w.cell? ⟨b, off + i * 4, none⟩ = some (.bool qs[i].it.list) ∧ w.cell? ⟨b, off + i * 4 + 1, none⟩ = some (.string qs[i].it.text) ∧ w.cell? ⟨b, off + i * 4 + 2, none⟩ = some (.slice a l c) ∧ w.cell? ⟨b, off + i * 4 + 3, none⟩ = some (.string qs[i].s) ∧ Rd w n qs[i].it.items (.slice a l c)) := hat
  have HS : Hid (Small qs) := hs
  clear hat hs
  go_enter Try.func3, Try.ntmps3
  go_wp2_with fail
  go_loopw [3] (fun i wr => ∃ k : Nat, k ≤ qs.length ∧ k ≤ 6 ∧ i = .int .i64 k ∧ Below w.heap.size w wr) (fun i _ => qs.length - (intOf i).toNat)
  case atStart => exact ⟨0, by omega, by omega, rfl, Below.refl _ _⟩
  case round =>
    obtain ⟨k, hk, hk6, rfl, hbo⟩ := hrel
    have hszo := hbo.size
    by_cases hlt : k < qs.length
    · have hlt' : (k : Int) < (qs.length : Int) := by omega
      by_cases h6 : k < 6
      · have h6' : (k : Int) < 6 := by omega
        obtain ⟨b, off, rfl, s0, s1, s2, c0, c1, c2, c3, hrd⟩ := HA.out k hlt
        have c0 := (hbo.cell (cell_lt' c0)).trans c0
        have c1 := (hbo.cell (cell_lt' c1)).trans c1
        have c2 := (hbo.cell (cell_lt' c2)).trans c2
        have c3 := (hbo.cell (cell_lt' c3)).trans c3
        have hsm := HS.out qs[k] (List.getElem_mem hlt)
        have hrd := hrd.below hbo
        generalize qs[k].it = a at *
        generalize qs[k].s = S at *
        have HRd : Hid (Rd wr n a.items (.slice s0 s1 s2) ∧ a.wt ≤ 1048576 ∧ S.size ≤ 1048576) := ⟨hrd, hsm.1, hsm.2⟩
        clear hrd hsm
        go_wp2_with fail
        refine (heavy n a s0 s1 s2 S _ HRd.out.1 (by have := HRd.out; omega) (by have := HRd.out; omega)).mono ?_
        rintro e w1 ⟨⟨hv, rfl, hhv⟩, hb1⟩
        cases hv with
        | true =>
          go_wp2_with fail
          go_ret
          exact ⟨rfl, hbo.trans (hb1.mono hszo)⟩
        | false =>
          have c0 := (hb1.cell (cell_lt' c0)).trans c0
          have c1 := (hb1.cell (cell_lt' c1)).trans c1
          have c2 := (hb1.cell (cell_lt' c2)).trans c2
          have hbw : b < w1.heap.size := cell_lt' c0
          have H1 : Hid (Rd w1 n a.items (.slice s0 s1 s2) ∧ a.wt ≤ 70000 ∧ Below w.heap.size w w1) := ⟨HRd.out.1.below hb1, (hhv rfl).1, hbo.trans (hb1.mono hszo)⟩
          clear hhv hb1 HRd c3
          go_wp2_with fail
          refine (copyItem n a s0 s1 s2 w1 H1.out.1 (by have := H1.out.2.1; omega)).mono ?_
          rintro e w2 ⟨⟨x0, x1, x2, rfl, hrd2⟩, hb2⟩
          have hb2a : Below w1.heap.size w1 (w2.alloc (.cells #[.bool a.list, .string a.text, .slice x0 x1 x2] 26)) := hb2.alloc hb2.size _
          have c0 := (hb2a.cell (cell_lt' c0)).trans c0
          have c1 := (hb2a.cell (cell_lt' c1)).trans c1
          have c2 := (hb2a.cell (cell_lt' c2)).trans c2
          have bX := Bk.new w2 #[.bool a.list, .string a.text, .slice x0 x1 x2] 26
          have H2 : Hid (Rd (w2.alloc (.cells #[.bool a.list, .string a.text, .slice x0 x1 x2] 26)) n a.items (.slice s0 s1 s2) ∧ Rd (w2.alloc (.cells #[.bool a.list, .string a.text, .slice x0 x1 x2] 26)) n a.items (.slice x0 x1 x2) ∧ a.wt ≤ 70000 ∧ Below w.heap.size w (w2.alloc (.cells #[.bool a.list, .string a.text, .slice x0 x1 x2] 26)) ∧ Bk (w2.alloc (.cells #[.bool a.list, .string a.text, .slice x0 x1 x2] 26)) w2.heap.size #[.bool a.list, .string a.text, .slice x0 x1 x2] 26) := ⟨H1.out.1.below hb2a, hrd2.rd.alloc _, H1.out.2.1, H1.out.2.2.trans (hb2a.mono H1.out.2.2.size), bX⟩
          obtain ⟨p0, p1, p2⟩ := box_cells bX
          clear hrd2 hb2 hb2a H1 bX
          obtain ⟨W, hW⟩ : ∃ W, W = w2.alloc (.cells #[.bool a.list, .string a.text, .slice x0 x1 x2] 26) := ⟨_, rfl⟩
          obtain ⟨X, hX⟩ : ∃ X, X = w2.heap.size := ⟨_, rfl⟩
          have HW : Hid (W = w2.alloc (.cells #[.bool a.list, .string a.text, .slice x0 x1 x2] 26) ∧ X = w2.heap.size) := ⟨hW, hX⟩
          rw [← hW, ← hX] at H2
          rw [← hW] at c0 c1 c2
          rw [← hW, ← hX] at p0 p1 p2
          clear hW hX
          go_upto_region 7 with fail
          rw [← HW.out.1, ← HW.out.2]
          clear HW
          have HBy : Hid (Calls Try.prog 13 #[.agg #[.bool a.list, .string a.text, .slice x0 x1 x2]] W fun e w' => e = .returned (.tuple #[.string (itS a), .int .i64 (ckE a)]) ∧ Below W.heap.size W w') := bytes' n a x0 x1 x2 W H2.out.2.1 (by have := H2.out.2.2.1; omega)
          have HIt : Hid (∀ W', Below W.heap.size W W' → Calls Try.prog 14 #[.agg #[.bool a.list, .string a.text, .slice s0 s1 s2]] W' fun e w' => e = .returned (.tuple #[.string (itS a), .bool (decide (ItOk a))]) ∧ Below W'.heap.size W' w') := fun W' h => ritem n a s0 s1 s2 W' (H2.out.1.below h) (by have := H2.out.2.2.1; omega)
          have HCk : Hid (∀ W', Below W.heap.size W W' → Calls Try.prog 16 #[.agg #[.bool a.list, .string a.text, .slice x0 x1 x2]] W' fun e w' => e = .returned (.int .i64 (ckE a)) ∧ Below W'.heap.size W' w') := fun W' h => check n a x0 x1 x2 W' (H2.out.2.1.below h) (by have := H2.out.2.2.1; omega)
          have HEq : Hid (∀ W', Below W.heap.size W W' → Calls Try.prog 17 #[.agg #[.bool a.list, .string a.text, .slice x0 x1 x2], .agg #[.bool a.list, .string a.text, .slice s0 s1 s2]] W' fun e w' => e = .returned (.bool true) ∧ Below W'.heap.size W' w') := fun W' h => eqSame n n a x0 s0 x1 x2 s1 s2 W' (H2.out.2.1.below h) (H2.out.1.below h)
          have hva : (ckE a = 0 ∧ decide (ItOk a) = true) ∨ (ckE a = 1 ∧ decide (ItOk a) = false) := by
            unfold ckE
            by_cases h : ItOk a
            · left; rw [if_pos h, decide_eq_true h]; exact ⟨rfl, rfl⟩
            · right; rw [if_neg h, decide_eq_false h]; exact ⟨rfl, rfl⟩
          have HW : Hid (Below w.heap.size w W) := H2.out.2.2.2.1
          have hbX : b < W.heap.size := cell_lt' c0
          have hXX : X < W.heap.size := cell_lt' p0
          generalize decide (ItOk a) = oo at *
          generalize ckE a = ee at *
          generalize itS a = S0 at *
          generalize a.list = la at *
          generalize a.text = ta at *
          have HVA : Hid ((ee = 0 ∧ oo = true) ∨ (ee = 1 ∧ oo = false)) := hva
          clear hva H2
          go_upto_region 9 with (first | (go_at_call 13; refine HBy.out.mono ?_; rintro e w3 ⟨rfl, hb3⟩; have c0 := (hb3.cell (cell_lt' c0)).trans c0; have c1 := (hb3.cell (cell_lt' c1)).trans c1; have c2 := (hb3.cell (cell_lt' c2)).trans c2; have p0 := (hb3.cell (cell_lt' p0)).trans p0; have p1 := (hb3.cell (cell_lt' p1)).trans p1; have p2 := (hb3.cell (cell_lt' p2)).trans p2) | (go_at_call 14; refine (HIt.out _ hb3).mono ?_; rintro e w4 ⟨rfl, hb4⟩; have c0 := (hb4.cell (cell_lt' c0)).trans c0; have c1 := (hb4.cell (cell_lt' c1)).trans c1; have c2 := (hb4.cell (cell_lt' c2)).trans c2; have p0 := (hb4.cell (cell_lt' p0)).trans p0; have p1 := (hb4.cell (cell_lt' p1)).trans p1; have p2 := (hb4.cell (cell_lt' p2)).trans p2))
          have hT : J2 X b (off + k * 4) la la ta ta (.slice x0 x1 x2) (.slice s0 s1 s2) W w4 := ⟨p0, p1, p2, c0, c1, c2, hb3.trans (hb4.mono hb3.size)⟩
          clear p0 p1 p2 c0 c1 c2 hb3 hb4 HBy HIt
          go_cut [80] (fun c wx => c = .bool false ∧ Below W.heap.size W wx)
          case first =>
            rcases HVA.out with ⟨rfl, rfl⟩ | ⟨rfl, rfl⟩ <;> clear HVA
            · refine wp_region_noPanic ?_
              refine wp_region_held_drew (S := (fun w' => w'.cell? ⟨X, 0, none⟩ = some (.bool la) ∧ w'.cell? ⟨X, 1, none⟩ = some (.string ta) ∧ w'.cell? ⟨X, 2, none⟩ = some (.slice x0 x1 x2) ∧ w'.cell? ⟨b, off + k * 4, none⟩ = some (.bool la) ∧ w'.cell? ⟨b, off + k * 4 + 1, none⟩ = some (.string ta) ∧ w'.cell? ⟨b, off + k * 4 + 2, none⟩ = some (.slice s0 s1 s2) ∧ Below W.heap.size W w')) (by kernel_rfl) ?_ (fun hHeld => ?_)
              · ((try dsimp only); (show J2 X b (off + k * 4) la la ta ta (.slice x0 x1 x2) (.slice s0 s1 s2) W _; repeat (first | with_reducible exact hT | with_reducible refine J2.drew ?_)))
              refine wpAnyH_take (i := 0) (oi := ⟨some 44, _, _, _, _, _⟩) (v := ?_) rfl (by kernel_rfl) (by kernel_rfl) (by kernel_rfl) (fun _ _ _ h => h) (Or.inl ⟨by rfl, ?_⟩) (by assumption) ?_
              rotate_left
              · (intro w hSw; (try dsimp only at hSw); go_simp; try (with_reducible rfl))
              simp only [Act.put, List.setIfInBounds_toArray, List.set_cons_zero, List.set_cons_succ]
              refine wpAnyH_take (i := 4) (oi := ⟨some 48, _, _, _, _, _⟩) (v := ?_) rfl (by kernel_rfl) (by kernel_rfl) (by kernel_rfl) (fun _ _ _ h => h) (Or.inl ⟨by rfl, ?_⟩) (by assumption) ?_
              rotate_left
              · (intro w hSw; (try dsimp only at hSw); go_simp; try (with_reducible rfl))
              simp only [Act.put, List.setIfInBounds_toArray, List.set_cons_zero, List.set_cons_succ]
              refine wpAnyH_ready (rs := [1]) (by kernel_rfl) (by simp) ?_
              refine AllReadyH.cons (o := ⟨some 45, _, _, _, _, _⟩) rfl (fun K hK => ?_) AllReadyH.nil
              go_simp
              (first | (go_at_call 15; refine (num4 _ _).mono ?_; rintro e w2 ⟨rfl, rfl⟩) | (go_at_call 16; refine (HCk.out _ (by repeat (first | with_reducible exact hT.bel | with_reducible refine Below.drew ?_))).mono ?_; rintro e w2 ⟨rfl, hb2⟩; have hT := J2.below (X := X) (b := b) (o := off + k * 4) (l := la) (m := la) (t := ta) (u := ta) (sv := .slice x0 x1 x2) (sw := .slice s0 s1 s2) (w0 := W) (by repeat (first | with_reducible exact hT | with_reducible refine J2.drew ?_)) hb2) | (go_at_call 17; refine (HEq.out _ (by repeat (first | with_reducible exact hT.bel | with_reducible refine Below.drew ?_))).mono ?_; rintro e w2 ⟨rfl, hb2⟩; have hT := J2.below (X := X) (b := b) (o := off + k * 4) (l := la) (m := la) (t := ta) (u := ta) (sv := .slice x0 x1 x2) (sw := .slice s0 s1 s2) (w0 := W) (by repeat (first | with_reducible exact hT | with_reducible refine J2.drew ?_)) hb2))
              try go_wp2_with fail
              refine hK.out _ _ ?_ (fun hHeld => ?_)
              · ((try dsimp only); (show J2 X b (off + k * 4) la la ta ta (.slice x0 x1 x2) (.slice s0 s1 s2) W _; repeat (first | with_reducible exact hT | with_reducible refine J2.drew ?_)))
              clear hK K
              (try simp only [Act.put, List.setIfInBounds_toArray, List.set_cons_zero, List.set_cons_succ])
              refine wpAnyH_ready (rs := [2]) (by kernel_rfl) (by simp) ?_
              refine AllReadyH.cons (o := ⟨some 46, _, _, _, _, _⟩) rfl (fun K hK => ?_) AllReadyH.nil
              go_simp
              (first | (go_at_call 15; refine (num4 _ _).mono ?_; rintro e w2 ⟨rfl, rfl⟩) | (go_at_call 16; refine (HCk.out _ (by repeat (first | with_reducible exact hT.bel | with_reducible refine Below.drew ?_))).mono ?_; rintro e w2 ⟨rfl, hb2⟩; have hT := J2.below (X := X) (b := b) (o := off + k * 4) (l := la) (m := la) (t := ta) (u := ta) (sv := .slice x0 x1 x2) (sw := .slice s0 s1 s2) (w0 := W) (by repeat (first | with_reducible exact hT | with_reducible refine J2.drew ?_)) hb2) | (go_at_call 17; refine (HEq.out _ (by repeat (first | with_reducible exact hT.bel | with_reducible refine Below.drew ?_))).mono ?_; rintro e w2 ⟨rfl, hb2⟩; have hT := J2.below (X := X) (b := b) (o := off + k * 4) (l := la) (m := la) (t := ta) (u := ta) (sv := .slice x0 x1 x2) (sw := .slice s0 s1 s2) (w0 := W) (by repeat (first | with_reducible exact hT | with_reducible refine J2.drew ?_)) hb2))
              try go_wp2_with fail
              refine hK.out _ _ ?_ (fun hHeld => ?_)
              · ((try dsimp only); (show J2 X b (off + k * 4) la la ta ta (.slice x0 x1 x2) (.slice s0 s1 s2) W _; repeat (first | with_reducible exact hT | with_reducible refine J2.drew ?_)))
              clear hK K
              (try simp only [Act.put, List.setIfInBounds_toArray, List.set_cons_zero, List.set_cons_succ])
              refine wpAnyH_take (i := 3) (oi := ⟨some 47, _, _, _, _, _⟩) (v := ?_) rfl (by kernel_rfl) (by kernel_rfl) (by kernel_rfl) (fun _ _ _ h => h) (Or.inl ⟨by rfl, ?_⟩) (by assumption) ?_
              rotate_left
              · (intro w hSw; (try dsimp only at hSw); go_simp; try (with_reducible rfl))
              simp only [Act.put, List.setIfInBounds_toArray, List.set_cons_zero, List.set_cons_succ]
              refine wpAnyH_take (i := 5) (oi := ⟨some 49, _, _, _, _, _⟩) (v := ?_) rfl (by kernel_rfl) (by kernel_rfl) (by kernel_rfl) (fun _ _ _ h => h) (Or.inl ⟨by rfl, ?_⟩) (by assumption) ?_
              rotate_left
              · (intro w hSw; (try dsimp only at hSw); go_simp; try (with_reducible rfl))
              simp only [Act.put, List.setIfInBounds_toArray, List.set_cons_zero, List.set_cons_succ]
              refine wpAnyH_take (i := 6) (oi := ⟨some 50, _, _, _, _, _⟩) (v := ?_) rfl (by kernel_rfl) (by kernel_rfl) (by kernel_rfl) (fun _ _ _ h => h) (Or.inl ⟨by rfl, ?_⟩) (by assumption) ?_
              rotate_left
              · (intro w hSw; (try dsimp only at hSw); go_simp; try (with_reducible rfl))
              simp only [Act.put, List.setIfInBounds_toArray, List.set_cons_zero, List.set_cons_succ]
              refine wpAnyH_take (i := 7) (oi := ⟨some 51, _, _, _, _, _⟩) (v := ?_) rfl (by kernel_rfl) (by kernel_rfl) (by kernel_rfl) (fun _ _ _ h => h) (Or.inl ⟨by rfl, ?_⟩) (by assumption) ?_
              rotate_left
              · (intro w hSw; (try dsimp only at hSw); go_simp; try (with_reducible rfl))
              simp only [Act.put, List.setIfInBounds_toArray, List.set_cons_zero, List.set_cons_succ]
              refine wpAnyH_take (i := 8) (oi := ⟨some 52, _, _, _, _, _⟩) (v := ?_) rfl (by kernel_rfl) (by kernel_rfl) (by kernel_rfl) (fun _ _ _ h => h) (Or.inl ⟨by rfl, ?_⟩) (by assumption) ?_
              rotate_left
              · (intro w hSw; (try dsimp only at hSw); go_simp; try (with_reducible rfl))
              simp only [Act.put, List.setIfInBounds_toArray, List.set_cons_zero, List.set_cons_succ]
              refine wpAnyH_ready (rs := [9]) (by kernel_rfl) (by simp) ?_
              refine AllReadyH.cons (o := ⟨some 53, _, _, _, _, _⟩) rfl (fun K hK => ?_) AllReadyH.nil
              go_simp
              (first | (go_at_call 15; refine (num4 _ _).mono ?_; rintro e w2 ⟨rfl, rfl⟩) | (go_at_call 16; refine (HCk.out _ (by repeat (first | with_reducible exact hT.bel | with_reducible refine Below.drew ?_))).mono ?_; rintro e w2 ⟨rfl, hb2⟩; have hT := J2.below (X := X) (b := b) (o := off + k * 4) (l := la) (m := la) (t := ta) (u := ta) (sv := .slice x0 x1 x2) (sw := .slice s0 s1 s2) (w0 := W) (by repeat (first | with_reducible exact hT | with_reducible refine J2.drew ?_)) hb2) | (go_at_call 17; refine (HEq.out _ (by repeat (first | with_reducible exact hT.bel | with_reducible refine Below.drew ?_))).mono ?_; rintro e w2 ⟨rfl, hb2⟩; have hT := J2.below (X := X) (b := b) (o := off + k * 4) (l := la) (m := la) (t := ta) (u := ta) (sv := .slice x0 x1 x2) (sw := .slice s0 s1 s2) (w0 := W) (by repeat (first | with_reducible exact hT | with_reducible refine J2.drew ?_)) hb2))
              try go_wp2_with fail
              refine hK.out _ _ ?_ (fun hHeld => ?_)
              · ((try dsimp only); (show J2 X b (off + k * 4) la la ta ta (.slice x0 x1 x2) (.slice s0 s1 s2) W _; repeat (first | with_reducible exact hT | with_reducible refine J2.drew ?_)))
              clear hK K
              (try simp only [Act.put, List.setIfInBounds_toArray, List.set_cons_zero, List.set_cons_succ])
              refine wpAnyH_take (i := 10) (oi := ⟨some 54, _, _, _, _, _⟩) (v := ?_) rfl (by kernel_rfl) (by kernel_rfl) (by kernel_rfl) (fun _ _ _ h => h) (Or.inl ⟨by rfl, ?_⟩) (by assumption) ?_
              rotate_left
              · (intro w hSw; (try dsimp only at hSw); go_simp; try (with_reducible rfl))
              simp only [Act.put, List.setIfInBounds_toArray, List.set_cons_zero, List.set_cons_succ]
              refine wpAnyH_take (i := 11) (oi := ⟨some 55, _, _, _, _, _⟩) (v := ?_) rfl (by kernel_rfl) (by kernel_rfl) (by kernel_rfl) (fun _ _ _ h => h) (Or.inl ⟨by rfl, ?_⟩) (by assumption) ?_
              rotate_left
              · (intro w hSw; (try dsimp only at hSw); go_simp; try (with_reducible rfl))
              simp only [Act.put, List.setIfInBounds_toArray, List.set_cons_zero, List.set_cons_succ]
              refine wpAnyH_take (i := 12) (oi := ⟨some 56, _, _, _, _, _⟩) (v := ?_) rfl (by kernel_rfl) (by kernel_rfl) (by kernel_rfl) (fun _ _ _ h => h) (Or.inl ⟨by rfl, ?_⟩) (by assumption) ?_
              rotate_left
              · (intro w hSw; (try dsimp only at hSw); go_simp; try (with_reducible rfl))
              simp only [Act.put, List.setIfInBounds_toArray, List.set_cons_zero, List.set_cons_succ]
              refine wpAnyH_take (i := 13) (oi := ⟨some 57, _, _, _, _, _⟩) (v := ?_) rfl (by kernel_rfl) (by kernel_rfl) (by kernel_rfl) (fun _ _ _ h => h) (Or.inl ⟨by rfl, ?_⟩) (by assumption) ?_
              rotate_left
              · (intro w hSw; (try dsimp only at hSw); go_simp; try (with_reducible rfl))
              simp only [Act.put, List.setIfInBounds_toArray, List.set_cons_zero, List.set_cons_succ]
              refine wpAnyH_take (i := 14) (oi := ⟨some 58, _, _, _, _, _⟩) (v := ?_) rfl (by kernel_rfl) (by kernel_rfl) (by kernel_rfl) (fun _ _ _ h => h) (Or.inl ⟨by rfl, ?_⟩) (by assumption) ?_
              rotate_left
              · (intro w hSw; (try dsimp only at hSw); go_simp; try (with_reducible rfl))
              simp only [Act.put, List.setIfInBounds_toArray, List.set_cons_zero, List.set_cons_succ]
              refine wpAnyH_take (i := 15) (oi := ⟨some 59, _, _, _, _, _⟩) (v := ?_) rfl (by kernel_rfl) (by kernel_rfl) (by kernel_rfl) (fun _ _ _ h => h) (Or.inl ⟨by rfl, ?_⟩) (by assumption) ?_
              rotate_left
              · (intro w hSw; (try dsimp only at hSw); go_simp; try (with_reducible rfl))
              simp only [Act.put, List.setIfInBounds_toArray, List.set_cons_zero, List.set_cons_succ]
              refine wpAnyH_take (i := 16) (oi := ⟨some 60, _, _, _, _, _⟩) (v := ?_) rfl (by kernel_rfl) (by kernel_rfl) (by kernel_rfl) (fun _ _ _ h => h) (Or.inl ⟨by rfl, ?_⟩) (by assumption) ?_
              rotate_left
              · (intro w hSw; (try dsimp only at hSw); go_simp; try (with_reducible rfl))
              simp only [Act.put, List.setIfInBounds_toArray, List.set_cons_zero, List.set_cons_succ]
              refine wpAnyH_take (i := 17) (oi := ⟨some 61, _, _, _, _, _⟩) (v := undef) rfl (by kernel_rfl) (by kernel_rfl) (by kernel_rfl) (fun _ _ _ h => h) (Or.inr ⟨by rfl, rfl⟩) (by assumption) ?_
              (try simp only [Act.put, List.setIfInBounds_toArray, List.set_cons_zero, List.set_cons_succ])
              refine wpAnyH_ready (rs := [18]) (by kernel_rfl) (by simp) ?_
              refine AllReadyH.cons (o := ⟨some 62, _, _, _, _, _⟩) rfl (fun K hK => ?_) AllReadyH.nil
              go_simp
              refine hK.out _ _ ?_ (fun hHeld => ?_)
              · ((try dsimp only); (show J2 X b (off + k * 4) la la ta ta (.slice x0 x1 x2) (.slice s0 s1 s2) W _; repeat (first | with_reducible exact hT | with_reducible refine J2.drew ?_)))
              clear hK K
              (try simp only [Act.put, List.setIfInBounds_toArray, List.set_cons_zero, List.set_cons_succ])
              refine wpAnyH_take (i := 19) (oi := ⟨some 63, _, _, _, _, _⟩) (v := undef) rfl (by kernel_rfl) (by kernel_rfl) (by kernel_rfl) (fun _ _ _ h => h) (Or.inr ⟨by rfl, rfl⟩) (by assumption) ?_
              (try simp only [Act.put, List.setIfInBounds_toArray, List.set_cons_zero, List.set_cons_succ])
              refine wpAnyH_take (i := 20) (oi := ⟨some 64, _, _, _, _, _⟩) (v := ?_) rfl (by kernel_rfl) (by kernel_rfl) (by kernel_rfl) (fun _ _ _ h => h) (Or.inl ⟨by rfl, ?_⟩) (by assumption) ?_
              rotate_left
              · (intro w hSw; (try dsimp only at hSw); go_simp; try (with_reducible rfl))
              simp only [Act.put, List.setIfInBounds_toArray, List.set_cons_zero, List.set_cons_succ]
              refine wpAnyH_take (i := 21) (oi := ⟨some 65, _, _, _, _, _⟩) (v := ?_) rfl (by kernel_rfl) (by kernel_rfl) (by kernel_rfl) (fun _ _ _ h => h) (Or.inl ⟨by rfl, ?_⟩) (by assumption) ?_
              rotate_left
              · (intro w hSw; (try dsimp only at hSw); go_simp; try (with_reducible rfl))
              simp only [Act.put, List.setIfInBounds_toArray, List.set_cons_zero, List.set_cons_succ]
              refine wpAnyH_take (i := 22) (oi := ⟨some 66, _, _, _, _, _⟩) (v := ?_) rfl (by kernel_rfl) (by kernel_rfl) (by kernel_rfl) (fun _ _ _ h => h) (Or.inl ⟨by rfl, ?_⟩) (by assumption) ?_
              rotate_left
              · (intro w hSw; (try dsimp only at hSw); go_simp; try (with_reducible rfl))
              simp only [Act.put, List.setIfInBounds_toArray, List.set_cons_zero, List.set_cons_succ]
              refine wpAnyH_take (i := 23) (oi := ⟨some 67, _, _, _, _, _⟩) (v := ?_) rfl (by kernel_rfl) (by kernel_rfl) (by kernel_rfl) (fun _ _ _ h => h) (Or.inl ⟨by rfl, ?_⟩) (by assumption) ?_
              rotate_left
              · (intro w hSw; (try dsimp only at hSw); go_simp; try (with_reducible rfl))
              simp only [Act.put, List.setIfInBounds_toArray, List.set_cons_zero, List.set_cons_succ]
              refine wpAnyH_take (i := 24) (oi := ⟨some 68, _, _, _, _, _⟩) (v := ?_) rfl (by kernel_rfl) (by kernel_rfl) (by kernel_rfl) (fun _ _ _ h => h) (Or.inl ⟨by rfl, ?_⟩) (by assumption) ?_
              rotate_left
              · (intro w hSw; (try dsimp only at hSw); go_simp; try (with_reducible rfl))
              simp only [Act.put, List.setIfInBounds_toArray, List.set_cons_zero, List.set_cons_succ]
              refine wpAnyH_take (i := 25) (oi := ⟨some 69, _, _, _, _, _⟩) (v := ?_) rfl (by kernel_rfl) (by kernel_rfl) (by kernel_rfl) (fun _ _ _ h => h) (Or.inl ⟨by rfl, ?_⟩) (by assumption) ?_
              rotate_left
              · (intro w hSw; (try dsimp only at hSw); go_simp; try (with_reducible rfl))
              simp only [Act.put, List.setIfInBounds_toArray, List.set_cons_zero, List.set_cons_succ]
              refine wpAnyH_take (i := 26) (oi := ⟨some 70, _, _, _, _, _⟩) (v := ?_) rfl (by kernel_rfl) (by kernel_rfl) (by kernel_rfl) (fun _ _ _ h => h) (Or.inl ⟨by rfl, ?_⟩) (by assumption) ?_
              rotate_left
              · (intro w hSw; (try dsimp only at hSw); go_simp; try (with_reducible rfl))
              simp only [Act.put, List.setIfInBounds_toArray, List.set_cons_zero, List.set_cons_succ]
              refine wpAnyH_take (i := 27) (oi := ⟨some 71, _, _, _, _, _⟩) (v := ?_) rfl (by kernel_rfl) (by kernel_rfl) (by kernel_rfl) (fun _ _ _ h => h) (Or.inl ⟨by rfl, ?_⟩) (by assumption) ?_
              rotate_left
              · (intro w hSw; (try dsimp only at hSw); go_simp; try (with_reducible rfl))
              simp only [Act.put, List.setIfInBounds_toArray, List.set_cons_zero, List.set_cons_succ]
              refine wpAnyH_take (i := 28) (oi := ⟨some 72, _, _, _, _, _⟩) (v := ?_) rfl (by kernel_rfl) (by kernel_rfl) (by kernel_rfl) (fun _ _ _ h => h) (Or.inl ⟨by rfl, ?_⟩) (by assumption) ?_
              rotate_left
              · (intro w hSw; (try dsimp only at hSw); go_simp; try (with_reducible rfl))
              simp only [Act.put, List.setIfInBounds_toArray, List.set_cons_zero, List.set_cons_succ]
              refine wpAnyH_take (i := 29) (oi := ⟨some 73, _, _, _, _, _⟩) (v := ?_) rfl (by kernel_rfl) (by kernel_rfl) (by kernel_rfl) (fun _ _ _ h => h) (Or.inl ⟨by rfl, ?_⟩) (by assumption) ?_
              rotate_left
              · (intro w hSw; (try dsimp only at hSw); go_simp; try (with_reducible rfl))
              simp only [Act.put, List.setIfInBounds_toArray, List.set_cons_zero, List.set_cons_succ]
              refine wpAnyH_take (i := 30) (oi := ⟨some 74, _, _, _, _, _⟩) (v := ?_) rfl (by kernel_rfl) (by kernel_rfl) (by kernel_rfl) (fun _ _ _ h => h) (Or.inl ⟨by rfl, ?_⟩) (by assumption) ?_
              rotate_left
              · (intro w hSw; (try dsimp only at hSw); go_simp; try (with_reducible rfl))
              simp only [Act.put, List.setIfInBounds_toArray, List.set_cons_zero, List.set_cons_succ]
              refine wpAnyH_take (i := 31) (oi := ⟨some 75, _, _, _, _, _⟩) (v := ?_) rfl (by kernel_rfl) (by kernel_rfl) (by kernel_rfl) (fun _ _ _ h => h) (Or.inl ⟨by rfl, ?_⟩) (by assumption) ?_
              rotate_left
              · (intro w hSw; (try dsimp only at hSw); go_simp; try (with_reducible rfl))
              simp only [Act.put, List.setIfInBounds_toArray, List.set_cons_zero, List.set_cons_succ]
              refine wpAnyH_take (i := 32) (oi := ⟨some 76, _, _, _, _, _⟩) (v := ?_) rfl (by kernel_rfl) (by kernel_rfl) (by kernel_rfl) (fun _ _ _ h => h) (Or.inl ⟨by rfl, ?_⟩) (by assumption) ?_
              rotate_left
              · (intro w hSw; (try dsimp only at hSw); go_simp; try (with_reducible rfl))
              simp only [Act.put, List.setIfInBounds_toArray, List.set_cons_zero, List.set_cons_succ]
              refine wpAnyH_take (i := 33) (oi := ⟨some 77, _, _, _, _, _⟩) (v := ?_) rfl (by kernel_rfl) (by kernel_rfl) (by kernel_rfl) (fun _ _ _ h => h) (Or.inl ⟨by rfl, ?_⟩) (by assumption) ?_
              rotate_left
              · (intro w hSw; (try dsimp only at hSw); go_simp; try (with_reducible rfl))
              simp only [Act.put, List.setIfInBounds_toArray, List.set_cons_zero, List.set_cons_succ]
              refine wpAnyH_ready (rs := [34]) (by kernel_rfl) (by simp) ?_
              refine AllReadyH.cons (o := ⟨some 78, _, _, _, _, _⟩) rfl (fun K hK => ?_) AllReadyH.nil
              go_simp
              (first | (go_at_call 15; refine (num4 _ _).mono ?_; rintro e w2 ⟨rfl, rfl⟩) | (go_at_call 16; refine (HCk.out _ (by repeat (first | with_reducible exact hT.bel | with_reducible refine Below.drew ?_))).mono ?_; rintro e w2 ⟨rfl, hb2⟩; have hT := J2.below (X := X) (b := b) (o := off + k * 4) (l := la) (m := la) (t := ta) (u := ta) (sv := .slice x0 x1 x2) (sw := .slice s0 s1 s2) (w0 := W) (by repeat (first | with_reducible exact hT | with_reducible refine J2.drew ?_)) hb2) | (go_at_call 17; refine (HEq.out _ (by repeat (first | with_reducible exact hT.bel | with_reducible refine Below.drew ?_))).mono ?_; rintro e w2 ⟨rfl, hb2⟩; have hT := J2.below (X := X) (b := b) (o := off + k * 4) (l := la) (m := la) (t := ta) (u := ta) (sv := .slice x0 x1 x2) (sw := .slice s0 s1 s2) (w0 := W) (by repeat (first | with_reducible exact hT | with_reducible refine J2.drew ?_)) hb2))
              try go_wp2_with fail
              refine hK.out _ _ ?_ (fun hHeld => ?_)
              · ((try dsimp only); (show J2 X b (off + k * 4) la la ta ta (.slice x0 x1 x2) (.slice s0 s1 s2) W _; repeat (first | with_reducible exact hT | with_reducible refine J2.drew ?_)))
              clear hK K
              (try simp only [Act.put, List.setIfInBounds_toArray, List.set_cons_zero, List.set_cons_succ])
              refine wpAnyH_take (i := 35) (oi := ⟨some 79, _, _, _, _, _⟩) (v := ?_) rfl (by kernel_rfl) (by kernel_rfl) (by kernel_rfl) (fun _ _ _ h => h) (Or.inl ⟨by rfl, ?_⟩) (by assumption) ?_
              rotate_left
              · (intro w hSw; (try dsimp only at hSw); go_simp; try (with_reducible rfl))
              simp only [Act.put, List.setIfInBounds_toArray, List.set_cons_zero, List.set_cons_succ]
              refine wpAnyH_take (i := 36) (oi := ⟨some 80, _, _, _, _, _⟩) (v := ?_) rfl (by kernel_rfl) (by kernel_rfl) (by kernel_rfl) (fun _ _ _ h => h) (Or.inl ⟨by rfl, ?_⟩) (by assumption) ?_
              rotate_left
              · (intro w hSw; (try dsimp only at hSw); go_simp; try (with_reducible rfl))
              simp only [Act.put, List.setIfInBounds_toArray, List.set_cons_zero, List.set_cons_succ]
              refine wpAnyH_done (by kernel_rfl) ?_ _
              refine NoPanic.normal ?_
              all_goals
                go_wp2_with fail
                go_meet
                exact ⟨rfl, hT.bel⟩
            · go_region_held3 (fun w' => w'.cell? ⟨X, 0, none⟩ = some (.bool la) ∧ w'.cell? ⟨X, 1, none⟩ = some (.string ta) ∧ w'.cell? ⟨X, 2, none⟩ = some (.slice x0 x1 x2) ∧ w'.cell? ⟨b, off + k * 4, none⟩ = some (.bool la) ∧ w'.cell? ⟨b, off + k * 4 + 1, none⟩ = some (.string ta) ∧ w'.cell? ⟨b, off + k * 4 + 2, none⟩ = some (.slice s0 s1 s2) ∧ Below W.heap.size W w') ((show J2 X b (off + k * 4) la la ta ta (.slice x0 x1 x2) (.slice s0 s1 s2) W _; repeat (first | with_reducible exact hT | with_reducible refine J2.drew ?_))) ((first | (go_at_call 15; refine (num4 _ _).mono ?_; rintro e w2 ⟨rfl, rfl⟩) | (go_at_call 16; refine (HCk.out _ (by repeat (first | with_reducible exact hT.bel | with_reducible refine Below.drew ?_))).mono ?_; rintro e w2 ⟨rfl, hb2⟩; have hT := J2.below (X := X) (b := b) (o := off + k * 4) (l := la) (m := la) (t := ta) (u := ta) (sv := .slice x0 x1 x2) (sw := .slice s0 s1 s2) (w0 := W) (by repeat (first | with_reducible exact hT | with_reducible refine J2.drew ?_)) hb2) | (go_at_call 17; refine (HEq.out _ (by repeat (first | with_reducible exact hT.bel | with_reducible refine Below.drew ?_))).mono ?_; rintro e w2 ⟨rfl, hb2⟩; have hT := J2.below (X := X) (b := b) (o := off + k * 4) (l := la) (m := la) (t := ta) (u := ta) (sv := .slice x0 x1 x2) (sw := .slice s0 s1 s2) (w0 := W) (by repeat (first | with_reducible exact hT | with_reducible refine J2.drew ?_)) hb2)))
              all_goals
                go_wp2_with fail
                go_meet
                exact ⟨rfl, hT.bel⟩
          case rest =>
            obtain ⟨rfl, hbz⟩ := hcut
            have hB := HW.out.trans (hbz.mono HW.out.size)
            clear hT
            go_wp2_with fail
            go_roundw
            case rel => exact ⟨k + 1, by omega, by omega, by go_num, hB⟩
            case measure => simp [intOf]; omega
      · have h6' : ¬ (k : Int) < 6 := by omega
        go_wp2_with (go_at_call 18; refine (wakes _).mono ?_; rintro e w1 ⟨rfl, hb1⟩)
        go_ret
        exact ⟨rfl, hbo.trans (hb1.mono hszo)⟩
    · have hlt' : ¬ (k : Int) < (qs.length : Int) := by omega
      go_wp2_with (go_at_call 18; refine (wakes _).mono ?_; rintro e w1 ⟨rfl, hb1⟩)
      go_ret
      exact ⟨rfl, hbo.trans (hb1.mono hszo)⟩
end Go.Proofs.Ytddoanldjpeplaa

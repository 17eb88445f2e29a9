import Derived.Test.YtljfenjpnanoiaaLvlE
import Derived.Test.YtljfenjpnanoiaaT3
import Derived.Test.YtljfenjpnanoiaaMeet
import Derived.Test.YtljfenjpnanoiaaT3b
import Derived.Test.YtljfenjpnanoiaaRAdd
import Derived.Deep.RegionWith
import Derived.Deep.DeepCutAuto
import Derived.Deep.CutBlock
import Derived.Deep.RegionHeld3
set_option linter.unusedSimpArgs false
set_option linter.unusedVariables false
namespace Go.Proofs.Ytljfenjpnanoiaa
open Go.RowKit

set_option maxRecDepth 100000 in
set_option maxHeartbeats 4000000 in
theorem levelTells_walk (v : Value) (ns : List Nat) (w : World) (hs : Sl w v ns) :
    Calls Try.prog 3 #[v] w fun e w' => e = .returned (.bool true) ∧ Below w.heap.size w w' := by
  obtain ⟨ad, cap, rfl, hat⟩ := hs.at
  have HA : Hid (∀ i (hi : i < ns.length), ∃ b off, ad = some ⟨b, off, none⟩ ∧ w.cell? ⟨b, off + i * 4, none⟩ = some (.int .u64 (lb ns[i] 0)) ∧ w.cell? ⟨b, off + i * 4 + 1, none⟩ = some (.int .u64 (lb ns[i] 1)) ∧ w.cell? ⟨b, off + i * 4 + 2, none⟩ = some (.int .u64 (lb ns[i] 2)) ∧ w.cell? ⟨b, off + i * 4 + 3, none⟩ = some (.int .u64 (lb ns[i] 3))) := hat
  have HS : Hid (Sl w (.slice ad ns.length cap) ns) := hs
  have hlen : ns.length ≤ 9223372036854775807 := hs.2.1
  clear hat hs
  go_enter Try.func3, Try.ntmps3
  go_wp2_with fail
  go_loopw [3] (fun i wr => ∃ k : Nat, k ≤ ns.length ∧ k ≤ 15 ∧ i = .int .i64 k ∧ Below w.heap.size w wr) (fun i _ => 15 - (intOf i).toNat)
  case atStart => exact ⟨0, by omega, by omega, rfl, Below.refl _ _⟩
  case round =>
    obtain ⟨i, hi1, hi2, rfl, hbo⟩ := hrel
    have hszo := hbo.size
    by_cases hlt : i < ns.length
    · have hlt' : (i : Int) < (ns.length : Int) := by omega
      by_cases hlt2 : i < 15
      · focus
          have hlt3 : (i : Int) < 15 := by omega
          obtain ⟨b, off, hadd, hc0, hc1, hc2, hc3⟩ := HA.out i hlt
          subst hadd
          have hc0 := (hbo.cell (p := ⟨b, off + i * 4, none⟩) (cell_lt hc0)).trans hc0
          have hc1 := (hbo.cell (p := ⟨b, off + i * 4 + 1, none⟩) (cell_lt hc1)).trans hc1
          have hc2 := (hbo.cell (p := ⟨b, off + i * 4 + 2, none⟩) (cell_lt hc2)).trans hc2
          have hc3 := (hbo.cell (p := ⟨b, off + i * 4 + 3, none⟩) (cell_lt hc3)).trans hc3
          have Hn : Hid (ns[i] < M256) := HS.out.1 _ (List.getElem_mem hlt)
          obtain ⟨n, hn⟩ : ∃ n, n = ns[i] := ⟨_, rfl⟩
          have HN : Hid (n = ns[i]) := hn
          rw [← hn] at hc0 hc1 hc2 hc3 Hn
          clear hn
          have hbw : b < wr.heap.size := cell_lt hc0
          have hdo := fun w => double n Hn.out w
          have hva : (n + n < M256 ∧ addOkE n n = 0 ∧ addOk n n = true) ∨ (addV n n = 0 ∧ addOkE n n = 8 ∧ addOk n n = false) := by
            unfold addV addOkE addOk
            by_cases h : n + n < M256
            · left; simp [h]
            · right; simp [h]
          have hra := fun w => radd n n Hn.out Hn.out w
          generalize addV n n = s at *
          generalize addOkE n n = ee at *
          generalize addOk n n = oo at *
          have HR : Hid (∀ w, Calls Try.prog 10 #[V n, V n] w fun e w' => e = .returned (.tuple #[V s, .bool oo]) ∧ Below w.heap.size w w') := hra
          have HVA : Hid ((n + n < M256 ∧ ee = 0 ∧ oo = true) ∨ (s = 0 ∧ ee = 8 ∧ oo = false)) := hva
          clear hra hva
          go_upto_region 5 with (go_at_call 9; refine (hdo _).mono ?_; rintro e w1 ⟨rfl, hb1⟩)
          have bD := Bk.new w1 (A4 (lb (s) 0) (lb (s) 1) (lb (s) 2) (lb (s) 3)) 25
          have hs1 := hb1.size
          have hbx : Below wr.heap.size wr (w1.alloc (.cells (A4 (lb (s) 0) (lb (s) 1) (lb (s) 2) (lb (s) 3)) 25)) := hb1.alloc hb1.size _
          have hc0 := (hbx.cell (p := ⟨b, off + i * 4, none⟩) (show b < _ by omega)).trans hc0
          have hc1 := (hbx.cell (p := ⟨b, off + i * 4 + 1, none⟩) (show b < _ by omega)).trans hc1
          have hc2 := (hbx.cell (p := ⟨b, off + i * 4 + 2, none⟩) (show b < _ by omega)).trans hc2
          have hc3 := (hbx.cell (p := ⟨b, off + i * 4 + 3, none⟩) (show b < _ by omega)).trans hc3
          obtain ⟨D, hD⟩ : ∃ D, D = w1.heap.size := ⟨_, rfl⟩
          rw [← hD] at bD ⊢
          clear hdo hb1 hs1 hD
          generalize w1.alloc _ = wa at *
          have hsza := hbx.size
          go_cut [6, 7] (fun p e wx => ∃ B, p = .pointer (some ⟨B, 0, none⟩) ∧ wa.heap.size ≤ B ∧ Bk wx B (A4 (lb (s) 0) (lb (s) 1) (lb (s) 2) (lb (s) 3)) 25 ∧ e = .bool oo ∧ Below wa.heap.size wa wx)
          case first =>
            have hbw2 : b < wa.heap.size := by omega
            have hbn : ¬ b = wa.heap.size := by omega
            go_region_with (go_at_call 10; refine (HR.out _).mono ?_; rintro e w2 ⟨rfl, hb2⟩; have hsz2 := hb2.size; simp only [World.size_alloc, World.size_drew] at hsz2 hb2; try (have hz := (Bk.new wa (A4 0 0 0 0) 25).drew.below hb2 (by omega); have hz0 := hz.cell 0; have hz1 := hz.cell 1; have hz2 := hz.cell 2; have hz3 := hz.cell 3; have hf0 := hz.frozen 0; have hf1 := hz.frozen 1; have hf2 := hz.frozen 2; have hf3 := hz.frozen 3; simp only [List.getElem?_toArray, List.getElem?_cons_zero, List.getElem?_cons_succ] at hz0 hz1 hz2 hz3))
            all_goals
              go_wp2_with fail
              go_meet
              first
                | exact meetB hz hb2
                | exact meetA hsz2 hb2
          case rest =>
            obtain ⟨X, rfl, _, bX, rfl, hby⟩ := hcut
            obtain ⟨wb, rfl⟩ : ∃ wb : World, wb = wc := ⟨_, rfl⟩
            have bD := bD.below hby bD.lt
            have hBB := hbo.trans ((hbx.trans (hby.mono hsza)).mono hszo)
            have hc0 := (hby.cell (p := ⟨b, off + i * 4, none⟩) (show b < _ by omega)).trans hc0
            have hc1 := (hby.cell (p := ⟨b, off + i * 4 + 1, none⟩) (show b < _ by omega)).trans hc1
            have hc2 := (hby.cell (p := ⟨b, off + i * 4 + 2, none⟩) (show b < _ by omega)).trans hc2
            have hc3 := (hby.cell (p := ⟨b, off + i * 4 + 3, none⟩) (show b < _ by omega)).trans hc3
            clear hbx hby hszo hbo
            go_upto_region 6 with fail
            go_cut [70] (fun c wx => c = .bool false ∧ Below wb.heap.size wb wx)
            case first =>
              have hne0 : ((lvl n : Int) != (lvl n : Int)) = false := by rw [bne_eq_false_iff_eq]
              have hsm := fun w => neq_same s w
              have p0 := bD.cell 0; have pf0 := bD.frozen 0; have p1 := bD.cell 1; have pf1 := bD.frozen 1; have p2 := bD.cell 2; have pf2 := bD.frozen 2; have p3 := bD.cell 3; have pf3 := bD.frozen 3; simp only [List.getElem?_toArray, List.getElem?_cons_zero, List.getElem?_cons_succ] at p0 p1 p2 p3
              have q0 := bX.cell 0; have qf0 := bX.frozen 0; have q1 := bX.cell 1; have qf1 := bX.frozen 1; have q2 := bX.cell 2; have qf2 := bX.frozen 2; have q3 := bX.cell 3; have qf3 := bX.frozen 3; simp only [List.getElem?_toArray, List.getElem?_cons_zero, List.getElem?_cons_succ] at q0 q1 q2 q3
              have hT : T3b b (off + i * 4) D 0 X 0 n s s wb wb := ⟨hc0, hc1, hc2, hc3, p0, p1, p2, p3, q0, q1, q2, q3, Below.refl _ _⟩
              clear bD bX pf0 pf1 pf2 pf3 qf0 qf1 qf2 qf3
              have hnt : (!true) = false := rfl
              have hnf : (!false) = true := rfl
              rcases HVA.out with ⟨hx, rfl, rfl⟩ | ⟨hx, rfl, rfl⟩ <;> clear hx HVA
              · refine wp_region_noPanic ?_
                refine wp_region_held_drew (S := (fun w' => w'.cell? ⟨b, off + i * 4, none⟩ = some (.int .u64 (lb n 0)) ∧ w'.cell? ⟨b, off + i * 4 + 1, none⟩ = some (.int .u64 (lb n 1)) ∧ w'.cell? ⟨b, off + i * 4 + 2, none⟩ = some (.int .u64 (lb n 2)) ∧ w'.cell? ⟨b, off + i * 4 + 3, none⟩ = some (.int .u64 (lb n 3)) ∧ w'.cell? ⟨D, 0, none⟩ = some (.int .u64 (lb s 0)) ∧ w'.cell? ⟨D, 1, none⟩ = some (.int .u64 (lb s 1)) ∧ w'.cell? ⟨D, 2, none⟩ = some (.int .u64 (lb s 2)) ∧ w'.cell? ⟨D, 3, none⟩ = some (.int .u64 (lb s 3)) ∧ w'.cell? ⟨X, 0, none⟩ = some (.int .u64 (lb s 0)) ∧ w'.cell? ⟨X, 1, none⟩ = some (.int .u64 (lb s 1)) ∧ w'.cell? ⟨X, 2, none⟩ = some (.int .u64 (lb s 2)) ∧ w'.cell? ⟨X, 3, none⟩ = some (.int .u64 (lb s 3)) ∧ Below wb.heap.size wb w')) (by kernel_rfl) ?_ (fun hHeld => ?_)
                · ((try dsimp only); (show T3b b (off + i * 4) D 0 X 0 n s s wb _; repeat (first | with_reducible exact hT | with_reducible refine T3b.drew ?_)))
                refine wpAnyH_take (i := 0) (oi := ⟨some 39, _, _, _, _, _⟩) (v := ?_) rfl (by kernel_rfl) (by kernel_rfl) (by kernel_rfl) (fun _ _ _ h => h) (Or.inl ⟨by rfl, ?_⟩) (by assumption) ?_
                rotate_left
                · (intro w hSw; (try dsimp only at hSw); go_simp; try (with_reducible rfl))
                simp only [Act.put, List.setIfInBounds_toArray, List.set_cons_zero, List.set_cons_succ]
                refine wpAnyH_take (i := 1) (oi := ⟨some 40, _, _, _, _, _⟩) (v := ?_) rfl (by kernel_rfl) (by kernel_rfl) (by kernel_rfl) (fun _ _ _ h => h) (Or.inl ⟨by rfl, ?_⟩) (by assumption) ?_
                rotate_left
                · (intro w hSw; (try dsimp only at hSw); go_simp; try (with_reducible rfl))
                simp only [Act.put, List.setIfInBounds_toArray, List.set_cons_zero, List.set_cons_succ]
                refine wpAnyH_take (i := 2) (oi := ⟨some 41, _, _, _, _, _⟩) (v := ?_) rfl (by kernel_rfl) (by kernel_rfl) (by kernel_rfl) (fun _ _ _ h => h) (Or.inl ⟨by rfl, ?_⟩) (by assumption) ?_
                rotate_left
                · (intro w hSw; (try dsimp only at hSw); go_simp; try (with_reducible rfl))
                simp only [Act.put, List.setIfInBounds_toArray, List.set_cons_zero, List.set_cons_succ]
                refine wpAnyH_take (i := 3) (oi := ⟨some 42, _, _, _, _, _⟩) (v := ?_) rfl (by kernel_rfl) (by kernel_rfl) (by kernel_rfl) (fun _ _ _ h => h) (Or.inl ⟨by rfl, ?_⟩) (by assumption) ?_
                rotate_left
                · (intro w hSw; (try dsimp only at hSw); go_simp; try (with_reducible rfl))
                simp only [Act.put, List.setIfInBounds_toArray, List.set_cons_zero, List.set_cons_succ]
                refine wpAnyH_take (i := 5) (oi := ⟨some 44, _, _, _, _, _⟩) (v := ?_) rfl (by kernel_rfl) (by kernel_rfl) (by kernel_rfl) (fun _ _ _ h => h) (Or.inl ⟨by rfl, ?_⟩) (by assumption) ?_
                rotate_left
                · (intro w hSw; (try dsimp only at hSw); go_simp; try (with_reducible rfl))
                simp only [Act.put, List.setIfInBounds_toArray, List.set_cons_zero, List.set_cons_succ]
                refine wpAnyH_take (i := 6) (oi := ⟨some 45, _, _, _, _, _⟩) (v := ?_) rfl (by kernel_rfl) (by kernel_rfl) (by kernel_rfl) (fun _ _ _ h => h) (Or.inl ⟨by rfl, ?_⟩) (by assumption) ?_
                rotate_left
                · (intro w hSw; (try dsimp only at hSw); go_simp; try (with_reducible rfl))
                simp only [Act.put, List.setIfInBounds_toArray, List.set_cons_zero, List.set_cons_succ]
                refine wpAnyH_take (i := 7) (oi := ⟨some 46, _, _, _, _, _⟩) (v := ?_) rfl (by kernel_rfl) (by kernel_rfl) (by kernel_rfl) (fun _ _ _ h => h) (Or.inl ⟨by rfl, ?_⟩) (by assumption) ?_
                rotate_left
                · (intro w hSw; (try dsimp only at hSw); go_simp; try (with_reducible rfl))
                simp only [Act.put, List.setIfInBounds_toArray, List.set_cons_zero, List.set_cons_succ]
                refine wpAnyH_take (i := 8) (oi := ⟨some 47, _, _, _, _, _⟩) (v := ?_) rfl (by kernel_rfl) (by kernel_rfl) (by kernel_rfl) (fun _ _ _ h => h) (Or.inl ⟨by rfl, ?_⟩) (by assumption) ?_
                rotate_left
                · (intro w hSw; (try dsimp only at hSw); go_simp; try (with_reducible rfl))
                simp only [Act.put, List.setIfInBounds_toArray, List.set_cons_zero, List.set_cons_succ]
                refine wpAnyH_ready (rs := [4]) (by kernel_rfl) (by simp) ?_
                refine AllReadyH.cons (o := ⟨some 43, _, _, _, _, _⟩) rfl (fun K hK => ?_) AllReadyH.nil
                go_simp
                (first | (go_at_call 13; refine (num3_any _ _).mono ?_; rintro e w9 ⟨rfl, rfl⟩) | (go_at_call 11; refine (level n Hn.out _).mono ?_; rintro e w2 ⟨rfl, hb2⟩; have hT := T3b.below (b := b) (o := off + i * 4) (B := D) (p := 0) (X := X) (q := 0) (a := n) (c := s) (d := s) (w0 := wb) (by repeat (first | with_reducible exact hT | with_reducible refine T3b.drew ?_)) hb2) | (go_at_call 12; refine (rlevel n Hn.out _).mono ?_; rintro e w2 ⟨rfl, hb2⟩; have hT := T3b.below (b := b) (o := off + i * 4) (B := D) (p := 0) (X := X) (q := 0) (a := n) (c := s) (d := s) (w0 := wb) (by repeat (first | with_reducible exact hT | with_reducible refine T3b.drew ?_)) hb2))
                try go_wp2_with fail
                refine hK.out _ _ ?_ (fun hHeld => ?_)
                · ((try dsimp only); (show T3b b (off + i * 4) D 0 X 0 n s s wb _; repeat (first | with_reducible exact hT | with_reducible refine T3b.drew ?_)))
                clear hK K
                (try simp only [Act.put, List.setIfInBounds_toArray, List.set_cons_zero, List.set_cons_succ])
                refine wpAnyH_ready (rs := [9]) (by kernel_rfl) (by simp) ?_
                refine AllReadyH.cons (o := ⟨some 48, _, _, _, _, _⟩) rfl (fun K hK => ?_) AllReadyH.nil
                go_simp
                (first | (go_at_call 13; refine (num3_any _ _).mono ?_; rintro e w9 ⟨rfl, rfl⟩) | (go_at_call 11; refine (level n Hn.out _).mono ?_; rintro e w2 ⟨rfl, hb2⟩; have hT := T3b.below (b := b) (o := off + i * 4) (B := D) (p := 0) (X := X) (q := 0) (a := n) (c := s) (d := s) (w0 := wb) (by repeat (first | with_reducible exact hT | with_reducible refine T3b.drew ?_)) hb2) | (go_at_call 12; refine (rlevel n Hn.out _).mono ?_; rintro e w2 ⟨rfl, hb2⟩; have hT := T3b.below (b := b) (o := off + i * 4) (B := D) (p := 0) (X := X) (q := 0) (a := n) (c := s) (d := s) (w0 := wb) (by repeat (first | with_reducible exact hT | with_reducible refine T3b.drew ?_)) hb2))
                try go_wp2_with fail
                refine hK.out _ _ ?_ (fun hHeld => ?_)
                · ((try dsimp only); (show T3b b (off + i * 4) D 0 X 0 n s s wb _; repeat (first | with_reducible exact hT | with_reducible refine T3b.drew ?_)))
                clear hK K
                (try simp only [Act.put, List.setIfInBounds_toArray, List.set_cons_zero, List.set_cons_succ])
                refine wpAnyH_take (i := 10) (oi := ⟨some 49, _, _, _, _, _⟩) (v := ?_) rfl (by kernel_rfl) (by kernel_rfl) (by kernel_rfl) (fun _ _ _ h => h) (Or.inl ⟨by rfl, ?_⟩) (by assumption) ?_
                rotate_left
                · (intro w hSw; (try dsimp only at hSw); go_simp; try (with_reducible rfl))
                simp only [Act.put, List.setIfInBounds_toArray, List.set_cons_zero, List.set_cons_succ]
                refine wpAnyH_take (i := 11) (oi := ⟨some 50, _, _, _, _, _⟩) (v := ?_) rfl (by kernel_rfl) (by kernel_rfl) (by kernel_rfl) (fun _ _ _ h => h) (Or.inl ⟨by rfl, ?_⟩) (by assumption) ?_
                rotate_left
                · (intro w hSw; (try dsimp only at hSw); go_simp; try (with_reducible rfl))
                simp only [Act.put, List.setIfInBounds_toArray, List.set_cons_zero, List.set_cons_succ]
                refine wpAnyH_take (i := 12) (oi := ⟨some 51, _, _, _, _, _⟩) (v := ?_) rfl (by kernel_rfl) (by kernel_rfl) (by kernel_rfl) (fun _ _ _ h => h) (Or.inl ⟨by rfl, ?_⟩) (by assumption) ?_
                rotate_left
                · (intro w hSw; (try dsimp only at hSw); go_simp; try (with_reducible rfl))
                simp only [Act.put, List.setIfInBounds_toArray, List.set_cons_zero, List.set_cons_succ]
                refine wpAnyH_take (i := 13) (oi := ⟨some 52, _, _, _, _, _⟩) (v := ?_) rfl (by kernel_rfl) (by kernel_rfl) (by kernel_rfl) (fun _ _ _ h => h) (Or.inl ⟨by rfl, ?_⟩) (by assumption) ?_
                rotate_left
                · (intro w hSw; (try dsimp only at hSw); go_simp; try (with_reducible rfl))
                simp only [Act.put, List.setIfInBounds_toArray, List.set_cons_zero, List.set_cons_succ]
                refine wpAnyH_ready (rs := [14]) (by kernel_rfl) (by simp) ?_
                refine AllReadyH.cons (o := ⟨some 53, _, _, _, _, _⟩) rfl (fun K hK => ?_) AllReadyH.nil
                go_simp
                (first | (go_at_call 13; refine (num3_any _ _).mono ?_; rintro e w9 ⟨rfl, rfl⟩) | (go_at_call 11; refine (level n Hn.out _).mono ?_; rintro e w2 ⟨rfl, hb2⟩; have hT := T3b.below (b := b) (o := off + i * 4) (B := D) (p := 0) (X := X) (q := 0) (a := n) (c := s) (d := s) (w0 := wb) (by repeat (first | with_reducible exact hT | with_reducible refine T3b.drew ?_)) hb2) | (go_at_call 12; refine (rlevel n Hn.out _).mono ?_; rintro e w2 ⟨rfl, hb2⟩; have hT := T3b.below (b := b) (o := off + i * 4) (B := D) (p := 0) (X := X) (q := 0) (a := n) (c := s) (d := s) (w0 := wb) (by repeat (first | with_reducible exact hT | with_reducible refine T3b.drew ?_)) hb2))
                try go_wp2_with fail
                refine hK.out _ _ ?_ (fun hHeld => ?_)
                · ((try dsimp only); (show T3b b (off + i * 4) D 0 X 0 n s s wb _; repeat (first | with_reducible exact hT | with_reducible refine T3b.drew ?_)))
                clear hK K
                (try simp only [Act.put, List.setIfInBounds_toArray, List.set_cons_zero, List.set_cons_succ])
                refine wpAnyH_take (i := 15) (oi := ⟨some 54, _, _, _, _, _⟩) (v := ?_) rfl (by kernel_rfl) (by kernel_rfl) (by kernel_rfl) (fun _ _ _ h => h) (Or.inl ⟨by rfl, ?_⟩) (by assumption) ?_
                rotate_left
                · (intro w hSw; (try dsimp only at hSw); go_simp; try (with_reducible rfl))
                simp only [Act.put, List.setIfInBounds_toArray, List.set_cons_zero, List.set_cons_succ]
                refine wpAnyH_take (i := 16) (oi := ⟨some 55, _, _, _, _, _⟩) (v := ?_) rfl (by kernel_rfl) (by kernel_rfl) (by kernel_rfl) (fun _ _ _ h => h) (Or.inl ⟨by rfl, ?_⟩) (by assumption) ?_
                rotate_left
                · (intro w hSw; (try dsimp only at hSw); go_simp; try (with_reducible rfl))
                simp only [Act.put, List.setIfInBounds_toArray, List.set_cons_zero, List.set_cons_succ]
                refine wpAnyH_take (i := 17) (oi := ⟨some 56, _, _, _, _, _⟩) (v := ?_) rfl (by kernel_rfl) (by kernel_rfl) (by kernel_rfl) (fun _ _ _ h => h) (Or.inl ⟨by rfl, ?_⟩) (by assumption) ?_
                rotate_left
                · (intro w hSw; (try dsimp only at hSw); go_simp; try (with_reducible rfl))
                simp only [Act.put, List.setIfInBounds_toArray, List.set_cons_zero, List.set_cons_succ]
                refine wpAnyH_take (i := 18) (oi := ⟨some 57, _, _, _, _, _⟩) (v := ?_) rfl (by kernel_rfl) (by kernel_rfl) (by kernel_rfl) (fun _ _ _ h => h) (Or.inl ⟨by rfl, ?_⟩) (by assumption) ?_
                rotate_left
                · (intro w hSw; (try dsimp only at hSw); go_simp; try (with_reducible rfl))
                simp only [Act.put, List.setIfInBounds_toArray, List.set_cons_zero, List.set_cons_succ]
                refine wpAnyH_take (i := 19) (oi := ⟨some 58, _, _, _, _, _⟩) (v := ?_) rfl (by kernel_rfl) (by kernel_rfl) (by kernel_rfl) (fun _ _ _ h => h) (Or.inl ⟨by rfl, ?_⟩) (by assumption) ?_
                rotate_left
                · (intro w hSw; (try dsimp only at hSw); go_simp; try (with_reducible rfl))
                simp only [Act.put, List.setIfInBounds_toArray, List.set_cons_zero, List.set_cons_succ]
                refine wpAnyH_take (i := 20) (oi := ⟨some 59, _, _, _, _, _⟩) (v := ?_) rfl (by kernel_rfl) (by kernel_rfl) (by kernel_rfl) (fun _ _ _ h => h) (Or.inl ⟨by rfl, ?_⟩) (by assumption) ?_
                rotate_left
                · (intro w hSw; (try dsimp only at hSw); go_simp; try (with_reducible rfl))
                simp only [Act.put, List.setIfInBounds_toArray, List.set_cons_zero, List.set_cons_succ]
                refine wpAnyH_take (i := 21) (oi := ⟨some 60, _, _, _, _, _⟩) (v := ?_) rfl (by kernel_rfl) (by kernel_rfl) (by kernel_rfl) (fun _ _ _ h => h) (Or.inl ⟨by rfl, ?_⟩) (by assumption) ?_
                rotate_left
                · (intro w hSw; (try dsimp only at hSw); go_simp; try (with_reducible rfl))
                simp only [Act.put, List.setIfInBounds_toArray, List.set_cons_zero, List.set_cons_succ]
                refine wpAnyH_take (i := 22) (oi := ⟨some 61, _, _, _, _, _⟩) (v := undef) rfl (by kernel_rfl) (by kernel_rfl) (by kernel_rfl) (fun _ _ _ h => h) (Or.inr ⟨by rfl, rfl⟩) (by assumption) ?_
                (try simp only [Act.put, List.setIfInBounds_toArray, List.set_cons_zero, List.set_cons_succ])
                refine wpAnyH_ready (rs := [23]) (by kernel_rfl) (by simp) ?_
                refine AllReadyH.cons (o := ⟨some 62, _, _, _, _, _⟩) rfl (fun K hK => ?_) AllReadyH.nil
                go_simp
                refine hK.out _ _ ?_ (fun hHeld => ?_)
                · ((try dsimp only); (show T3b b (off + i * 4) D 0 X 0 n s s wb _; repeat (first | with_reducible exact hT | with_reducible refine T3b.drew ?_)))
                clear hK K
                (try simp only [Act.put, List.setIfInBounds_toArray, List.set_cons_zero, List.set_cons_succ])
                refine wpAnyH_take (i := 24) (oi := ⟨some 63, _, _, _, _, _⟩) (v := undef) rfl (by kernel_rfl) (by kernel_rfl) (by kernel_rfl) (fun _ _ _ h => h) (Or.inr ⟨by rfl, rfl⟩) (by assumption) ?_
                (try simp only [Act.put, List.setIfInBounds_toArray, List.set_cons_zero, List.set_cons_succ])
                refine wpAnyH_take (i := 25) (oi := ⟨some 64, _, _, _, _, _⟩) (v := ?_) rfl (by kernel_rfl) (by kernel_rfl) (by kernel_rfl) (fun _ _ _ h => h) (Or.inl ⟨by rfl, ?_⟩) (by assumption) ?_
                rotate_left
                · (intro w hSw; (try dsimp only at hSw); go_simp; try (with_reducible rfl))
                simp only [Act.put, List.setIfInBounds_toArray, List.set_cons_zero, List.set_cons_succ]
                refine wpAnyH_take (i := 26) (oi := ⟨some 65, _, _, _, _, _⟩) (v := ?_) rfl (by kernel_rfl) (by kernel_rfl) (by kernel_rfl) (fun _ _ _ h => h) (Or.inl ⟨by rfl, ?_⟩) (by assumption) ?_
                rotate_left
                · (intro w hSw; (try dsimp only at hSw); go_simp; try (with_reducible rfl))
                simp only [Act.put, List.setIfInBounds_toArray, List.set_cons_zero, List.set_cons_succ]
                refine wpAnyH_take (i := 27) (oi := ⟨some 66, _, _, _, _, _⟩) (v := ?_) rfl (by kernel_rfl) (by kernel_rfl) (by kernel_rfl) (fun _ _ _ h => h) (Or.inl ⟨by rfl, ?_⟩) (by assumption) ?_
                rotate_left
                · (intro w hSw; (try dsimp only at hSw); go_simp; try (with_reducible rfl))
                simp only [Act.put, List.setIfInBounds_toArray, List.set_cons_zero, List.set_cons_succ]
                refine wpAnyH_take (i := 28) (oi := ⟨some 67, _, _, _, _, _⟩) (v := ?_) rfl (by kernel_rfl) (by kernel_rfl) (by kernel_rfl) (fun _ _ _ h => h) (Or.inl ⟨by rfl, ?_⟩) (by assumption) ?_
                rotate_left
                · (intro w hSw; (try dsimp only at hSw); go_simp; try (with_reducible rfl))
                simp only [Act.put, List.setIfInBounds_toArray, List.set_cons_zero, List.set_cons_succ]
                refine wpAnyH_take (i := 29) (oi := ⟨some 68, _, _, _, _, _⟩) (v := ?_) rfl (by kernel_rfl) (by kernel_rfl) (by kernel_rfl) (fun _ _ _ h => h) (Or.inl ⟨by rfl, ?_⟩) (by assumption) ?_
                rotate_left
                · (intro w hSw; (try dsimp only at hSw); go_simp; try (with_reducible rfl))
                simp only [Act.put, List.setIfInBounds_toArray, List.set_cons_zero, List.set_cons_succ]
                refine wpAnyH_take (i := 30) (oi := ⟨some 69, _, _, _, _, _⟩) (v := ?_) rfl (by kernel_rfl) (by kernel_rfl) (by kernel_rfl) (fun _ _ _ h => h) (Or.inl ⟨by rfl, ?_⟩) (by assumption) ?_
                rotate_left
                · (intro w hSw; (try dsimp only at hSw); go_simp; try (with_reducible rfl))
                simp only [Act.put, List.setIfInBounds_toArray, List.set_cons_zero, List.set_cons_succ]
                refine wpAnyH_take (i := 31) (oi := ⟨some 70, _, _, _, _, _⟩) (v := ?_) rfl (by kernel_rfl) (by kernel_rfl) (by kernel_rfl) (fun _ _ _ h => h) (Or.inl ⟨by rfl, ?_⟩) (by assumption) ?_
                rotate_left
                · (intro w hSw; (try dsimp only at hSw); go_simp; try (with_reducible rfl))
                simp only [Act.put, List.setIfInBounds_toArray, List.set_cons_zero, List.set_cons_succ]
                refine wpAnyH_done (by kernel_rfl) ?_ _
                refine NoPanic.normal ?_
                all_goals
                  go_wp2_with fail
                  go_meet
                  exact ⟨rfl, hT.bel⟩
              · go_region_held3 (fun w' => w'.cell? ⟨b, off + i * 4, none⟩ = some (.int .u64 (lb n 0)) ∧ w'.cell? ⟨b, off + i * 4 + 1, none⟩ = some (.int .u64 (lb n 1)) ∧ w'.cell? ⟨b, off + i * 4 + 2, none⟩ = some (.int .u64 (lb n 2)) ∧ w'.cell? ⟨b, off + i * 4 + 3, none⟩ = some (.int .u64 (lb n 3)) ∧ w'.cell? ⟨D, 0, none⟩ = some (.int .u64 (lb s 0)) ∧ w'.cell? ⟨D, 1, none⟩ = some (.int .u64 (lb s 1)) ∧ w'.cell? ⟨D, 2, none⟩ = some (.int .u64 (lb s 2)) ∧ w'.cell? ⟨D, 3, none⟩ = some (.int .u64 (lb s 3)) ∧ w'.cell? ⟨X, 0, none⟩ = some (.int .u64 (lb s 0)) ∧ w'.cell? ⟨X, 1, none⟩ = some (.int .u64 (lb s 1)) ∧ w'.cell? ⟨X, 2, none⟩ = some (.int .u64 (lb s 2)) ∧ w'.cell? ⟨X, 3, none⟩ = some (.int .u64 (lb s 3)) ∧ Below wb.heap.size wb w') ((show T3b b (off + i * 4) D 0 X 0 n s s wb _; repeat (first | with_reducible exact hT | with_reducible refine T3b.drew ?_))) (first | (go_at_call 13; refine (num3_any _ _).mono ?_; rintro e w9 ⟨rfl, rfl⟩) | (go_at_call 11; refine (level n Hn.out _).mono ?_; rintro e w2 ⟨rfl, hb2⟩; have hT := T3b.below (b := b) (o := off + i * 4) (B := D) (p := 0) (X := X) (q := 0) (a := n) (c := s) (d := s) (w0 := wb) (by repeat (first | with_reducible exact hT | with_reducible refine T3b.drew ?_)) hb2) | (go_at_call 12; refine (rlevel n Hn.out _).mono ?_; rintro e w2 ⟨rfl, hb2⟩; have hT := T3b.below (b := b) (o := off + i * 4) (B := D) (p := 0) (X := X) (q := 0) (a := n) (c := s) (d := s) (w0 := wb) (by repeat (first | with_reducible exact hT | with_reducible refine T3b.drew ?_)) hb2))
                all_goals
                  go_wp2_with fail
                  go_meet
                  exact ⟨rfl, hT.bel⟩
            case rest =>
              obtain ⟨rfl, hbz⟩ := hcut
              have hbo := hBB.trans (hbz.mono hBB.size)
              clear hc0 hc1 hc2 hc3 bD bX hBB hbz HVA HR hsza
              go_wp2_with fail
              go_loopw [8] (fun j wr => ∃ k : Nat, k ≤ i ∧ j = .int .i64 k ∧ Below w.heap.size w wr) (fun j _ => i - (intOf j).toNat)
              case atStart => exact ⟨0, by omega, rfl, hbo⟩
              case round =>
                clear hbo
                obtain ⟨k, hk, rfl, hbk⟩ := hrel
                by_cases hki : k < i
                · have hszr := hbk.size
                  have hki' : (k : Int) < (i : Int) := by omega
                  have hk' : (k : Int) < (ns.length : Int) := by omega
                  have hkn : k < ns.length := by omega
                  obtain ⟨b', off', hab', hc0, hc1, hc2, hc3⟩ := HA.out i hlt
                  obtain ⟨rfl, rfl⟩ : b = b' ∧ off = off' := by simpa using hab'
                  obtain ⟨b', off', hab, hd0, hd1, hd2, hd3⟩ := HA.out k (by omega)
                  obtain ⟨rfl, rfl⟩ : b = b' ∧ off = off' := by simpa using hab
                  clear hab hab'
                  have hc0 := (hbk.cell (p := ⟨b, off + i * 4, none⟩) (cell_lt hc0)).trans hc0
                  have hc1 := (hbk.cell (p := ⟨b, off + i * 4 + 1, none⟩) (cell_lt hc1)).trans hc1
                  have hc2 := (hbk.cell (p := ⟨b, off + i * 4 + 2, none⟩) (cell_lt hc2)).trans hc2
                  have hc3 := (hbk.cell (p := ⟨b, off + i * 4 + 3, none⟩) (cell_lt hc3)).trans hc3
                  have hd0 := (hbk.cell (p := ⟨b, off + k * 4, none⟩) (cell_lt hd0)).trans hd0
                  have hd1 := (hbk.cell (p := ⟨b, off + k * 4 + 1, none⟩) (cell_lt hd1)).trans hd1
                  have hd2 := (hbk.cell (p := ⟨b, off + k * 4 + 2, none⟩) (cell_lt hd2)).trans hd2
                  have hd3 := (hbk.cell (p := ⟨b, off + k * 4 + 3, none⟩) (cell_lt hd3)).trans hd3
                  have Hm : Hid (ns[k] < M256) := HS.out.1 _ (List.getElem_mem _)
                  rw [← HN.out] at hc0 hc1 hc2 hc3
                  generalize ns[k] = m at hd0 hd1 hd2 hd3 Hm
                  have hT : T3 b (off + i * 4) (off + k * 4) (off + k * 4) n m m wr wr := ⟨hc0, hc1, hc2, hc3, hd0, hd1, hd2, hd3, hd0, hd1, hd2, hd3, Below.refl _ _⟩
                  have b1 := lvl_le Hn.out
                  have b2 := lvl_le Hm.out
                  have hw1 : IntKind.i64.wrap ((lvl n : Int) - (lvl m : Int)) = (lvl n : Int) - (lvl m : Int) := by rw [IntKind.wrap_i64]; omega
                  have hne0 : ((lvl n : Int) - (lvl m : Int) != (lvl n : Int) - (lvl m : Int)) = false := by rw [bne_eq_false_iff_eq]
                  go_upto_region 11 with fail
                  go_region_held3 (fun w' => w'.cell? ⟨b, off + i * 4, none⟩ = some (.int .u64 (lb n 0)) ∧ w'.cell? ⟨b, off + i * 4 + 1, none⟩ = some (.int .u64 (lb n 1)) ∧ w'.cell? ⟨b, off + i * 4 + 2, none⟩ = some (.int .u64 (lb n 2)) ∧ w'.cell? ⟨b, off + i * 4 + 3, none⟩ = some (.int .u64 (lb n 3)) ∧ w'.cell? ⟨b, off + k * 4, none⟩ = some (.int .u64 (lb m 0)) ∧ w'.cell? ⟨b, off + k * 4 + 1, none⟩ = some (.int .u64 (lb m 1)) ∧ w'.cell? ⟨b, off + k * 4 + 2, none⟩ = some (.int .u64 (lb m 2)) ∧ w'.cell? ⟨b, off + k * 4 + 3, none⟩ = some (.int .u64 (lb m 3)) ∧ w'.cell? ⟨b, off + k * 4, none⟩ = some (.int .u64 (lb m 0)) ∧ w'.cell? ⟨b, off + k * 4 + 1, none⟩ = some (.int .u64 (lb m 1)) ∧ w'.cell? ⟨b, off + k * 4 + 2, none⟩ = some (.int .u64 (lb m 2)) ∧ w'.cell? ⟨b, off + k * 4 + 3, none⟩ = some (.int .u64 (lb m 3)) ∧ Below wr.heap.size wr w') ((show T3 b (off + i * 4) (off + k * 4) (off + k * 4) n m m wr _; repeat (first | with_reducible exact hT | with_reducible refine T3.drew ?_))) (first | (go_at_call 14; refine (dist _ _ (by first | exact Hn.out | exact Hm.out) (by first | exact Hn.out | exact Hm.out) _).mono ?_; rintro e w2 ⟨rfl, hb2⟩; have hT := T3.below (b := b) (o := off + i * 4) (p := off + k * 4) (q := off + k * 4) (a := n) (c := m) (d := m) (w0 := wr) (by repeat (first | with_reducible exact hT | with_reducible refine T3.drew ?_)) hb2) | (go_at_call 12; refine (rlevel _ (by first | exact Hn.out | exact Hm.out) _).mono ?_; rintro e w2 ⟨rfl, hb2⟩; have hT := T3.below (b := b) (o := off + i * 4) (p := off + k * 4) (q := off + k * 4) (a := n) (c := m) (d := m) (w0 := wr) (by repeat (first | with_reducible exact hT | with_reducible refine T3.drew ?_)) hb2))
                  clear hw1 hne0
                  go_wp2_with fail
                  go_roundw
                  case rel => exact ⟨k + 1, by omega, by go_num, hbk.trans (hT.bel.mono (by omega))⟩
                  case measure => simp [intOf]; omega
                · have hki' : decide ((k : Int) < (i : Int)) = false := by simp; omega
                  go_wp2_with fail
                  go_roundw
                  case rel => exact ⟨i + 1, by omega, by omega, by go_num, hbk⟩
                  case measure => simp [intOf]; omega
      · have hb8 : decide ((i : Int) < 15) = false := by simp; omega
        go_wp2_with (go_at_call 15; refine (wakes3 _).mono ?_; rintro e w4 ⟨rfl, hb4⟩)
        go_ret
        exact ⟨rfl, hbo.trans (hb4.mono (by omega))⟩
    · have hb9 : decide ((i : Int) < (ns.length : Int)) = false := by simp; omega
      go_wp2_with (go_at_call 15; refine (wakes3 _).mono ?_; rintro e w4 ⟨rfl, hb4⟩)
      go_ret
      exact ⟨rfl, hbo.trans (hb4.mono (by omega))⟩
end Go.Proofs.Ytljfenjpnanoiaa

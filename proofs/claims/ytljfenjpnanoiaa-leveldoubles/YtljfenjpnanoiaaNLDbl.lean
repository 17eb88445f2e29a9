import Derived.Test.YtljfenjpnanoiaaLvlE
import Derived.Test.YtljfenjpnanoiaaRAdd
import Derived.Test.YtljfenjpnanoiaaMeet
import Derived.Deep.RegionWith
import Derived.Deep.DeepCutAuto
set_option linter.unusedSimpArgs false
set_option linter.unusedVariables false
namespace Go.Proofs.Ytljfenjpnanoiaa
open Go.RowKit

set_option maxRecDepth 100000 in
set_option maxHeartbeats 2000000 in
theorem levelDoubles_walk (v : Value) (ns : List Nat) (w : World) (hs : Sl w v ns) :
    Calls Try.prog 5 #[v] w fun e w' => e = .returned (.bool true) ∧ Below w.heap.size w w' := by
  obtain ⟨ad, cap, rfl, hat⟩ := hs.at
  have HA : Hid (∀ i (hi : i < ns.length), ∃ b off, ad = some ⟨b, off, none⟩ ∧ w.cell? ⟨b, off + i * 4, none⟩ = some (.int .u64 (lb ns[i] 0)) ∧ w.cell? ⟨b, off + i * 4 + 1, none⟩ = some (.int .u64 (lb ns[i] 1)) ∧ w.cell? ⟨b, off + i * 4 + 2, none⟩ = some (.int .u64 (lb ns[i] 2)) ∧ w.cell? ⟨b, off + i * 4 + 3, none⟩ = some (.int .u64 (lb ns[i] 3))) := hat
  have HS : Hid (Sl w (.slice ad ns.length cap) ns) := hs
  have hlen : ns.length ≤ 9223372036854775807 := hs.2.1
  clear hat hs
  go_enter Try.func5, Try.ntmps5
  go_wp2_with fail
  go_loopw [3] (fun i wr => ∃ k : Nat, k ≤ ns.length ∧ k ≤ 15 ∧ i = .int .i64 k ∧ Below w.heap.size w wr) (fun i _ => 15 - (intOf i).toNat)
  case atStart => exact ⟨0, by omega, by omega, rfl, Below.refl _ _⟩
  case round =>
    obtain ⟨i, hi1, hi2, rfl, hbo⟩ := hrel
    have hszo := hbo.size
    by_cases hlt : i < ns.length
    · have hlt' : (i : Int) < (ns.length : Int) := by omega
      by_cases hlt2 : i < 15
      · focus
          obtain ⟨b, off, rfl, hc0, hc1, hc2, hc3⟩ := HA.out i hlt
          have hc0 := (hbo.cell (p := ⟨b, off + i * 4, none⟩) (cell_lt hc0)).trans hc0
          have hc1 := (hbo.cell (p := ⟨b, off + i * 4 + 1, none⟩) (cell_lt hc1)).trans hc1
          have hc2 := (hbo.cell (p := ⟨b, off + i * 4 + 2, none⟩) (cell_lt hc2)).trans hc2
          have hc3 := (hbo.cell (p := ⟨b, off + i * 4 + 3, none⟩) (cell_lt hc3)).trans hc3
          have Hn : Hid (ns[i] < M256) := HS.out.1 _ (List.getElem_mem hlt)
          generalize ns[i] = n at hc0 hc1 hc2 hc3 Hn
          have hbw : b < wr.heap.size := cell_lt hc0
          have hdo := fun w => double n Hn.out w
          have hv : addV n n < M256 := by unfold addV; split; assumption; decide
          have hva : (n + n < M256 ∧ addOkE n n = 0 ∧ addOk n n = true) ∨ (addV n n = 0 ∧ addOkE n n = 8 ∧ addOk n n = false) := by
            unfold addV addOkE addOk
            by_cases h : n + n < M256
            · left; simp [h]
            · right; simp [h]
          have hra := fun w => radd n n Hn.out Hn.out w
          generalize addV n n = s at *
          generalize addOkE n n = ee at *
          generalize addOk n n = oo at *
          have HR : Hid (∀ w, Calls Try.prog 10 #[V n, V n] w fun e w' => e = .returned (.tuple #[V s, .bool oo]) ∧ Below w.heap.size w w') := hra
          have HVA : Hid ((n + n < M256 ∧ ee = 0 ∧ oo = true) ∨ (s = 0 ∧ ee = 8 ∧ oo = false)) := hva
          clear hra hva hv
          go_upto_region 5 with (go_at_call 9; refine (hdo _).mono ?_; rintro e w1 ⟨rfl, hb1⟩)
          have bD := Bk.new w1 (A4 (lb (s) 0) (lb (s) 1) (lb (s) 2) (lb (s) 3)) 25
          have hs1 := hb1.size
          have hbx : Below wr.heap.size wr (w1.alloc (.cells (A4 (lb (s) 0) (lb (s) 1) (lb (s) 2) (lb (s) 3)) 25)) := hb1.alloc hb1.size _
          have hc0 := (hbx.cell (p := ⟨b, off + i * 4, none⟩) (by omega)).trans hc0
          have hc1 := (hbx.cell (p := ⟨b, off + i * 4 + 1, none⟩) (by omega)).trans hc1
          have hc2 := (hbx.cell (p := ⟨b, off + i * 4 + 2, none⟩) (by omega)).trans hc2
          have hc3 := (hbx.cell (p := ⟨b, off + i * 4 + 3, none⟩) (by omega)).trans hc3
          obtain ⟨B, hB⟩ : ∃ B, B = w1.heap.size := ⟨_, rfl⟩
          rw [← hB] at bD ⊢
          clear hdo hb1 hs1 hB
          generalize w1.alloc _ = wa at *
          have hsza := hbx.size
          go_cut [6, 7] (fun p e wx => ∃ B, p = .pointer (some ⟨B, 0, none⟩) ∧ wa.heap.size ≤ B ∧ Bk wx B (A4 (lb (s) 0) (lb (s) 1) (lb (s) 2) (lb (s) 3)) 25 ∧ e = .bool oo ∧ Below wa.heap.size wa wx)
          case first =>
            have hbw2 : b < wa.heap.size := by omega
            have hbn : ¬ b = wa.heap.size := by omega
            go_region_with (go_at_call 10; refine (HR.out _).mono ?_; rintro e w2 ⟨rfl, hb2⟩; have hsz2 := hb2.size; simp only [World.size_alloc, World.size_drew] at hsz2 hb2; try (have hz := (Bk.new wa (A4 0 0 0 0) 25).drew.below hb2 (by omega); have hz0 := hz.cell 0; have hz1 := hz.cell 1; have hz2 := hz.cell 2; have hz3 := hz.cell 3; have hf0 := hz.frozen 0; have hf1 := hz.frozen 1; have hf2 := hz.frozen 2; have hf3 := hz.frozen 3; simp only [List.getElem?_toArray, List.getElem?_cons_zero, List.getElem?_cons_succ] at hz0 hz1 hz2 hz3))
            all_goals
              go_wp2_with fail
              go_meet
              first
                | exact meetB hz hb2
                | exact meetA hsz2 hb2
          case rest =>
            obtain ⟨B2, rfl, _, bX, rfl, hby⟩ := hcut
            have bD := bD.below hby bD.lt
            have hBB := hbo.trans ((hbx.trans (hby.mono hsza)).mono hszo)
            clear hc0 hc1 hc2 hc3 hbx hby
            have hsm := fun w => neq_same s w
            rcases HVA.out with ⟨_, rfl, rfl⟩ | ⟨rfl, rfl, rfl⟩
            · have p0 := bD.cell 0; have pf0 := bD.frozen 0; have p1 := bD.cell 1; have pf1 := bD.frozen 1; have p2 := bD.cell 2; have pf2 := bD.frozen 2; have p3 := bD.cell 3; have pf3 := bD.frozen 3; simp only [List.getElem?_toArray, List.getElem?_cons_zero, List.getElem?_cons_succ] at p0 p1 p2 p3
              have q0 := bX.cell 0; have qf0 := bX.frozen 0; have q1 := bX.cell 1; have qf1 := bX.frozen 1; have q2 := bX.cell 2; have qf2 := bX.frozen 2; have q3 := bX.cell 3; have qf3 := bX.frozen 3; simp only [List.getElem?_toArray, List.getElem?_cons_zero, List.getElem?_cons_succ] at q0 q1 q2 q3
              clear bD bX
              go_wp2_with (go_at_call 13; refine (num3_any _ _).mono ?_; rintro e w9 ⟨rfl, rfl⟩)
              go_roundw
              case rel => exact ⟨i + 1, by omega, by omega, by go_num, hBB⟩
              case measure => simp [intOf]; omega
            · simp only [lb_zero] at bD bX
              have hno := neq_none
              clear hsm
              have p0 := bD.cell 0; have pf0 := bD.frozen 0; have p1 := bD.cell 1; have pf1 := bD.frozen 1; have p2 := bD.cell 2; have pf2 := bD.frozen 2; have p3 := bD.cell 3; have pf3 := bD.frozen 3; simp only [List.getElem?_toArray, List.getElem?_cons_zero, List.getElem?_cons_succ] at p0 p1 p2 p3
              have q0 := bX.cell 0; have qf0 := bX.frozen 0; have q1 := bX.cell 1; have qf1 := bX.frozen 1; have q2 := bX.cell 2; have qf2 := bX.frozen 2; have q3 := bX.cell 3; have qf3 := bX.frozen 3; simp only [List.getElem?_toArray, List.getElem?_cons_zero, List.getElem?_cons_succ] at q0 q1 q2 q3
              clear bD bX
              go_wp2_with (go_at_call 13; refine (num3_any _ _).mono ?_; rintro e w9 ⟨rfl, rfl⟩)
              go_roundw
              case rel => exact ⟨i + 1, by omega, by omega, by go_num, hBB⟩
              case measure => simp [intOf]; omega
      · have hb8 : decide ((i : Int) < 15) = false := by simp; omega
        go_wp2_with (go_at_call 15; refine (wakes3 _).mono ?_; rintro e w4 ⟨rfl, hb4⟩)
        go_ret
        exact ⟨rfl, hbo.trans (hb4.mono (by omega))⟩
    · have hb9 : decide ((i : Int) < (ns.length : Int)) = false := by simp; omega
      go_wp2_with (go_at_call 15; refine (wakes3 _).mono ?_; rintro e w4 ⟨rfl, hb4⟩)
      go_ret
      exact ⟨rfl, hbo.trans (hb4.mono (by omega))⟩
end Go.Proofs.Ytljfenjpnanoiaa

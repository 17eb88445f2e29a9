import Derived.Test.YtgolpadmcalimaaAsks
import Derived.Test.YtgolpadmcalimaaNext
import Derived.Test.YtgolpadmcalimaaBlob
import Derived.Test.YtgolpadmcalimaaWithin
import Derived.Test.YtgolpadmcalimaaWakes
import Derived.Deep.RegionWith
import Derived.Deep.DeepCutAuto
import Derived.Deep.CutBlock
set_option linter.unusedSimpArgs false
set_option linter.unusedVariables false
namespace Go.Proofs.Ytgolpadmcalimaa
open Go.RowKit

theorem full_next (n g : Nat) (hn : n < 1152921504606846976) (hg : g < 536870912) (w : World) : Calls Try.prog 19 #[.agg (A4 (n : Int) 0 0 0), .int .i64 (2 * (1 + (g : Int))), .int .i64 (1 + (g : Int))] w fun e w' => e = .returned (.tuple #[.agg (A4 ((n + max 1 (n / 8) : Nat) : Int) 0 0 0), .int .i64 0]) ∧ Below w.heap.size w w' := by
  have h := next n (2 * (1 + g)) (1 + g) (by unfold M256; omega) (by omega) (by omega) (by omega) w
  have hd : nxD (2 * (1 + g)) (1 + g) = 1 + g := by unfold nxD; rw [if_neg (by omega)]; omega
  have hc : nxC n (2 * (1 + g)) (1 + g) = n / 8 := by unfold nxC; rw [hd, Nat.mul_div_cancel _ (by omega)]
  have hm : n * (1 + g) < M256 := by
    have : n * (1 + g) ≤ n * 536870912 := Nat.mul_le_mul_left _ (by omega)
    unfold M256; omega
  have ok : nxOk n (2 * (1 + g)) (1 + g) = true := by
    simp only [nxOk, hd, hc, hm, decide_true, Bool.true_and, Bool.or_eq_true, decide_eq_true_eq]
    right; right; unfold M256; omega
  rw [show nxV n (2 * (1 + g)) (1 + g) = n + max 1 (n / 8) by unfold nxV; rw [if_pos ok, if_neg (by omega), if_neg (by omega), hc], show nxE n (2 * (1 + g)) (1 + g) = 0 from if_pos ok, V_small n (by omega), V_small (n + max 1 (n / 8)) (by omega)] at h
  rw [show ((2 * (1 + g) : Nat) : Int) = 2 * (1 + (g : Int)) by omega, show ((1 + g : Nat) : Int) = 1 + (g : Int) by omega] at h
  exact h
theorem empty_next (n g : Nat) (hn : n < 1152921504606846976) (hg : g < 536870912) (w : World) : Calls Try.prog 19 #[.agg (A4 (n : Int) 0 0 0), .int .i64 0, .int .i64 (1 + (g : Int))] w fun e w' => e = .returned (.tuple #[.agg (A4 ((n - n / 8 : Nat) : Int) 0 0 0), .int .i64 0]) ∧ Below w.heap.size w w' := by
  have h := next n 0 (1 + g) (by unfold M256; omega) (by omega) (by omega) (by omega) w
  have hd : nxD 0 (1 + g) = 1 + g := by unfold nxD; rw [if_pos (by omega)]; omega
  have hc : nxC n 0 (1 + g) = n / 8 := by unfold nxC; rw [hd, Nat.mul_div_cancel _ (by omega)]
  have hm : n * (1 + g) < M256 := by
    have : n * (1 + g) ≤ n * 536870912 := Nat.mul_le_mul_left _ (by omega)
    unfold M256; omega
  have ok : nxOk n 0 (1 + g) = true := by
    simp only [nxOk, hd, hc, hm, decide_true, Bool.true_and, Bool.or_eq_true, decide_eq_true_eq]
    right; left; omega
  rw [show nxV n 0 (1 + g) = n - n / 8 by unfold nxV; rw [if_pos ok, if_neg (by omega), if_pos (by omega), hc], show nxE n 0 (1 + g) = 0 from if_pos ok, V_small n (by omega), V_small (n - n / 8) (by omega)] at h
  rw [show ((0 : Nat) : Int) = 0 from rfl, show ((1 + g : Nat) : Int) = 1 + (g : Int) by omega] at h
  exact h
set_option maxRecDepth 100000 in
set_option maxHeartbeats 2000000 in
theorem feeSteps_walk (v : Value) (qs : List AskD) (w : World) (hs : Sa w v qs) :
    Calls Try.prog 9 #[v] w fun e w' => e = .returned (.bool true) ∧ Below w.heap.size w w' := by
  obtain ⟨hok, hlen, ad, cap, rfl, hat0⟩ := hs
  have HA : Hid (∀ i (hi : i < qs.length), ∃ b off, ad = some ⟨b, off, none⟩ ∧ ∀ j, j < 15 → w.cell? ⟨b, off + i * 15 + j, none⟩ = (acells qs[i])[j]?) := hat0
  have HO : Hid (∀ q ∈ qs, AskOk q) := hok
  have hlen : qs.length ≤ 9223372036854775807 := hlen
  clear hat0 hok
  go_enter Try.func9, Try.ntmps9
  go_wp2_with fail
  go_loopw [3] (fun i wr => ∃ k : Nat, k ≤ qs.length ∧ k ≤ 8 ∧ i = .int .i64 k ∧ Below w.heap.size w wr) (fun i _ => 8 - (intOf i).toNat)
  case atStart => exact ⟨0, by omega, by omega, rfl, Below.refl _ _⟩
  case round =>
    obtain ⟨k, hk1, hk2, rfl, hbo⟩ := hrel
    have hszo := hbo.size
    by_cases hlt : k < qs.length
    · by_cases hlt2 : k < 8
      · obtain ⟨b, off, rfl, hat⟩ := HA.out k hlt
        have HQ : Hid (AskOk qs[k]) := HO.out _ (List.getElem_mem hlt)
        generalize qs[k] = q at hat HQ
        obtain ⟨a, b2, c, x, u, t⟩ := q
        simp only [acells] at hat
        have hbw : b < wr.heap.size := Nat.lt_of_lt_of_le (cell_lt (hat 0 (by omega))) hszo
        have c0 : wr.cell? ⟨b, off + k * 15, none⟩ = some (.int .u64 (lb a 0)) := (hbo.cell (p := ⟨b, off + k * 15, none⟩) (cell_lt (hat 0 (by omega)))).trans (hat 0 (by omega))
        have c1 : wr.cell? ⟨b, off + k * 15 + 1, none⟩ = some (.int .u64 (lb a 1)) := (hbo.cell (p := ⟨b, off + k * 15 + 1, none⟩) (cell_lt (hat 1 (by omega)))).trans (hat 1 (by omega))
        have c2 : wr.cell? ⟨b, off + k * 15 + 2, none⟩ = some (.int .u64 (lb a 2)) := (hbo.cell (p := ⟨b, off + k * 15 + 2, none⟩) (cell_lt (hat 2 (by omega)))).trans (hat 2 (by omega))
        have c3 : wr.cell? ⟨b, off + k * 15 + 3, none⟩ = some (.int .u64 (lb a 3)) := (hbo.cell (p := ⟨b, off + k * 15 + 3, none⟩) (cell_lt (hat 3 (by omega)))).trans (hat 3 (by omega))
        have c4 : wr.cell? ⟨b, off + k * 15 + 4, none⟩ = some (.int .u64 (lb b2 0)) := (hbo.cell (p := ⟨b, off + k * 15 + 4, none⟩) (cell_lt (hat 4 (by omega)))).trans (hat 4 (by omega))
        have c5 : wr.cell? ⟨b, off + k * 15 + 5, none⟩ = some (.int .u64 (lb b2 1)) := (hbo.cell (p := ⟨b, off + k * 15 + 5, none⟩) (cell_lt (hat 5 (by omega)))).trans (hat 5 (by omega))
        have c6 : wr.cell? ⟨b, off + k * 15 + 6, none⟩ = some (.int .u64 (lb b2 2)) := (hbo.cell (p := ⟨b, off + k * 15 + 6, none⟩) (cell_lt (hat 6 (by omega)))).trans (hat 6 (by omega))
        have c7 : wr.cell? ⟨b, off + k * 15 + 7, none⟩ = some (.int .u64 (lb b2 3)) := (hbo.cell (p := ⟨b, off + k * 15 + 7, none⟩) (cell_lt (hat 7 (by omega)))).trans (hat 7 (by omega))
        have c8 : wr.cell? ⟨b, off + k * 15 + 8, none⟩ = some (.int .u64 (lb c 0)) := (hbo.cell (p := ⟨b, off + k * 15 + 8, none⟩) (cell_lt (hat 8 (by omega)))).trans (hat 8 (by omega))
        have c9 : wr.cell? ⟨b, off + k * 15 + 9, none⟩ = some (.int .u64 (lb c 1)) := (hbo.cell (p := ⟨b, off + k * 15 + 9, none⟩) (cell_lt (hat 9 (by omega)))).trans (hat 9 (by omega))
        have c10 : wr.cell? ⟨b, off + k * 15 + 10, none⟩ = some (.int .u64 (lb c 2)) := (hbo.cell (p := ⟨b, off + k * 15 + 10, none⟩) (cell_lt (hat 10 (by omega)))).trans (hat 10 (by omega))
        have c11 : wr.cell? ⟨b, off + k * 15 + 11, none⟩ = some (.int .u64 (lb c 3)) := (hbo.cell (p := ⟨b, off + k * 15 + 11, none⟩) (cell_lt (hat 11 (by omega)))).trans (hat 11 (by omega))
        have c12 : wr.cell? ⟨b, off + k * 15 + 12, none⟩ = some (.int .i64 x) := (hbo.cell (p := ⟨b, off + k * 15 + 12, none⟩) (cell_lt (hat 12 (by omega)))).trans (hat 12 (by omega))
        have c13 : wr.cell? ⟨b, off + k * 15 + 13, none⟩ = some (.int .i64 u) := (hbo.cell (p := ⟨b, off + k * 15 + 13, none⟩) (cell_lt (hat 13 (by omega)))).trans (hat 13 (by omega))
        have c14 : wr.cell? ⟨b, off + k * 15 + 14, none⟩ = some (.int .i64 t) := (hbo.cell (p := ⟨b, off + k * 15 + 14, none⟩) (cell_lt (hat 14 (by omega)))).trans (hat 14 (by omega))
        clear hat
        clear HQ
        obtain ⟨n, hn⟩ : ∃ n : Nat, lb a 0 / 16 = (n : Int) := ⟨(lb a 0 / 16).toNat, by have := lb_bd a 0; omega⟩
        have hnl : n < 1152921504606846976 := by have := lb_bd a 0; omega
        have HN : Hid (lb a 0 / 16 = (n : Int)) := hn
        have HL : Hid (n < 1152921504606846976) := hnl
        have hwi := fun w => within t 536870912 (by omega) (by omega) w
        clear hn hnl
        go_upto_region 6 with (go_at_call 23; refine (hwi _).mono ?_; rintro e w1 ⟨⟨g, hg, rfl⟩, rfl⟩)
        rw [HN.out]
        have bB := Bk.new wr #[.int .u64 (n : Int), .int .u64 0, .int .u64 0, .int .u64 0] 25
        have hB1 : Below w.heap.size w (wr.alloc (.cells #[.int .u64 (n : Int), .int .u64 0, .int .u64 0, .int .u64 0] 25)) := hbo.alloc (by omega) _
        have hz1 : (wr.alloc (.cells #[.int .u64 (n : Int), .int .u64 0, .int .u64 0, .int .u64 0] 25)).heap.size = wr.heap.size + 1 := by simp
        clear c0 c1 c2 c3 c4 c5 c6 c7 c8 c9 c10 c11 c12 c13 c14 hwi
        generalize wr.alloc _ = w2 at *
        have hn1 : ∀ w, Calls Try.prog 19 #[.agg (A4 (n : Int) 0 0 0), .int .i64 (2 * (1 + (g : Int))), .int .i64 (1 + (g : Int))] w fun e w' => e = .returned (.tuple #[.agg (A4 ((n + max 1 (n / 8) : Nat) : Int) 0 0 0), .int .i64 0]) ∧ Below w.heap.size w w' := fun w => full_next n g HL.out hg w
        have hn2 : ∀ w, Calls Try.prog 19 #[.agg (A4 (n : Int) 0 0 0), .int .i64 0, .int .i64 (1 + (g : Int))] w fun e w' => e = .returned (.tuple #[.agg (A4 ((n - n / 8 : Nat) : Int) 0 0 0), .int .i64 0]) ∧ Below w.heap.size w w' := fun w => empty_next n g HL.out hg w
        obtain ⟨X, hX⟩ : ∃ X : Nat, X = n + max 1 (n / 8) := ⟨_, rfl⟩
        obtain ⟨Y, hY⟩ : ∃ Y : Nat, Y = n - n / 8 := ⟨_, rfl⟩
        rw [← hX] at hn1
        rw [← hY] at hn2
        have HX : Hid (X = n + max 1 (n / 8)) := hX
        have HY : Hid (Y = n - n / 8) := hY
        clear hX hY
        have z0 := bB.cell 0
        have zf0 := bB.frozen 0
        have z1 := bB.cell 1
        have zf1 := bB.frozen 1
        have z2 := bB.cell 2
        have zf2 := bB.frozen 2
        have z3 := bB.cell 3
        have zf3 := bB.frozen 3
        simp only [List.getElem?_toArray, List.getElem?_cons_zero, List.getElem?_cons_succ] at z0 z1 z2 z3

        go_upto_region 7 with (go_at_call 19; refine (hn1 _).mono ?_; rintro e w3 ⟨rfl, hb3⟩)
        have bB4 := (bB.below hb3 bB.lt).alloc (.cells (A4 (X : Int) 0 0 0) 25)
        have bX4 := Bk.new w3 (A4 (X : Int) 0 0 0) 25
        have hB4 := (hB1.trans (hb3.mono (by omega))).alloc (by have := hb3.size; omega) (.cells (A4 (X : Int) 0 0 0) 25)
        have hz4 : wr.heap.size < w3.heap.size := by have := hb3.size; omega
        obtain ⟨P, hP⟩ : ∃ P, P = w3.heap.size := ⟨_, rfl⟩
        rw [← hP] at bX4 hz4 ⊢
        clear hP hb3 bB hB1 z0 z1 z2 z3 zf0 zf1 zf2 zf3
        generalize w3.alloc _ = w4 at *
        have z0 := bB4.cell 0
        have zf0 := bB4.frozen 0
        have z1 := bB4.cell 1
        have zf1 := bB4.frozen 1
        have z2 := bB4.cell 2
        have zf2 := bB4.frozen 2
        have z3 := bB4.cell 3
        have zf3 := bB4.frozen 3
        simp only [List.getElem?_toArray, List.getElem?_cons_zero, List.getElem?_cons_succ] at z0 z1 z2 z3

        go_upto_region 8 with (go_at_call 19; refine (hn2 _).mono ?_; rintro e w5 ⟨rfl, hb5⟩)
        have bB6 := (bB4.below hb5 bB4.lt).alloc (.cells (A4 (Y : Int) 0 0 0) 25)
        have bX6 := (bX4.below hb5 bX4.lt).alloc (.cells (A4 (Y : Int) 0 0 0) 25)
        have bY6 := Bk.new w5 (A4 (Y : Int) 0 0 0) 25
        have hB6 := (hB4.trans (hb5.mono (by have := bX4.lt; omega))).alloc (by have := hb5.size; have := bX4.lt; omega) (.cells (A4 (Y : Int) 0 0 0) 25)
        obtain ⟨R, hR⟩ : ∃ R, R = w5.heap.size := ⟨_, rfl⟩
        rw [← hR] at bY6 ⊢
        clear hR hb5 bB4 bX4 hB4 z0 z1 z2 z3 zf0 zf1 zf2 zf3
        generalize w5.alloc _ = w6 at *
        have z0 := bB6.cell 0
        have zf0 := bB6.frozen 0
        have z1 := bB6.cell 1
        have zf1 := bB6.frozen 1
        have z2 := bB6.cell 2
        have zf2 := bB6.frozen 2
        have z3 := bB6.cell 3
        have zf3 := bB6.frozen 3
        simp only [List.getElem?_toArray, List.getElem?_cons_zero, List.getElem?_cons_succ] at z0 z1 z2 z3
        have x0 := bX6.cell 0
        have xf0 := bX6.frozen 0
        have x1 := bX6.cell 1
        have xf1 := bX6.frozen 1
        have x2 := bX6.cell 2
        have xf2 := bX6.frozen 2
        have x3 := bX6.cell 3
        have xf3 := bX6.frozen 3
        simp only [List.getElem?_toArray, List.getElem?_cons_zero, List.getElem?_cons_succ] at x0 x1 x2 x3
        have y0 := bY6.cell 0
        have yf0 := bY6.frozen 0
        have y1 := bY6.cell 1
        have yf1 := bY6.frozen 1
        have y2 := bY6.cell 2
        have yf2 := bY6.frozen 2
        have y3 := bY6.cell 3
        have yf3 := bY6.frozen 3
        simp only [List.getElem?_toArray, List.getElem?_cons_zero, List.getElem?_cons_succ] at y0 y1 y2 y3

        clear hn1 hn2
        obtain ⟨m, hm⟩ : ∃ m : Nat, m = n / 8 := ⟨_, rfl⟩
        have hw8 : IntKind.u64.wrap ((n : Int) / 8) = (m : Int) := by have := HL.out; rw [IntKind.wrap_u64, hm]; omega
        have hwY : IntKind.u64.wrap ((n : Int) - (m : Int)) = (Y : Int) := by have := HL.out; have := HY.out; rw [IntKind.wrap_u64]; omega
        have heX : ∀ w, (binOp .neq 25 (.agg (A4 (X : Int) 0 0 0)) (.agg (A4 (X : Int) 0 0 0))).run Try.prog w = .ok (.bool false) w := fun w => by rw [neq26, eq4_same]; rfl
        have heY : ∀ w, (binOp .neq 25 (.agg (A4 (Y : Int) 0 0 0)) (.agg (A4 (Y : Int) 0 0 0))).run Try.prog w = .ok (.bool false) w := fun w => by rw [neq26, eq4_same]; rfl
        have HM : Hid (m = n / 8) := hm
        clear hm
        by_cases h8 : (m : Int) ≤ 1
        · have hwX : IntKind.u64.wrap ((n : Int) + 1) = (X : Int) := by have := HL.out; have := HX.out; have := HM.out; rw [IntKind.wrap_u64]; omega
          go_wp2_with (go_at_call 14; refine (num2_any _ _).mono ?_; rintro e w7 ⟨rfl, rfl⟩)
          all_goals
            go_roundw
            case rel => exact ⟨k + 1, by omega, by omega, by go_num, hB6⟩
            case measure => simp [intOf]; omega
        · have hwX : IntKind.u64.wrap ((n : Int) + (m : Int)) = (X : Int) := by have := HL.out; have := HX.out; have := HM.out; rw [IntKind.wrap_u64]; omega
          go_wp2_with (go_at_call 14; refine (num2_any _ _).mono ?_; rintro e w7 ⟨rfl, rfl⟩)
          all_goals
            go_roundw
            case rel => exact ⟨k + 1, by omega, by omega, by go_num, hB6⟩
            case measure => simp [intOf]; omega
      · have hb8 : decide ((k : Int) < 8) = false := by simp; omega
        go_wp2_with (go_at_call 15; refine (wakes2 _).mono ?_; rintro e w4 ⟨rfl, hb4⟩)
        go_ret
        exact ⟨rfl, hbo.trans (hb4.mono (by omega))⟩
    · have hbl2 : decide ((k : Int) < (qs.length : Int)) = false := by simp; omega
      go_wp2_with (go_at_call 15; refine (wakes2 _).mono ?_; rintro e w4 ⟨rfl, hb4⟩)
      go_ret
      exact ⟨rfl, hbo.trans (hb4.mono (by omega))⟩
end Go.Proofs.Ytgolpadmcalimaa

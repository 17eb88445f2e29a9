import Derived.Test.YtgolpadmcalimaaStep
import Derived.Test.YtgolpadmcalimaaEql
set_option linter.unusedSimpArgs false
set_option linter.unusedVariables false
namespace Go.Proofs.Ytgolpadmcalimaa
open Go.RowKit

set_option maxRecDepth 100000 in
set_option maxHeartbeats 1000000 in
theorem next_no (n : Nat) (u t : Int) (hu : -9223372036854775808 ≤ u ∧ u ≤ 9223372036854775807) (h : t < 1 ∨ 1073741824 < t ∨ u < 0 ∨ 2 * t < u) (w : World) :
    Calls Try.prog 19 #[V n, .int .i64 u, .int .i64 t] w fun e w' => e = .returned (.tuple #[.agg (A4 0 0 0 0), .int .i64 1]) ∧ Below w.heap.size w w' := by
  have key : Calls Try.prog 19 #[V n, .int .i64 u, .int .i64 t] w fun e w' => e = .returned (.tuple #[.agg (A4 0 0 0 0), .int .i64 1]) ∧ w' = ((w.alloc (.cells (A4 (lb (n) 0) (lb (n) 1) (lb (n) 2) (lb (n) 3)) 25)).alloc (.cells (A4 0 0 0 0) 25)) := by
    by_cases h1 : t < 1
    · go_enter Try.func19, Try.ntmps19
      go_wp2
      refine bodyPost_ret (v := .tuple #[.agg (A4 0 0 0 0), .int .i64 1]) ?_ rfl ⟨rfl, rfl⟩
      simp [results, Try.results19, go_sem]
    · by_cases h2 : 1073741824 < t
      · go_enter Try.func19, Try.ntmps19
        go_wp2
        refine bodyPost_ret (v := .tuple #[.agg (A4 0 0 0 0), .int .i64 1]) ?_ rfl ⟨rfl, rfl⟩
        simp [results, Try.results19, go_sem]
      · by_cases h3 : u < 0
        · go_enter Try.func19, Try.ntmps19
          go_wp2
          refine bodyPost_ret (v := .tuple #[.agg (A4 0 0 0 0), .int .i64 1]) ?_ rfl ⟨rfl, rfl⟩
          simp [results, Try.results19, go_sem]
        · have h4 : 2 * t < u := by omega
          clear h
          go_enter Try.func19, Try.ntmps19
          go_wp2
          refine bodyPost_ret (v := .tuple #[.agg (A4 0 0 0 0), .int .i64 1]) ?_ rfl ⟨rfl, rfl⟩
          simp [results, Try.results19, go_sem]
  refine key.mono fun e w' h => ⟨h.1, ?_⟩
  rw [h.2]; exact ((Below.refl _ w).alloc (Nat.le_refl _) _).alloc (by simp) _
set_option maxRecDepth 100000 in
set_option maxHeartbeats 1000000 in
theorem next_eq (n t : Nat) (t1 : 1 ≤ t) (t2 : t ≤ 1073741824) (w : World) :
    Calls Try.prog 19 #[V n, .int .i64 (t : Int), .int .i64 (t : Int)] w fun e w' => e = .returned (.tuple #[V n, .int .i64 0]) ∧ Below w.heap.size w w' := by
  have m1 : ¬ (t : Int) < 1 := by omega
  have m2 : ¬ 1073741824 < (t : Int) := by omega
  have m3 : ¬ (t : Int) < 0 := by omega
  have m4 : ¬ 2 * (t : Int) < (t : Int) := by omega
  go_enter Try.func19, Try.ntmps19
  go_upto_region 1 with fail
  have bA : Bk ((w.alloc (.cells (A4 (lb (n) 0) (lb (n) 1) (lb (n) 2) (lb (n) 3)) 25)).alloc (.cells (A4 0 0 0 0) 25)) w.heap.size (A4 (lb (n) 0) (lb (n) 1) (lb (n) 2) (lb (n) 3)) 25 := (Bk.new _ _ _).alloc _
  have bR : Bk ((w.alloc (.cells (A4 (lb (n) 0) (lb (n) 1) (lb (n) 2) (lb (n) 3)) 25)).alloc (.cells (A4 0 0 0 0) 25)) (w.heap.size + 1) (A4 0 0 0 0) 25 := Bk.new' _ _ _ (by simp)
  have hB : Below w.heap.size w ((w.alloc (.cells (A4 (lb (n) 0) (lb (n) 1) (lb (n) 2) (lb (n) 3)) 25)).alloc (.cells (A4 0 0 0 0) 25)) := ((Below.refl _ w).alloc (Nat.le_refl _) _).alloc (by simp) _
  have hsz : ((w.alloc (.cells (A4 (lb (n) 0) (lb (n) 1) (lb (n) 2) (lb (n) 3)) 25)).alloc (.cells (A4 0 0 0 0) 25)).heap.size = w.heap.size + 2 := by simp
  generalize ((w.alloc (.cells (A4 (lb (n) 0) (lb (n) 1) (lb (n) 2) (lb (n) 3)) 25)).alloc (.cells (A4 0 0 0 0) 25)) = w2 at *
  have n0 := bA.cell 0
  have nf0 := bA.frozen 0
  have n1 := bA.cell 1
  have nf1 := bA.frozen 1
  have n2 := bA.cell 2
  have nf2 := bA.frozen 2
  have n3 := bA.cell 3
  have nf3 := bA.frozen 3
  simp only [List.getElem?_toArray, List.getElem?_cons_zero, List.getElem?_cons_succ] at n0 n1 n2 n3
  have r0 := bR.cell 0
  have rf0 := bR.frozen 0
  have r1 := bR.cell 1
  have rf1 := bR.frozen 1
  have r2 := bR.cell 2
  have rf2 := bR.frozen 2
  have r3 := bR.cell 3
  have rf3 := bR.frozen 3
  simp only [List.getElem?_toArray, List.getElem?_cons_zero, List.getElem?_cons_succ] at r0 r1 r2 r3
  go_wp2
  have kR := set4_Bk bR (.int .u64 (lb (n) 0)) (.int .u64 (lb (n) 1)) (.int .u64 (lb (n) 2)) (.int .u64 (lb (n) 3))
  have hBr := set4_below hB (b := w.heap.size + 1) (by omega) (.int .u64 (lb (n) 0)) (.int .u64 (lb (n) 1)) (.int .u64 (lb (n) 2)) (.int .u64 (lb (n) 3))
  generalize World.setCell _ _ _ = W9 at kR hBr ⊢
  have q0 := kR.cell 0
  have qf0 := kR.frozen 0
  have q1 := kR.cell 1
  have qf1 := kR.frozen 1
  have q2 := kR.cell 2
  have qf2 := kR.frozen 2
  have q3 := kR.cell 3
  have qf3 := kR.frozen 3
  simp only [List.getElem?_toArray, List.getElem?_cons_zero, List.getElem?_cons_succ] at q0 q1 q2 q3
  refine bodyPost_ret (v := .tuple #[V n, .int .i64 0]) ?_ rfl ⟨rfl, hBr⟩
  simp [results, Try.results19, go_sem, q0, q1, q2, q3]
set_option maxRecDepth 100000 in
set_option maxHeartbeats 1000000 in
theorem next_over (n u t d : Nat) (hn : n < M256) (t1 : 1 ≤ t) (t2 : t ≤ 1073741824) (hu : u ≤ 2 * t) (hne : u ≠ t) (hd : (d : Int) = if u < t then (t : Int) - u else (u : Int) - t) (ho : ¬ n * d < M256) (w : World) :
    Calls Try.prog 19 #[V n, .int .i64 (u : Int), .int .i64 (t : Int)] w fun e w' => e = .returned (.tuple #[.agg (A4 0 0 0 0), .int .i64 8]) ∧ Below w.heap.size w w' := by
  have m1 : ¬ (t : Int) < 1 := by omega
  have m2 : ¬ 1073741824 < (t : Int) := by omega
  have m3 : ¬ (u : Int) < 0 := by omega
  have m4 : ¬ 2 * (t : Int) < (u : Int) := by omega
  have hnb : ((u : Int) == (t : Int)) = false := by simp; omega
  have hst := fun w => step n d t hn (by split at hd <;> omega) (by omega) (by omega) w
  rw [show stE n d = 8 from if_neg ho] at hst
  generalize stV n d t = c at hst
  have HS : Hid (∀ w, Calls Try.prog 38 #[V n, .int .i64 (if u < t then (t : Int) - u else (u : Int) - t), .int .i64 (t : Int)] w fun e w' => e = .returned (.tuple #[V c, .int .i64 8]) ∧ Below w.heap.size w w') := by rw [hd] at hst; exact hst
  clear ho hst hd
  by_cases hlt : u < t
  · rw [if_pos hlt] at HS
    have hc1 : ¬ (u : Int) - t > (t : Int) - u := by omega
    have hc2 : (u : Int) - t < (t : Int) - u := by omega
    go_enter Try.func19, Try.ntmps19
    go_upto_region 1 with fail
    have bA : Bk ((w.alloc (.cells (A4 (lb (n) 0) (lb (n) 1) (lb (n) 2) (lb (n) 3)) 25)).alloc (.cells (A4 0 0 0 0) 25)) w.heap.size (A4 (lb (n) 0) (lb (n) 1) (lb (n) 2) (lb (n) 3)) 25 := (Bk.new _ _ _).alloc _
    have bR : Bk ((w.alloc (.cells (A4 (lb (n) 0) (lb (n) 1) (lb (n) 2) (lb (n) 3)) 25)).alloc (.cells (A4 0 0 0 0) 25)) (w.heap.size + 1) (A4 0 0 0 0) 25 := Bk.new' _ _ _ (by simp)
    have hB : Below w.heap.size w ((w.alloc (.cells (A4 (lb (n) 0) (lb (n) 1) (lb (n) 2) (lb (n) 3)) 25)).alloc (.cells (A4 0 0 0 0) 25)) := ((Below.refl _ w).alloc (Nat.le_refl _) _).alloc (by simp) _
    have hsz : ((w.alloc (.cells (A4 (lb (n) 0) (lb (n) 1) (lb (n) 2) (lb (n) 3)) 25)).alloc (.cells (A4 0 0 0 0) 25)).heap.size = w.heap.size + 2 := by simp
    generalize ((w.alloc (.cells (A4 (lb (n) 0) (lb (n) 1) (lb (n) 2) (lb (n) 3)) 25)).alloc (.cells (A4 0 0 0 0) 25)) = w2 at *
    have n0 := bA.cell 0
    have nf0 := bA.frozen 0
    have n1 := bA.cell 1
    have nf1 := bA.frozen 1
    have n2 := bA.cell 2
    have nf2 := bA.frozen 2
    have n3 := bA.cell 3
    have nf3 := bA.frozen 3
    simp only [List.getElem?_toArray, List.getElem?_cons_zero, List.getElem?_cons_succ] at n0 n1 n2 n3
    have r0 := bR.cell 0
    have rf0 := bR.frozen 0
    have r1 := bR.cell 1
    have rf1 := bR.frozen 1
    have r2 := bR.cell 2
    have rf2 := bR.frozen 2
    have r3 := bR.cell 3
    have rf3 := bR.frozen 3
    simp only [List.getElem?_toArray, List.getElem?_cons_zero, List.getElem?_cons_succ] at r0 r1 r2 r3
    go_wp2_with (go_at_call 38; refine (HS.out _).mono ?_; rintro e w5 ⟨rfl, hb5⟩; have bR5 := bR.below hb5 bR.lt; have l5 := bR5.lt; have z0 := bR5.cell 0; have zf0 := bR5.frozen 0; have z1 := bR5.cell 1; have zf1 := bR5.frozen 1; have z2 := bR5.cell 2; have zf2 := bR5.frozen 2; have z3 := bR5.cell 3; have zf3 := bR5.frozen 3; simp only [List.getElem?_toArray, List.getElem?_cons_zero, List.getElem?_cons_succ] at z0 z1 z2 z3)
    have hB5 := hB.trans (hb5.mono (by omega))
    have kR := (set4_Bk bR5 (.int .u64 0) (.int .u64 0) (.int .u64 0) (.int .u64 0)).alloc (.cells (A4 (lb (c) 0) (lb (c) 1) (lb (c) 2) (lb (c) 3)) 25)
    have hBr := (set4_below hB5 (b := w.heap.size + 1) (by omega) (.int .u64 0) (.int .u64 0) (.int .u64 0) (.int .u64 0)).alloc (by simp; omega) (.cells (A4 (lb (c) 0) (lb (c) 1) (lb (c) 2) (lb (c) 3)) 25)
    generalize World.alloc _ _ = W9 at kR hBr ⊢
    have q0 := kR.cell 0
    have qf0 := kR.frozen 0
    have q1 := kR.cell 1
    have qf1 := kR.frozen 1
    have q2 := kR.cell 2
    have qf2 := kR.frozen 2
    have q3 := kR.cell 3
    have qf3 := kR.frozen 3
    simp only [List.getElem?_toArray, List.getElem?_cons_zero, List.getElem?_cons_succ] at q0 q1 q2 q3
    refine bodyPost_ret (v := .tuple #[.agg (A4 0 0 0 0), .int .i64 8]) ?_ rfl ⟨rfl, hBr⟩
    simp [results, Try.results19, go_sem, q0, q1, q2, q3]
  · rw [if_neg hlt] at HS
    have hc1 : (t : Int) - u < (u : Int) - t := by omega
    have hc2 : ¬ (u : Int) - t < (t : Int) - u := by omega
    go_enter Try.func19, Try.ntmps19
    go_upto_region 1 with fail
    have bA : Bk ((w.alloc (.cells (A4 (lb (n) 0) (lb (n) 1) (lb (n) 2) (lb (n) 3)) 25)).alloc (.cells (A4 0 0 0 0) 25)) w.heap.size (A4 (lb (n) 0) (lb (n) 1) (lb (n) 2) (lb (n) 3)) 25 := (Bk.new _ _ _).alloc _
    have bR : Bk ((w.alloc (.cells (A4 (lb (n) 0) (lb (n) 1) (lb (n) 2) (lb (n) 3)) 25)).alloc (.cells (A4 0 0 0 0) 25)) (w.heap.size + 1) (A4 0 0 0 0) 25 := Bk.new' _ _ _ (by simp)
    have hB : Below w.heap.size w ((w.alloc (.cells (A4 (lb (n) 0) (lb (n) 1) (lb (n) 2) (lb (n) 3)) 25)).alloc (.cells (A4 0 0 0 0) 25)) := ((Below.refl _ w).alloc (Nat.le_refl _) _).alloc (by simp) _
    have hsz : ((w.alloc (.cells (A4 (lb (n) 0) (lb (n) 1) (lb (n) 2) (lb (n) 3)) 25)).alloc (.cells (A4 0 0 0 0) 25)).heap.size = w.heap.size + 2 := by simp
    generalize ((w.alloc (.cells (A4 (lb (n) 0) (lb (n) 1) (lb (n) 2) (lb (n) 3)) 25)).alloc (.cells (A4 0 0 0 0) 25)) = w2 at *
    have n0 := bA.cell 0
    have nf0 := bA.frozen 0
    have n1 := bA.cell 1
    have nf1 := bA.frozen 1
    have n2 := bA.cell 2
    have nf2 := bA.frozen 2
    have n3 := bA.cell 3
    have nf3 := bA.frozen 3
    simp only [List.getElem?_toArray, List.getElem?_cons_zero, List.getElem?_cons_succ] at n0 n1 n2 n3
    have r0 := bR.cell 0
    have rf0 := bR.frozen 0
    have r1 := bR.cell 1
    have rf1 := bR.frozen 1
    have r2 := bR.cell 2
    have rf2 := bR.frozen 2
    have r3 := bR.cell 3
    have rf3 := bR.frozen 3
    simp only [List.getElem?_toArray, List.getElem?_cons_zero, List.getElem?_cons_succ] at r0 r1 r2 r3
    go_wp2_with (go_at_call 38; refine (HS.out _).mono ?_; rintro e w5 ⟨rfl, hb5⟩; have bR5 := bR.below hb5 bR.lt; have l5 := bR5.lt; have z0 := bR5.cell 0; have zf0 := bR5.frozen 0; have z1 := bR5.cell 1; have zf1 := bR5.frozen 1; have z2 := bR5.cell 2; have zf2 := bR5.frozen 2; have z3 := bR5.cell 3; have zf3 := bR5.frozen 3; simp only [List.getElem?_toArray, List.getElem?_cons_zero, List.getElem?_cons_succ] at z0 z1 z2 z3)
    have hB5 := hB.trans (hb5.mono (by omega))
    have kR := (set4_Bk bR5 (.int .u64 0) (.int .u64 0) (.int .u64 0) (.int .u64 0)).alloc (.cells (A4 (lb (c) 0) (lb (c) 1) (lb (c) 2) (lb (c) 3)) 25)
    have hBr := (set4_below hB5 (b := w.heap.size + 1) (by omega) (.int .u64 0) (.int .u64 0) (.int .u64 0) (.int .u64 0)).alloc (by simp; omega) (.cells (A4 (lb (c) 0) (lb (c) 1) (lb (c) 2) (lb (c) 3)) 25)
    generalize World.alloc _ _ = W9 at kR hBr ⊢
    have q0 := kR.cell 0
    have qf0 := kR.frozen 0
    have q1 := kR.cell 1
    have qf1 := kR.frozen 1
    have q2 := kR.cell 2
    have qf2 := kR.frozen 2
    have q3 := kR.cell 3
    have qf3 := kR.frozen 3
    simp only [List.getElem?_toArray, List.getElem?_cons_zero, List.getElem?_cons_succ] at q0 q1 q2 q3
    refine bodyPost_ret (v := .tuple #[.agg (A4 0 0 0 0), .int .i64 8]) ?_ rfl ⟨rfl, hBr⟩
    simp [results, Try.results19, go_sem, q0, q1, q2, q3]
end Go.Proofs.Ytgolpadmcalimaa

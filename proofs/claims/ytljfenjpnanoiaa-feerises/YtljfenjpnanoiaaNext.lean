import Derived.Test.YtljfenjpnanoiaaDivC
import Derived.Test.YtljfenjpnanoiaaMul
import Derived.Test.YtljfenjpnanoiaaAdd
import Derived.Test.YtljfenjpnanoiaaSub
import Derived.Test.YtljfenjpnanoiaaNextT
import Derived.Test.YtljfenjpnanoiaaBlk
import Derived.Test.YtljfenjpnanoiaaEql
set_option linter.unusedSimpArgs false
set_option linter.unusedVariables false
namespace Go.Proofs.Ytljfenjpnanoiaa
open Go.RowKit

/-! By how much a fee moves; what the next block asks. -/
def stV (n g t : Nat) : Nat := if n * g < M256 then n * g / t / 8 else 0
def stE (n g : Nat) : Int := if n * g < M256 then 0 else 8
theorem stV_lt (n g t : Nat) : stV n g t < M256 := by
  unfold stV; split
  · exact Nat.lt_of_le_of_lt (Nat.le_trans (Nat.div_le_self _ _) (Nat.div_le_self _ _)) ‹_›
  · decide
theorem mulS (n g : Nat) (hn : n < M256) (hg : g < 18446744073709551616) (w : World) : Calls Try.prog 22 #[V n, .agg (A4 (g : Int) 0 0 0)] w fun e w' => e = .returned (.tuple #[V (mulV n g), .int .i64 (mulOkE n g)]) ∧ Below w.heap.size w w' := by
  have := mul n g hn (by unfold M256; omega) w
  rw [← V_one g hg] at this
  exact this
theorem divS (n g : Nat) (hn : n < M256) (hg : g < 18446744073709551616) (h0 : 0 < g) (w : World) : Calls Try.prog 17 #[V n, .agg (A4 (g : Int) 0 0 0)] w fun e w' => e = .returned (.tuple #[V (n / g), V (divR n g), .int .i64 0]) ∧ Below w.heap.size w w' := by
  have := div n g hn (by unfold M256; omega) w
  rw [← V_one g hg, show divE g = 0 from if_neg (by omega)] at this
  exact this
set_option maxRecDepth 100000 in
set_option maxHeartbeats 1000000 in
theorem step_no (n g t : Nat) (hn : n < M256) (hg : g ≤ 9223372036854775807) (ho : ¬ n * g < M256) (w : World) :
    Calls Try.prog 41 #[V n, .int .i64 (g : Int), .int .i64 (t : Int)] w fun e w' => e = .returned (.tuple #[.agg (A4 0 0 0 0), .int .i64 8]) ∧ Below w.heap.size w w' := by
  have hw : IntKind.u64.wrap (g : Int) = g := by rw [IntKind.wrap_u64]; omega
  have hm := fun w => mulS n g hn (by omega) w
  rw [show mulOkE n g = 8 from if_neg ho] at hm
  generalize mulV n g = p at hm
  clear ho
  go_enter Try.func41, Try.ntmps41
  go_upto_region 1 with fail
  have bA : Bk ((w.alloc (.cells (A4 (lb (n) 0) (lb (n) 1) (lb (n) 2) (lb (n) 3)) 25)).alloc (.cells (A4 0 0 0 0) 25)) w.heap.size (A4 (lb (n) 0) (lb (n) 1) (lb (n) 2) (lb (n) 3)) 25 := (Bk.new _ _ _).alloc _
  have bR : Bk ((w.alloc (.cells (A4 (lb (n) 0) (lb (n) 1) (lb (n) 2) (lb (n) 3)) 25)).alloc (.cells (A4 0 0 0 0) 25)) (w.heap.size + 1) (A4 0 0 0 0) 25 := Bk.new' _ _ _ (by simp)
  have hB : Below w.heap.size w ((w.alloc (.cells (A4 (lb (n) 0) (lb (n) 1) (lb (n) 2) (lb (n) 3)) 25)).alloc (.cells (A4 0 0 0 0) 25)) := ((Below.refl _ w).alloc (Nat.le_refl _) _).alloc (by simp) _
  have hsz : ((w.alloc (.cells (A4 (lb (n) 0) (lb (n) 1) (lb (n) 2) (lb (n) 3)) 25)).alloc (.cells (A4 0 0 0 0) 25)).heap.size = w.heap.size + 2 := by simp
  generalize ((w.alloc (.cells (A4 (lb (n) 0) (lb (n) 1) (lb (n) 2) (lb (n) 3)) 25)).alloc (.cells (A4 0 0 0 0) 25)) = w2 at *
  have n0 := bA.cell 0
  have nf0 := bA.frozen 0
  have n1 := bA.cell 1
  have nf1 := bA.frozen 1
  have n2 := bA.cell 2
  have nf2 := bA.frozen 2
  have n3 := bA.cell 3
  have nf3 := bA.frozen 3
  simp only [List.getElem?_toArray, List.getElem?_cons_zero, List.getElem?_cons_succ] at n0 n1 n2 n3
  have r0 := bR.cell 0
  have rf0 := bR.frozen 0
  have r1 := bR.cell 1
  have rf1 := bR.frozen 1
  have r2 := bR.cell 2
  have rf2 := bR.frozen 2
  have r3 := bR.cell 3
  have rf3 := bR.frozen 3
  simp only [List.getElem?_toArray, List.getElem?_cons_zero, List.getElem?_cons_succ] at r0 r1 r2 r3
  go_wp2_with (go_at_call 22; refine (hm _).mono ?_; rintro e w5 ⟨rfl, hb5⟩; have bR5 := bR.below hb5 bR.lt; have l5 := bR5.lt; have z0 := bR5.cell 0; have zf0 := bR5.frozen 0; have z1 := bR5.cell 1; have zf1 := bR5.frozen 1; have z2 := bR5.cell 2; have zf2 := bR5.frozen 2; have z3 := bR5.cell 3; have zf3 := bR5.frozen 3; simp only [List.getElem?_toArray, List.getElem?_cons_zero, List.getElem?_cons_succ] at z0 z1 z2 z3)
  have hB5 := hB.trans (hb5.mono (by omega))
  have kR := (set4_Bk bR5 (.int .u64 0) (.int .u64 0) (.int .u64 0) (.int .u64 0)).alloc (.cells (A4 (lb (p) 0) (lb (p) 1) (lb (p) 2) (lb (p) 3)) 25)
  have hBr := (set4_below hB5 (b := w.heap.size + 1) (by omega) (.int .u64 0) (.int .u64 0) (.int .u64 0) (.int .u64 0)).alloc (by simp; omega) (.cells (A4 (lb (p) 0) (lb (p) 1) (lb (p) 2) (lb (p) 3)) 25)
  generalize World.alloc _ _ = W9 at kR hBr ⊢
  have q0 := kR.cell 0
  have qf0 := kR.frozen 0
  have q1 := kR.cell 1
  have qf1 := kR.frozen 1
  have q2 := kR.cell 2
  have qf2 := kR.frozen 2
  have q3 := kR.cell 3
  have qf3 := kR.frozen 3
  simp only [List.getElem?_toArray, List.getElem?_cons_zero, List.getElem?_cons_succ] at q0 q1 q2 q3
  refine bodyPost_ret (v := .tuple #[.agg (A4 0 0 0 0), .int .i64 8]) ?_ rfl ⟨rfl, hBr⟩
  simp [results, Try.results41, go_sem, q0, q1, q2, q3]
set_option maxRecDepth 100000 in
set_option maxHeartbeats 1000000 in
theorem step_yes (n g t : Nat) (hn : n < M256) (hg : g ≤ 9223372036854775807) (ht : t ≤ 9223372036854775807) (ht0 : 0 < t) (ho : n * g < M256) (w : World) :
    Calls Try.prog 41 #[V n, .int .i64 (g : Int), .int .i64 (t : Int)] w fun e w' => e = .returned (.tuple #[V (n * g / t / 8), .int .i64 0]) ∧ Below w.heap.size w w' := by
  have hw : IntKind.u64.wrap (g : Int) = g := by rw [IntKind.wrap_u64]; omega
  have hw2 : IntKind.u64.wrap (t : Int) = t := by rw [IntKind.wrap_u64]; omega
  have hm := fun w => mulS n g hn (by omega) w
  rw [show mulOkE n g = 0 from if_pos ho, show mulV n g = n * g from if_pos ho] at hm
  have hd1 := fun w => divS (n * g) t ho (by omega) ht0 w
  have hd2 := fun w => divS (n * g / t) 8 (Nat.lt_of_le_of_lt (Nat.div_le_self _ _) ho) (by omega) (by omega) w
  have HD1 : Hid (∀ w, Calls Try.prog 17 #[V (n * g), .agg (A4 (t : Int) 0 0 0)] w fun e w' => e = .returned (.tuple #[V (n * g / t), V (divR (n * g) t), .int .i64 0]) ∧ Below w.heap.size w w') := hd1
  have HD2 : Hid (∀ w, Calls Try.prog 17 #[V (n * g / t), .agg (A4 8 0 0 0)] w fun e w' => e = .returned (.tuple #[V (n * g / t / 8), V (divR (n * g / t) 8), .int .i64 0]) ∧ Below w.heap.size w w') := hd2
  clear hd1 hd2 ho
  generalize divR (n * g / t) 8 = d2 at *
  generalize divR (n * g) t = d1 at *
  generalize n * g / t / 8 = c at *
  generalize n * g / t = b at *
  generalize n * g = a at *
  go_enter Try.func41, Try.ntmps41
  go_upto_region 1 with fail
  have bA : Bk ((w.alloc (.cells (A4 (lb (n) 0) (lb (n) 1) (lb (n) 2) (lb (n) 3)) 25)).alloc (.cells (A4 0 0 0 0) 25)) w.heap.size (A4 (lb (n) 0) (lb (n) 1) (lb (n) 2) (lb (n) 3)) 25 := (Bk.new _ _ _).alloc _
  have bR : Bk ((w.alloc (.cells (A4 (lb (n) 0) (lb (n) 1) (lb (n) 2) (lb (n) 3)) 25)).alloc (.cells (A4 0 0 0 0) 25)) (w.heap.size + 1) (A4 0 0 0 0) 25 := Bk.new' _ _ _ (by simp)
  have hB : Below w.heap.size w ((w.alloc (.cells (A4 (lb (n) 0) (lb (n) 1) (lb (n) 2) (lb (n) 3)) 25)).alloc (.cells (A4 0 0 0 0) 25)) := ((Below.refl _ w).alloc (Nat.le_refl _) _).alloc (by simp) _
  have hsz : ((w.alloc (.cells (A4 (lb (n) 0) (lb (n) 1) (lb (n) 2) (lb (n) 3)) 25)).alloc (.cells (A4 0 0 0 0) 25)).heap.size = w.heap.size + 2 := by simp
  generalize ((w.alloc (.cells (A4 (lb (n) 0) (lb (n) 1) (lb (n) 2) (lb (n) 3)) 25)).alloc (.cells (A4 0 0 0 0) 25)) = w2 at *
  have n0 := bA.cell 0
  have nf0 := bA.frozen 0
  have n1 := bA.cell 1
  have nf1 := bA.frozen 1
  have n2 := bA.cell 2
  have nf2 := bA.frozen 2
  have n3 := bA.cell 3
  have nf3 := bA.frozen 3
  simp only [List.getElem?_toArray, List.getElem?_cons_zero, List.getElem?_cons_succ] at n0 n1 n2 n3
  have r0 := bR.cell 0
  have rf0 := bR.frozen 0
  have r1 := bR.cell 1
  have rf1 := bR.frozen 1
  have r2 := bR.cell 2
  have rf2 := bR.frozen 2
  have r3 := bR.cell 3
  have rf3 := bR.frozen 3
  simp only [List.getElem?_toArray, List.getElem?_cons_zero, List.getElem?_cons_succ] at r0 r1 r2 r3
  go_upto_region 4 with (go_at_call 22; refine (hm _).mono ?_; rintro e w5 ⟨rfl, hb5⟩)
  have bP := Bk.new w5 (A4 (lb (a) 0) (lb (a) 1) (lb (a) 2) (lb (a) 3)) 25
  have bR5 := (bR.below hb5 bR.lt).alloc (.cells (A4 (lb (a) 0) (lb (a) 1) (lb (a) 2) (lb (a) 3)) 25)
  have hB5 := (hB.trans (hb5.mono (by omega))).alloc (by have := hb5.size; omega) (.cells (A4 (lb (a) 0) (lb (a) 1) (lb (a) 2) (lb (a) 3)) 25)
  have hg5 : w.heap.size + 1 < w5.heap.size := by have := hb5.size; omega
  obtain ⟨Y, hY⟩ : ∃ Y, Y = w5.heap.size := ⟨_, rfl⟩
  rw [← hY] at bP hg5 ⊢
  clear hY hb5 bR hB
  generalize w5.alloc _ = w6 at *
  have p0 := bP.cell 0
  have pf0 := bP.frozen 0
  have p1 := bP.cell 1
  have pf1 := bP.frozen 1
  have p2 := bP.cell 2
  have pf2 := bP.frozen 2
  have p3 := bP.cell 3
  have pf3 := bP.frozen 3
  simp only [List.getElem?_toArray, List.getElem?_cons_zero, List.getElem?_cons_succ] at p0 p1 p2 p3
  go_upto_region 7 with (go_at_call 17; refine (HD1.out _).mono ?_; rintro e w7 ⟨rfl, hb7⟩)
  have bR7 := ((bR5.below hb7 bR5.lt).alloc (.cells (A4 (lb (b) 0) (lb (b) 1) (lb (b) 2) (lb (b) 3)) 25)).alloc (.cells (A4 (lb (d1) 0) (lb (d1) 1) (lb (d1) 2) (lb (d1) 3)) 25)
  have bT := (Bk.new w7 (A4 (lb (b) 0) (lb (b) 1) (lb (b) 2) (lb (b) 3)) 25).alloc (.cells (A4 (lb (d1) 0) (lb (d1) 1) (lb (d1) 2) (lb (d1) 3)) 25)
  have hg7 : w.heap.size + 1 < w7.heap.size := by have := hb7.size; have := bR5.lt; omega
  have hB7 := ((hB5.trans (hb7.mono (by have := bR5.lt; omega))).alloc (by omega) (.cells (A4 (lb (b) 0) (lb (b) 1) (lb (b) 2) (lb (b) 3)) 25)).alloc (by simp; omega) (.cells (A4 (lb (d1) 0) (lb (d1) 1) (lb (d1) 2) (lb (d1) 3)) 25)
  obtain ⟨X, hX⟩ : ∃ X, X = w7.heap.size := ⟨_, rfl⟩
  rw [← hX] at bT hg7 ⊢
  clear hX hb7 bR5 hB5 p0 p1 p2 p3 pf0 pf1 pf2 pf3
  generalize (w7.alloc _).alloc _ = w8 at *
  have t0 := bT.cell 0
  have tf0 := bT.frozen 0
  have t1 := bT.cell 1
  have tf1 := bT.frozen 1
  have t2 := bT.cell 2
  have tf2 := bT.frozen 2
  have t3 := bT.cell 3
  have tf3 := bT.frozen 3
  simp only [List.getElem?_toArray, List.getElem?_cons_zero, List.getElem?_cons_succ] at t0 t1 t2 t3
  go_wp2_with (go_at_call 17; refine (HD2.out _).mono ?_; rintro e w9 ⟨rfl, hb9⟩; have bR9 := bR7.below hb9 bR7.lt; have bT9 := bT.below hb9 bT.lt; have l9 := bR9.lt; have l9' := bT9.lt; have z0 := bR9.cell 0; have zf0 := bR9.frozen 0; have z1 := bR9.cell 1; have zf1 := bR9.frozen 1; have z2 := bR9.cell 2; have zf2 := bR9.frozen 2; have z3 := bR9.cell 3; have zf3 := bR9.frozen 3; simp only [List.getElem?_toArray, List.getElem?_cons_zero, List.getElem?_cons_succ] at z0 z1 z2 z3; have y0 := bT9.cell 0; have yf0 := bT9.frozen 0; have y1 := bT9.cell 1; have yf1 := bT9.frozen 1; have y2 := bT9.cell 2; have yf2 := bT9.frozen 2; have y3 := bT9.cell 3; have yf3 := bT9.frozen 3; simp only [List.getElem?_toArray, List.getElem?_cons_zero, List.getElem?_cons_succ] at y0 y1 y2 y3)
  have hB9 := hB7.trans (hb9.mono (by have := bR7.lt; omega))
  have kR := set4_Bk (set4_other bR9 (c := X) (by omega) (.int .u64 (lb (c) 0)) (.int .u64 (lb (c) 1)) (.int .u64 (lb (c) 2)) (.int .u64 (lb (c) 3))) (.int .u64 (lb (c) 0)) (.int .u64 (lb (c) 1)) (.int .u64 (lb (c) 2)) (.int .u64 (lb (c) 3))
  have hBr := set4_below (set4_below hB9 (b := X) (by omega) (.int .u64 (lb (c) 0)) (.int .u64 (lb (c) 1)) (.int .u64 (lb (c) 2)) (.int .u64 (lb (c) 3))) (b := w.heap.size + 1) (by omega) (.int .u64 (lb (c) 0)) (.int .u64 (lb (c) 1)) (.int .u64 (lb (c) 2)) (.int .u64 (lb (c) 3))
  generalize World.setCell _ _ _ = W9 at kR hBr ⊢
  have q0 := kR.cell 0
  have qf0 := kR.frozen 0
  have q1 := kR.cell 1
  have qf1 := kR.frozen 1
  have q2 := kR.cell 2
  have qf2 := kR.frozen 2
  have q3 := kR.cell 3
  have qf3 := kR.frozen 3
  simp only [List.getElem?_toArray, List.getElem?_cons_zero, List.getElem?_cons_succ] at q0 q1 q2 q3
  refine bodyPost_ret (v := .tuple #[V c, .int .i64 0]) ?_ rfl ⟨rfl, hBr⟩
  simp [results, Try.results41, go_sem, q0, q1, q2, q3]
theorem step (n g t : Nat) (hn : n < M256) (hg : g ≤ 9223372036854775807) (ht : t ≤ 9223372036854775807) (ht0 : 0 < t) (w : World) :
    Calls Try.prog 41 #[V n, .int .i64 (g : Int), .int .i64 (t : Int)] w fun e w' => e = .returned (.tuple #[V (stV n g t), .int .i64 (stE n g)]) ∧ Below w.heap.size w w' := by
  by_cases ho : n * g < M256
  · rw [show stV n g t = n * g / t / 8 from if_pos ho, show stE n g = 0 from if_pos ho]
    exact step_yes n g t hn hg ht ht0 ho w
  · rw [show stV n g t = 0 from if_neg ho, show stE n g = 8 from if_neg ho, V_zero]
    exact step_no n g t hn hg ho w
end Go.Proofs.Ytljfenjpnanoiaa

set_option linter.unusedSimpArgs false
set_option linter.unusedVariables false
namespace Go.Proofs.Ytljfenjpnanoiaa
open Go.RowKit

set_option maxRecDepth 100000 in
set_option maxHeartbeats 1000000 in
theorem next_no (n : Nat) (u t : Int) (hu : -9223372036854775808 ≤ u ∧ u ≤ 9223372036854775807) (h : t < 1 ∨ 1073741824 < t ∨ u < 0 ∨ 2 * t < u) (w : World) :
    Calls Try.prog 26 #[V n, .int .i64 u, .int .i64 t] w fun e w' => e = .returned (.tuple #[.agg (A4 0 0 0 0), .int .i64 1]) ∧ Below w.heap.size w w' := by
  have key : Calls Try.prog 26 #[V n, .int .i64 u, .int .i64 t] w fun e w' => e = .returned (.tuple #[.agg (A4 0 0 0 0), .int .i64 1]) ∧ w' = ((w.alloc (.cells (A4 (lb (n) 0) (lb (n) 1) (lb (n) 2) (lb (n) 3)) 25)).alloc (.cells (A4 0 0 0 0) 25)) := by
    by_cases h1 : t < 1
    · go_enter Try.func26, Try.ntmps26
      go_wp2
      refine bodyPost_ret (v := .tuple #[.agg (A4 0 0 0 0), .int .i64 1]) ?_ rfl ⟨rfl, rfl⟩
      simp [results, Try.results26, go_sem]
    · by_cases h2 : 1073741824 < t
      · go_enter Try.func26, Try.ntmps26
        go_wp2
        refine bodyPost_ret (v := .tuple #[.agg (A4 0 0 0 0), .int .i64 1]) ?_ rfl ⟨rfl, rfl⟩
        simp [results, Try.results26, go_sem]
      · by_cases h3 : u < 0
        · go_enter Try.func26, Try.ntmps26
          go_wp2
          refine bodyPost_ret (v := .tuple #[.agg (A4 0 0 0 0), .int .i64 1]) ?_ rfl ⟨rfl, rfl⟩
          simp [results, Try.results26, go_sem]
        · have h4 : 2 * t < u := by omega
          clear h
          go_enter Try.func26, Try.ntmps26
          go_wp2
          refine bodyPost_ret (v := .tuple #[.agg (A4 0 0 0 0), .int .i64 1]) ?_ rfl ⟨rfl, rfl⟩
          simp [results, Try.results26, go_sem]
  refine key.mono fun e w' h => ⟨h.1, ?_⟩
  rw [h.2]; exact ((Below.refl _ w).alloc (Nat.le_refl _) _).alloc (by simp) _
set_option maxRecDepth 100000 in
set_option maxHeartbeats 1000000 in
theorem next_eq (n t : Nat) (t1 : 1 ≤ t) (t2 : t ≤ 1073741824) (w : World) :
    Calls Try.prog 26 #[V n, .int .i64 (t : Int), .int .i64 (t : Int)] w fun e w' => e = .returned (.tuple #[V n, .int .i64 0]) ∧ Below w.heap.size w w' := by
  have m1 : ¬ (t : Int) < 1 := by omega
  have m2 : ¬ 1073741824 < (t : Int) := by omega
  have m3 : ¬ (t : Int) < 0 := by omega
  have m4 : ¬ 2 * (t : Int) < (t : Int) := by omega
  go_enter Try.func26, Try.ntmps26
  go_upto_region 1 with fail
  have bA : Bk ((w.alloc (.cells (A4 (lb (n) 0) (lb (n) 1) (lb (n) 2) (lb (n) 3)) 25)).alloc (.cells (A4 0 0 0 0) 25)) w.heap.size (A4 (lb (n) 0) (lb (n) 1) (lb (n) 2) (lb (n) 3)) 25 := (Bk.new _ _ _).alloc _
  have bR : Bk ((w.alloc (.cells (A4 (lb (n) 0) (lb (n) 1) (lb (n) 2) (lb (n) 3)) 25)).alloc (.cells (A4 0 0 0 0) 25)) (w.heap.size + 1) (A4 0 0 0 0) 25 := Bk.new' _ _ _ (by simp)
  have hB : Below w.heap.size w ((w.alloc (.cells (A4 (lb (n) 0) (lb (n) 1) (lb (n) 2) (lb (n) 3)) 25)).alloc (.cells (A4 0 0 0 0) 25)) := ((Below.refl _ w).alloc (Nat.le_refl _) _).alloc (by simp) _
  have hsz : ((w.alloc (.cells (A4 (lb (n) 0) (lb (n) 1) (lb (n) 2) (lb (n) 3)) 25)).alloc (.cells (A4 0 0 0 0) 25)).heap.size = w.heap.size + 2 := by simp
  generalize ((w.alloc (.cells (A4 (lb (n) 0) (lb (n) 1) (lb (n) 2) (lb (n) 3)) 25)).alloc (.cells (A4 0 0 0 0) 25)) = w2 at *
  have n0 := bA.cell 0
  have nf0 := bA.frozen 0
  have n1 := bA.cell 1
  have nf1 := bA.frozen 1
  have n2 := bA.cell 2
  have nf2 := bA.frozen 2
  have n3 := bA.cell 3
  have nf3 := bA.frozen 3
  simp only [List.getElem?_toArray, List.getElem?_cons_zero, List.getElem?_cons_succ] at n0 n1 n2 n3
  have r0 := bR.cell 0
  have rf0 := bR.frozen 0
  have r1 := bR.cell 1
  have rf1 := bR.frozen 1
  have r2 := bR.cell 2
  have rf2 := bR.frozen 2
  have r3 := bR.cell 3
  have rf3 := bR.frozen 3
  simp only [List.getElem?_toArray, List.getElem?_cons_zero, List.getElem?_cons_succ] at r0 r1 r2 r3
  go_wp2
  have kR := set4_Bk bR (.int .u64 (lb (n) 0)) (.int .u64 (lb (n) 1)) (.int .u64 (lb (n) 2)) (.int .u64 (lb (n) 3))
  have hBr := set4_below hB (b := w.heap.size + 1) (by omega) (.int .u64 (lb (n) 0)) (.int .u64 (lb (n) 1)) (.int .u64 (lb (n) 2)) (.int .u64 (lb (n) 3))
  generalize World.setCell _ _ _ = W9 at kR hBr ⊢
  have q0 := kR.cell 0
  have qf0 := kR.frozen 0
  have q1 := kR.cell 1
  have qf1 := kR.frozen 1
  have q2 := kR.cell 2
  have qf2 := kR.frozen 2
  have q3 := kR.cell 3
  have qf3 := kR.frozen 3
  simp only [List.getElem?_toArray, List.getElem?_cons_zero, List.getElem?_cons_succ] at q0 q1 q2 q3
  refine bodyPost_ret (v := .tuple #[V n, .int .i64 0]) ?_ rfl ⟨rfl, hBr⟩
  simp [results, Try.results26, go_sem, q0, q1, q2, q3]
set_option maxRecDepth 100000 in
set_option maxHeartbeats 1000000 in
theorem next_over (n u t d : Nat) (hn : n < M256) (t1 : 1 ≤ t) (t2 : t ≤ 1073741824) (hu : u ≤ 2 * t) (hne : u ≠ t) (hd : (d : Int) = if u < t then (t : Int) - u else (u : Int) - t) (ho : ¬ n * d < M256) (w : World) :
    Calls Try.prog 26 #[V n, .int .i64 (u : Int), .int .i64 (t : Int)] w fun e w' => e = .returned (.tuple #[.agg (A4 0 0 0 0), .int .i64 8]) ∧ Below w.heap.size w w' := by
  have m1 : ¬ (t : Int) < 1 := by omega
  have m2 : ¬ 1073741824 < (t : Int) := by omega
  have m3 : ¬ (u : Int) < 0 := by omega
  have m4 : ¬ 2 * (t : Int) < (u : Int) := by omega
  have hnb : ((u : Int) == (t : Int)) = false := by simp; omega
  have hst := fun w => step n d t hn (by split at hd <;> omega) (by omega) (by omega) w
  rw [show stE n d = 8 from if_neg ho] at hst
  generalize stV n d t = c at hst
  have HS : Hid (∀ w, Calls Try.prog 41 #[V n, .int .i64 (if u < t then (t : Int) - u else (u : Int) - t), .int .i64 (t : Int)] w fun e w' => e = .returned (.tuple #[V c, .int .i64 8]) ∧ Below w.heap.size w w') := by rw [hd] at hst; exact hst
  clear ho hst hd
  by_cases hlt : u < t
  · rw [if_pos hlt] at HS
    have hc1 : ¬ (u : Int) - t > (t : Int) - u := by omega
    have hc2 : (u : Int) - t < (t : Int) - u := by omega
    go_enter Try.func26, Try.ntmps26
    go_upto_region 1 with fail
    have bA : Bk ((w.alloc (.cells (A4 (lb (n) 0) (lb (n) 1) (lb (n) 2) (lb (n) 3)) 25)).alloc (.cells (A4 0 0 0 0) 25)) w.heap.size (A4 (lb (n) 0) (lb (n) 1) (lb (n) 2) (lb (n) 3)) 25 := (Bk.new _ _ _).alloc _
    have bR : Bk ((w.alloc (.cells (A4 (lb (n) 0) (lb (n) 1) (lb (n) 2) (lb (n) 3)) 25)).alloc (.cells (A4 0 0 0 0) 25)) (w.heap.size + 1) (A4 0 0 0 0) 25 := Bk.new' _ _ _ (by simp)
    have hB : Below w.heap.size w ((w.alloc (.cells (A4 (lb (n) 0) (lb (n) 1) (lb (n) 2) (lb (n) 3)) 25)).alloc (.cells (A4 0 0 0 0) 25)) := ((Below.refl _ w).alloc (Nat.le_refl _) _).alloc (by simp) _
    have hsz : ((w.alloc (.cells (A4 (lb (n) 0) (lb (n) 1) (lb (n) 2) (lb (n) 3)) 25)).alloc (.cells (A4 0 0 0 0) 25)).heap.size = w.heap.size + 2 := by simp
    generalize ((w.alloc (.cells (A4 (lb (n) 0) (lb (n) 1) (lb (n) 2) (lb (n) 3)) 25)).alloc (.cells (A4 0 0 0 0) 25)) = w2 at *
    have n0 := bA.cell 0
    have nf0 := bA.frozen 0
    have n1 := bA.cell 1
    have nf1 := bA.frozen 1
    have n2 := bA.cell 2
    have nf2 := bA.frozen 2
    have n3 := bA.cell 3
    have nf3 := bA.frozen 3
    simp only [List.getElem?_toArray, List.getElem?_cons_zero, List.getElem?_cons_succ] at n0 n1 n2 n3
    have r0 := bR.cell 0
    have rf0 := bR.frozen 0
    have r1 := bR.cell 1
    have rf1 := bR.frozen 1
    have r2 := bR.cell 2
    have rf2 := bR.frozen 2
    have r3 := bR.cell 3
    have rf3 := bR.frozen 3
    simp only [List.getElem?_toArray, List.getElem?_cons_zero, List.getElem?_cons_succ] at r0 r1 r2 r3
    go_wp2_with (go_at_call 41; refine (HS.out _).mono ?_; rintro e w5 ⟨rfl, hb5⟩; have bR5 := bR.below hb5 bR.lt; have l5 := bR5.lt; have z0 := bR5.cell 0; have zf0 := bR5.frozen 0; have z1 := bR5.cell 1; have zf1 := bR5.frozen 1; have z2 := bR5.cell 2; have zf2 := bR5.frozen 2; have z3 := bR5.cell 3; have zf3 := bR5.frozen 3; simp only [List.getElem?_toArray, List.getElem?_cons_zero, List.getElem?_cons_succ] at z0 z1 z2 z3)
    have hB5 := hB.trans (hb5.mono (by omega))
    have kR := (set4_Bk bR5 (.int .u64 0) (.int .u64 0) (.int .u64 0) (.int .u64 0)).alloc (.cells (A4 (lb (c) 0) (lb (c) 1) (lb (c) 2) (lb (c) 3)) 25)
    have hBr := (set4_below hB5 (b := w.heap.size + 1) (by omega) (.int .u64 0) (.int .u64 0) (.int .u64 0) (.int .u64 0)).alloc (by simp; omega) (.cells (A4 (lb (c) 0) (lb (c) 1) (lb (c) 2) (lb (c) 3)) 25)
    generalize World.alloc _ _ = W9 at kR hBr ⊢
    have q0 := kR.cell 0
    have qf0 := kR.frozen 0
    have q1 := kR.cell 1
    have qf1 := kR.frozen 1
    have q2 := kR.cell 2
    have qf2 := kR.frozen 2
    have q3 := kR.cell 3
    have qf3 := kR.frozen 3
    simp only [List.getElem?_toArray, List.getElem?_cons_zero, List.getElem?_cons_succ] at q0 q1 q2 q3
    refine bodyPost_ret (v := .tuple #[.agg (A4 0 0 0 0), .int .i64 8]) ?_ rfl ⟨rfl, hBr⟩
    simp [results, Try.results26, go_sem, q0, q1, q2, q3]
  · rw [if_neg hlt] at HS
    have hc1 : (t : Int) - u < (u : Int) - t := by omega
    have hc2 : ¬ (u : Int) - t < (t : Int) - u := by omega
    go_enter Try.func26, Try.ntmps26
    go_upto_region 1 with fail
    have bA : Bk ((w.alloc (.cells (A4 (lb (n) 0) (lb (n) 1) (lb (n) 2) (lb (n) 3)) 25)).alloc (.cells (A4 0 0 0 0) 25)) w.heap.size (A4 (lb (n) 0) (lb (n) 1) (lb (n) 2) (lb (n) 3)) 25 := (Bk.new _ _ _).alloc _
    have bR : Bk ((w.alloc (.cells (A4 (lb (n) 0) (lb (n) 1) (lb (n) 2) (lb (n) 3)) 25)).alloc (.cells (A4 0 0 0 0) 25)) (w.heap.size + 1) (A4 0 0 0 0) 25 := Bk.new' _ _ _ (by simp)
    have hB : Below w.heap.size w ((w.alloc (.cells (A4 (lb (n) 0) (lb (n) 1) (lb (n) 2) (lb (n) 3)) 25)).alloc (.cells (A4 0 0 0 0) 25)) := ((Below.refl _ w).alloc (Nat.le_refl _) _).alloc (by simp) _
    have hsz : ((w.alloc (.cells (A4 (lb (n) 0) (lb (n) 1) (lb (n) 2) (lb (n) 3)) 25)).alloc (.cells (A4 0 0 0 0) 25)).heap.size = w.heap.size + 2 := by simp
    generalize ((w.alloc (.cells (A4 (lb (n) 0) (lb (n) 1) (lb (n) 2) (lb (n) 3)) 25)).alloc (.cells (A4 0 0 0 0) 25)) = w2 at *
    have n0 := bA.cell 0
    have nf0 := bA.frozen 0
    have n1 := bA.cell 1
    have nf1 := bA.frozen 1
    have n2 := bA.cell 2
    have nf2 := bA.frozen 2
    have n3 := bA.cell 3
    have nf3 := bA.frozen 3
    simp only [List.getElem?_toArray, List.getElem?_cons_zero, List.getElem?_cons_succ] at n0 n1 n2 n3
    have r0 := bR.cell 0
    have rf0 := bR.frozen 0
    have r1 := bR.cell 1
    have rf1 := bR.frozen 1
    have r2 := bR.cell 2
    have rf2 := bR.frozen 2
    have r3 := bR.cell 3
    have rf3 := bR.frozen 3
    simp only [List.getElem?_toArray, List.getElem?_cons_zero, List.getElem?_cons_succ] at r0 r1 r2 r3
    go_wp2_with (go_at_call 41; refine (HS.out _).mono ?_; rintro e w5 ⟨rfl, hb5⟩; have bR5 := bR.below hb5 bR.lt; have l5 := bR5.lt; have z0 := bR5.cell 0; have zf0 := bR5.frozen 0; have z1 := bR5.cell 1; have zf1 := bR5.frozen 1; have z2 := bR5.cell 2; have zf2 := bR5.frozen 2; have z3 := bR5.cell 3; have zf3 := bR5.frozen 3; simp only [List.getElem?_toArray, List.getElem?_cons_zero, List.getElem?_cons_succ] at z0 z1 z2 z3)
    have hB5 := hB.trans (hb5.mono (by omega))
    have kR := (set4_Bk bR5 (.int .u64 0) (.int .u64 0) (.int .u64 0) (.int .u64 0)).alloc (.cells (A4 (lb (c) 0) (lb (c) 1) (lb (c) 2) (lb (c) 3)) 25)
    have hBr := (set4_below hB5 (b := w.heap.size + 1) (by omega) (.int .u64 0) (.int .u64 0) (.int .u64 0) (.int .u64 0)).alloc (by simp; omega) (.cells (A4 (lb (c) 0) (lb (c) 1) (lb (c) 2) (lb (c) 3)) 25)
    generalize World.alloc _ _ = W9 at kR hBr ⊢
    have q0 := kR.cell 0
    have qf0 := kR.frozen 0
    have q1 := kR.cell 1
    have qf1 := kR.frozen 1
    have q2 := kR.cell 2
    have qf2 := kR.frozen 2
    have q3 := kR.cell 3
    have qf3 := kR.frozen 3
    simp only [List.getElem?_toArray, List.getElem?_cons_zero, List.getElem?_cons_succ] at q0 q1 q2 q3
    refine bodyPost_ret (v := .tuple #[.agg (A4 0 0 0 0), .int .i64 8]) ?_ rfl ⟨rfl, hBr⟩
    simp [results, Try.results26, go_sem, q0, q1, q2, q3]
end Go.Proofs.Ytljfenjpnanoiaa

set_option linter.unusedSimpArgs false
set_option linter.unusedVariables false
namespace Go.Proofs.Ytljfenjpnanoiaa
open Go.RowKit

set_option maxRecDepth 100000 in
set_option maxHeartbeats 1000000 in
theorem next_down (n u t : Nat) (hn : n < M256) (t1 : 1 ≤ t) (t2 : t ≤ 1073741824) (hu : u ≤ 2 * t) (hlt : u < t) (ho : n * (t - u) < M256) (w : World) :
    Calls Try.prog 26 #[V n, .int .i64 (u : Int), .int .i64 (t : Int)] w fun e w' => e = .returned (.tuple #[V (subV n (n * (t - u) / t / 8)), .int .i64 (subOkE n (n * (t - u) / t / 8))]) ∧ Below w.heap.size w w' := by
  have m1 : ¬ (t : Int) < 1 := by omega
  have m2 : ¬ 1073741824 < (t : Int) := by omega
  have m3 : ¬ (u : Int) < 0 := by omega
  have m4 : ¬ 2 * (t : Int) < (u : Int) := by omega
  have hnb : ((u : Int) == (t : Int)) = false := by simp; omega
  have hst := fun w => step n (t - u) t hn (by omega) (by omega) (by omega) w
  rw [show stE n (t - u) = 0 from if_pos ho, show stV n (t - u) t = n * (t - u) / t / 8 from if_pos ho] at hst
  have hcl : n * (t - u) / t / 8 < M256 := Nat.lt_of_le_of_lt (Nat.le_trans (Nat.div_le_self _ _) (Nat.div_le_self _ _)) ho
  generalize n * (t - u) / t / 8 = c at *
  rw [show ((t - u : Nat) : Int) = (t : Int) - u by omega] at hst
  have hsub := fun w => sub n c hn hcl w
  generalize subV n c = v at *
  generalize subOkE n c = e9 at *
  have hc1 : ¬ (u : Int) - t > (t : Int) - u := by omega
  have hc2 : (u : Int) - t < (t : Int) - u := by omega
  have hc3 : (u : Int) < t := by omega
  have HS : Hid (∀ w, Calls Try.prog 41 #[V n, .int .i64 ((t : Int) - u), .int .i64 (t : Int)] w fun e w' => e = .returned (.tuple #[V c, .int .i64 0]) ∧ Below w.heap.size w w') := hst
  have HU : Hid (∀ w, Calls Try.prog 21 #[V n, V c] w fun e w' => e = .returned (.tuple #[V v, .int .i64 e9]) ∧ Below w.heap.size w w') := hsub
  clear ho hst hsub hcl
  go_enter Try.func26, Try.ntmps26
  go_upto_region 1 with fail
  have bA : Bk ((w.alloc (.cells (A4 (lb (n) 0) (lb (n) 1) (lb (n) 2) (lb (n) 3)) 25)).alloc (.cells (A4 0 0 0 0) 25)) w.heap.size (A4 (lb (n) 0) (lb (n) 1) (lb (n) 2) (lb (n) 3)) 25 := (Bk.new _ _ _).alloc _
  have bR : Bk ((w.alloc (.cells (A4 (lb (n) 0) (lb (n) 1) (lb (n) 2) (lb (n) 3)) 25)).alloc (.cells (A4 0 0 0 0) 25)) (w.heap.size + 1) (A4 0 0 0 0) 25 := Bk.new' _ _ _ (by simp)
  have hB : Below w.heap.size w ((w.alloc (.cells (A4 (lb (n) 0) (lb (n) 1) (lb (n) 2) (lb (n) 3)) 25)).alloc (.cells (A4 0 0 0 0) 25)) := ((Below.refl _ w).alloc (Nat.le_refl _) _).alloc (by simp) _
  have hsz : ((w.alloc (.cells (A4 (lb (n) 0) (lb (n) 1) (lb (n) 2) (lb (n) 3)) 25)).alloc (.cells (A4 0 0 0 0) 25)).heap.size = w.heap.size + 2 := by simp
  generalize ((w.alloc (.cells (A4 (lb (n) 0) (lb (n) 1) (lb (n) 2) (lb (n) 3)) 25)).alloc (.cells (A4 0 0 0 0) 25)) = w2 at *
  have n0 := bA.cell 0
  have nf0 := bA.frozen 0
  have n1 := bA.cell 1
  have nf1 := bA.frozen 1
  have n2 := bA.cell 2
  have nf2 := bA.frozen 2
  have n3 := bA.cell 3
  have nf3 := bA.frozen 3
  simp only [List.getElem?_toArray, List.getElem?_cons_zero, List.getElem?_cons_succ] at n0 n1 n2 n3
  have r0 := bR.cell 0
  have rf0 := bR.frozen 0
  have r1 := bR.cell 1
  have rf1 := bR.frozen 1
  have r2 := bR.cell 2
  have rf2 := bR.frozen 2
  have r3 := bR.cell 3
  have rf3 := bR.frozen 3
  simp only [List.getElem?_toArray, List.getElem?_cons_zero, List.getElem?_cons_succ] at r0 r1 r2 r3
  go_upto_region 8 with (go_at_call 41; refine (HS.out _).mono ?_; rintro e w5 ⟨rfl, hb5⟩)
  have bC := Bk.new w5 (A4 (lb (c) 0) (lb (c) 1) (lb (c) 2) (lb (c) 3)) 25
  have bA5 := (bA.below hb5 bA.lt).alloc (.cells (A4 (lb (c) 0) (lb (c) 1) (lb (c) 2) (lb (c) 3)) 25)
  have bR5 := (bR.below hb5 bR.lt).alloc (.cells (A4 (lb (c) 0) (lb (c) 1) (lb (c) 2) (lb (c) 3)) 25)
  have hB5 := (hB.trans (hb5.mono (by omega))).alloc (by have := hb5.size; omega) (.cells (A4 (lb (c) 0) (lb (c) 1) (lb (c) 2) (lb (c) 3)) 25)
  have hg5 : w.heap.size + 1 < w5.heap.size := by have := hb5.size; omega
  obtain ⟨Y, hY⟩ : ∃ Y, Y = w5.heap.size := ⟨_, rfl⟩
  rw [← hY] at bC hg5 ⊢
  clear hY hb5 bR bA hB n0 n1 n2 n3 nf0 nf1 nf2 nf3 r0 r1 r2 r3 rf0 rf1 rf2 rf3
  generalize w5.alloc _ = w6 at *
  have a0 := bA5.cell 0
  have af0 := bA5.frozen 0
  have a1 := bA5.cell 1
  have af1 := bA5.frozen 1
  have a2 := bA5.cell 2
  have af2 := bA5.frozen 2
  have a3 := bA5.cell 3
  have af3 := bA5.frozen 3
  simp only [List.getElem?_toArray, List.getElem?_cons_zero, List.getElem?_cons_succ] at a0 a1 a2 a3
  have c0 := bC.cell 0
  have cf0 := bC.frozen 0
  have c1 := bC.cell 1
  have cf1 := bC.frozen 1
  have c2 := bC.cell 2
  have cf2 := bC.frozen 2
  have c3 := bC.cell 3
  have cf3 := bC.frozen 3
  simp only [List.getElem?_toArray, List.getElem?_cons_zero, List.getElem?_cons_succ] at c0 c1 c2 c3
  go_wp2_with (go_at_call 21; refine (HU.out _).mono ?_; rintro e w7 ⟨rfl, hb7⟩; have bR7 := bR5.below hb7 bR5.lt; have l7 := bR7.lt; have z0 := bR7.cell 0; have zf0 := bR7.frozen 0; have z1 := bR7.cell 1; have zf1 := bR7.frozen 1; have z2 := bR7.cell 2; have zf2 := bR7.frozen 2; have z3 := bR7.cell 3; have zf3 := bR7.frozen 3; simp only [List.getElem?_toArray, List.getElem?_cons_zero, List.getElem?_cons_succ] at z0 z1 z2 z3)
  have hB7 := hB5.trans (hb7.mono (by have := bR5.lt; omega))
  have kR := set4_Bk bR7 (.int .u64 (lb (v) 0)) (.int .u64 (lb (v) 1)) (.int .u64 (lb (v) 2)) (.int .u64 (lb (v) 3))
  have hBr := set4_below hB7 (b := w.heap.size + 1) (by omega) (.int .u64 (lb (v) 0)) (.int .u64 (lb (v) 1)) (.int .u64 (lb (v) 2)) (.int .u64 (lb (v) 3))
  generalize World.setCell _ _ _ = W9 at kR hBr ⊢
  have q0 := kR.cell 0
  have qf0 := kR.frozen 0
  have q1 := kR.cell 1
  have qf1 := kR.frozen 1
  have q2 := kR.cell 2
  have qf2 := kR.frozen 2
  have q3 := kR.cell 3
  have qf3 := kR.frozen 3
  simp only [List.getElem?_toArray, List.getElem?_cons_zero, List.getElem?_cons_succ] at q0 q1 q2 q3
  refine bodyPost_ret (v := .tuple #[V v, .int .i64 e9]) ?_ rfl ⟨rfl, hBr⟩
  simp [results, Try.results26, go_sem, q0, q1, q2, q3]
set_option maxRecDepth 100000 in
set_option maxHeartbeats 1000000 in
theorem next_up (n u t : Nat) (hn : n < M256) (t1 : 1 ≤ t) (t2 : t ≤ 1073741824) (hu : u ≤ 2 * t) (hlt : t < u) (ho : n * (u - t) < M256) (w : World) :
    Calls Try.prog 26 #[V n, .int .i64 (u : Int), .int .i64 (t : Int)] w fun e w' => e = .returned (.tuple #[V (addV n (max 1 (n * (u - t) / t / 8))), .int .i64 (addOkE n (max 1 (n * (u - t) / t / 8)))]) ∧ Below w.heap.size w w' := by
  have m1 : ¬ (t : Int) < 1 := by omega
  have m2 : ¬ 1073741824 < (t : Int) := by omega
  have m3 : ¬ (u : Int) < 0 := by omega
  have m4 : ¬ 2 * (t : Int) < (u : Int) := by omega
  have hnb : ((u : Int) == (t : Int)) = false := by simp; omega
  have hst := fun w => step n (u - t) t hn (by omega) (by omega) (by omega) w
  rw [show stE n (u - t) = 0 from if_pos ho, show stV n (u - t) t = n * (u - t) / t / 8 from if_pos ho] at hst
  have hcl : n * (u - t) / t / 8 < M256 := Nat.lt_of_le_of_lt (Nat.le_trans (Nat.div_le_self _ _) (Nat.div_le_self _ _)) ho
  generalize n * (u - t) / t / 8 = c at *
  rw [show ((u - t : Nat) : Int) = (u : Int) - t by omega] at hst
  have hml : max 1 c < M256 := by unfold M256 at *; omega
  have hadd := fun w => add n (max 1 c) hn hml w
  have hc1 : (t : Int) - u < (u : Int) - t := by omega
  have hc2 : ¬ (u : Int) - t < (t : Int) - u := by omega
  have hc3 : ¬ (u : Int) < t := by omega
  have HS : Hid (∀ w, Calls Try.prog 41 #[V n, .int .i64 ((u : Int) - t), .int .i64 (t : Int)] w fun e w' => e = .returned (.tuple #[V c, .int .i64 0]) ∧ Below w.heap.size w w') := hst
  clear ho hst
  by_cases h0 : c = 0
  · have he : ∀ w, (binOp .eql 25 (V c) (.agg (A4 0 0 0 0))).run Try.prog w = .ok (.bool true) w := fun w => by rw [eql26_0 c hcl, h0]; rfl
    have hm1 : max 1 c = 1 := by omega
    have hadd' : ∀ w, Calls Try.prog 18 #[V n, .agg (A4 1 0 0 0)] w fun e w' => e = .returned (.tuple #[V (addV n (max 1 c)), .int .i64 (addOkE n (max 1 c))]) ∧ Below w.heap.size w w' := fun w => by
      have := hadd w
      rw [show V (max 1 c) = .agg (A4 1 0 0 0) by rw [hm1, V_small 1 (by omega)]; rfl] at this
      exact this
    generalize addV n (max 1 c) = v at *
    generalize addOkE n (max 1 c) = e9 at *
    have HU : Hid (∀ w, Calls Try.prog 18 #[V n, .agg (A4 1 0 0 0)] w fun e w' => e = .returned (.tuple #[V v, .int .i64 e9]) ∧ Below w.heap.size w w') := hadd'
    clear hadd hadd' hm1 hml hcl h0
    go_enter Try.func26, Try.ntmps26
    go_upto_region 1 with fail
    have bA : Bk ((w.alloc (.cells (A4 (lb (n) 0) (lb (n) 1) (lb (n) 2) (lb (n) 3)) 25)).alloc (.cells (A4 0 0 0 0) 25)) w.heap.size (A4 (lb (n) 0) (lb (n) 1) (lb (n) 2) (lb (n) 3)) 25 := (Bk.new _ _ _).alloc _
    have bR : Bk ((w.alloc (.cells (A4 (lb (n) 0) (lb (n) 1) (lb (n) 2) (lb (n) 3)) 25)).alloc (.cells (A4 0 0 0 0) 25)) (w.heap.size + 1) (A4 0 0 0 0) 25 := Bk.new' _ _ _ (by simp)
    have hB : Below w.heap.size w ((w.alloc (.cells (A4 (lb (n) 0) (lb (n) 1) (lb (n) 2) (lb (n) 3)) 25)).alloc (.cells (A4 0 0 0 0) 25)) := ((Below.refl _ w).alloc (Nat.le_refl _) _).alloc (by simp) _
    have hsz : ((w.alloc (.cells (A4 (lb (n) 0) (lb (n) 1) (lb (n) 2) (lb (n) 3)) 25)).alloc (.cells (A4 0 0 0 0) 25)).heap.size = w.heap.size + 2 := by simp
    generalize ((w.alloc (.cells (A4 (lb (n) 0) (lb (n) 1) (lb (n) 2) (lb (n) 3)) 25)).alloc (.cells (A4 0 0 0 0) 25)) = w2 at *
    have n0 := bA.cell 0
    have nf0 := bA.frozen 0
    have n1 := bA.cell 1
    have nf1 := bA.frozen 1
    have n2 := bA.cell 2
    have nf2 := bA.frozen 2
    have n3 := bA.cell 3
    have nf3 := bA.frozen 3
    simp only [List.getElem?_toArray, List.getElem?_cons_zero, List.getElem?_cons_succ] at n0 n1 n2 n3
    have r0 := bR.cell 0
    have rf0 := bR.frozen 0
    have r1 := bR.cell 1
    have rf1 := bR.frozen 1
    have r2 := bR.cell 2
    have rf2 := bR.frozen 2
    have r3 := bR.cell 3
    have rf3 := bR.frozen 3
    simp only [List.getElem?_toArray, List.getElem?_cons_zero, List.getElem?_cons_succ] at r0 r1 r2 r3
    go_upto_region 8 with (go_at_call 41; refine (HS.out _).mono ?_; rintro e w5 ⟨rfl, hb5⟩)
    have bC := Bk.new w5 (A4 (lb (c) 0) (lb (c) 1) (lb (c) 2) (lb (c) 3)) 25
    have bA5 := (bA.below hb5 bA.lt).alloc (.cells (A4 (lb (c) 0) (lb (c) 1) (lb (c) 2) (lb (c) 3)) 25)
    have bR5 := (bR.below hb5 bR.lt).alloc (.cells (A4 (lb (c) 0) (lb (c) 1) (lb (c) 2) (lb (c) 3)) 25)
    have hB5 := (hB.trans (hb5.mono (by omega))).alloc (by have := hb5.size; omega) (.cells (A4 (lb (c) 0) (lb (c) 1) (lb (c) 2) (lb (c) 3)) 25)
    have hg5 : w.heap.size + 1 < w5.heap.size := by have := hb5.size; omega
    obtain ⟨Y, hY⟩ : ∃ Y, Y = w5.heap.size := ⟨_, rfl⟩
    rw [← hY] at bC hg5 ⊢
    clear hY hb5 bR bA hB n0 n1 n2 n3 nf0 nf1 nf2 nf3 r0 r1 r2 r3 rf0 rf1 rf2 rf3
    generalize w5.alloc _ = w6 at *
    have a0 := bA5.cell 0
    have af0 := bA5.frozen 0
    have a1 := bA5.cell 1
    have af1 := bA5.frozen 1
    have a2 := bA5.cell 2
    have af2 := bA5.frozen 2
    have a3 := bA5.cell 3
    have af3 := bA5.frozen 3
    simp only [List.getElem?_toArray, List.getElem?_cons_zero, List.getElem?_cons_succ] at a0 a1 a2 a3
    have c0 := bC.cell 0
    have cf0 := bC.frozen 0
    have c1 := bC.cell 1
    have cf1 := bC.frozen 1
    have c2 := bC.cell 2
    have cf2 := bC.frozen 2
    have c3 := bC.cell 3
    have cf3 := bC.frozen 3
    simp only [List.getElem?_toArray, List.getElem?_cons_zero, List.getElem?_cons_succ] at c0 c1 c2 c3
    have lC := bC.lt
    have lA := bA5.lt
    go_wp2_with (go_at_call 18; refine (HU.out _).mono ?_; rintro e w7 ⟨rfl, hb7⟩; have bR7 := (set4_other bR5 (c := Y) (by omega) (.int .u64 1) (.int .u64 0) (.int .u64 0) (.int .u64 0)).below hb7 (by simp; exact bR5.lt); have l7 := bR7.lt; have z0 := bR7.cell 0; have zf0 := bR7.frozen 0; have z1 := bR7.cell 1; have zf1 := bR7.frozen 1; have z2 := bR7.cell 2; have zf2 := bR7.frozen 2; have z3 := bR7.cell 3; have zf3 := bR7.frozen 3; simp only [List.getElem?_toArray, List.getElem?_cons_zero, List.getElem?_cons_succ] at z0 z1 z2 z3)
    have hB7 := (set4_below hB5 (b := Y) (by omega) (.int .u64 1) (.int .u64 0) (.int .u64 0) (.int .u64 0)).trans (hb7.mono (by simp; have := bR5.lt; omega))
    have kR := set4_Bk bR7 (.int .u64 (lb (v) 0)) (.int .u64 (lb (v) 1)) (.int .u64 (lb (v) 2)) (.int .u64 (lb (v) 3))
    have hBr := set4_below hB7 (b := w.heap.size + 1) (by omega) (.int .u64 (lb (v) 0)) (.int .u64 (lb (v) 1)) (.int .u64 (lb (v) 2)) (.int .u64 (lb (v) 3))
    generalize World.setCell _ _ _ = W9 at kR hBr ⊢
    have q0 := kR.cell 0
    have qf0 := kR.frozen 0
    have q1 := kR.cell 1
    have qf1 := kR.frozen 1
    have q2 := kR.cell 2
    have qf2 := kR.frozen 2
    have q3 := kR.cell 3
    have qf3 := kR.frozen 3
    simp only [List.getElem?_toArray, List.getElem?_cons_zero, List.getElem?_cons_succ] at q0 q1 q2 q3
    refine bodyPost_ret (v := .tuple #[V v, .int .i64 e9]) ?_ rfl ⟨rfl, hBr⟩
    simp [results, Try.results26, go_sem, q0, q1, q2, q3]
  · have he : ∀ w, (binOp .eql 25 (V c) (.agg (A4 0 0 0 0))).run Try.prog w = .ok (.bool false) w := fun w => by rw [eql26_0 c hcl, decide_eq_false h0]
    have hm1 : max 1 c = c := by omega
    have hadd' : ∀ w, Calls Try.prog 18 #[V n, V c] w fun e w' => e = .returned (.tuple #[V (addV n (max 1 c)), .int .i64 (addOkE n (max 1 c))]) ∧ Below w.heap.size w w' := fun w => by
      have := hadd w
      rw [show V (max 1 c) = V c by rw [hm1]] at this
      exact this
    generalize addV n (max 1 c) = v at *
    generalize addOkE n (max 1 c) = e9 at *
    have HU : Hid (∀ w, Calls Try.prog 18 #[V n, V c] w fun e w' => e = .returned (.tuple #[V v, .int .i64 e9]) ∧ Below w.heap.size w w') := hadd'
    clear hadd hadd' hm1 hml hcl h0
    go_enter Try.func26, Try.ntmps26
    go_upto_region 1 with fail
    have bA : Bk ((w.alloc (.cells (A4 (lb (n) 0) (lb (n) 1) (lb (n) 2) (lb (n) 3)) 25)).alloc (.cells (A4 0 0 0 0) 25)) w.heap.size (A4 (lb (n) 0) (lb (n) 1) (lb (n) 2) (lb (n) 3)) 25 := (Bk.new _ _ _).alloc _
    have bR : Bk ((w.alloc (.cells (A4 (lb (n) 0) (lb (n) 1) (lb (n) 2) (lb (n) 3)) 25)).alloc (.cells (A4 0 0 0 0) 25)) (w.heap.size + 1) (A4 0 0 0 0) 25 := Bk.new' _ _ _ (by simp)
    have hB : Below w.heap.size w ((w.alloc (.cells (A4 (lb (n) 0) (lb (n) 1) (lb (n) 2) (lb (n) 3)) 25)).alloc (.cells (A4 0 0 0 0) 25)) := ((Below.refl _ w).alloc (Nat.le_refl _) _).alloc (by simp) _
    have hsz : ((w.alloc (.cells (A4 (lb (n) 0) (lb (n) 1) (lb (n) 2) (lb (n) 3)) 25)).alloc (.cells (A4 0 0 0 0) 25)).heap.size = w.heap.size + 2 := by simp
    generalize ((w.alloc (.cells (A4 (lb (n) 0) (lb (n) 1) (lb (n) 2) (lb (n) 3)) 25)).alloc (.cells (A4 0 0 0 0) 25)) = w2 at *
    have n0 := bA.cell 0
    have nf0 := bA.frozen 0
    have n1 := bA.cell 1
    have nf1 := bA.frozen 1
    have n2 := bA.cell 2
    have nf2 := bA.frozen 2
    have n3 := bA.cell 3
    have nf3 := bA.frozen 3
    simp only [List.getElem?_toArray, List.getElem?_cons_zero, List.getElem?_cons_succ] at n0 n1 n2 n3
    have r0 := bR.cell 0
    have rf0 := bR.frozen 0
    have r1 := bR.cell 1
    have rf1 := bR.frozen 1
    have r2 := bR.cell 2
    have rf2 := bR.frozen 2
    have r3 := bR.cell 3
    have rf3 := bR.frozen 3
    simp only [List.getElem?_toArray, List.getElem?_cons_zero, List.getElem?_cons_succ] at r0 r1 r2 r3
    go_upto_region 8 with (go_at_call 41; refine (HS.out _).mono ?_; rintro e w5 ⟨rfl, hb5⟩)
    have bC := Bk.new w5 (A4 (lb (c) 0) (lb (c) 1) (lb (c) 2) (lb (c) 3)) 25
    have bA5 := (bA.below hb5 bA.lt).alloc (.cells (A4 (lb (c) 0) (lb (c) 1) (lb (c) 2) (lb (c) 3)) 25)
    have bR5 := (bR.below hb5 bR.lt).alloc (.cells (A4 (lb (c) 0) (lb (c) 1) (lb (c) 2) (lb (c) 3)) 25)
    have hB5 := (hB.trans (hb5.mono (by omega))).alloc (by have := hb5.size; omega) (.cells (A4 (lb (c) 0) (lb (c) 1) (lb (c) 2) (lb (c) 3)) 25)
    have hg5 : w.heap.size + 1 < w5.heap.size := by have := hb5.size; omega
    obtain ⟨Y, hY⟩ : ∃ Y, Y = w5.heap.size := ⟨_, rfl⟩
    rw [← hY] at bC hg5 ⊢
    clear hY hb5 bR bA hB n0 n1 n2 n3 nf0 nf1 nf2 nf3 r0 r1 r2 r3 rf0 rf1 rf2 rf3
    generalize w5.alloc _ = w6 at *
    have a0 := bA5.cell 0
    have af0 := bA5.frozen 0
    have a1 := bA5.cell 1
    have af1 := bA5.frozen 1
    have a2 := bA5.cell 2
    have af2 := bA5.frozen 2
    have a3 := bA5.cell 3
    have af3 := bA5.frozen 3
    simp only [List.getElem?_toArray, List.getElem?_cons_zero, List.getElem?_cons_succ] at a0 a1 a2 a3
    have c0 := bC.cell 0
    have cf0 := bC.frozen 0
    have c1 := bC.cell 1
    have cf1 := bC.frozen 1
    have c2 := bC.cell 2
    have cf2 := bC.frozen 2
    have c3 := bC.cell 3
    have cf3 := bC.frozen 3
    simp only [List.getElem?_toArray, List.getElem?_cons_zero, List.getElem?_cons_succ] at c0 c1 c2 c3
    go_wp2_with (go_at_call 18; refine (HU.out _).mono ?_; rintro e w7 ⟨rfl, hb7⟩; have bR7 := bR5.below hb7 bR5.lt; have l7 := bR7.lt; have z0 := bR7.cell 0; have zf0 := bR7.frozen 0; have z1 := bR7.cell 1; have zf1 := bR7.frozen 1; have z2 := bR7.cell 2; have zf2 := bR7.frozen 2; have z3 := bR7.cell 3; have zf3 := bR7.frozen 3; simp only [List.getElem?_toArray, List.getElem?_cons_zero, List.getElem?_cons_succ] at z0 z1 z2 z3)
    have hB7 := hB5.trans (hb7.mono (by have := bR5.lt; omega))
    have kR := set4_Bk bR7 (.int .u64 (lb (v) 0)) (.int .u64 (lb (v) 1)) (.int .u64 (lb (v) 2)) (.int .u64 (lb (v) 3))
    have hBr := set4_below hB7 (b := w.heap.size + 1) (by omega) (.int .u64 (lb (v) 0)) (.int .u64 (lb (v) 1)) (.int .u64 (lb (v) 2)) (.int .u64 (lb (v) 3))
    generalize World.setCell _ _ _ = W9 at kR hBr ⊢
    have q0 := kR.cell 0
    have qf0 := kR.frozen 0
    have q1 := kR.cell 1
    have qf1 := kR.frozen 1
    have q2 := kR.cell 2
    have qf2 := kR.frozen 2
    have q3 := kR.cell 3
    have qf3 := kR.frozen 3
    simp only [List.getElem?_toArray, List.getElem?_cons_zero, List.getElem?_cons_succ] at q0 q1 q2 q3
    refine bodyPost_ret (v := .tuple #[V v, .int .i64 e9]) ?_ rfl ⟨rfl, hBr⟩
    simp [results, Try.results26, go_sem, q0, q1, q2, q3]

/-- What fee.Next tells of a block that may be. -/
def nxD (u t : Nat) : Nat := if u < t then t - u else u - t
def nxC (n u t : Nat) : Nat := n * nxD u t / t / 8
def nxOk (n u t : Nat) : Bool := decide (u = t) || (decide (n * nxD u t < M256) && (decide (u < t) || decide (n + max 1 (nxC n u t) < M256)))
def nxV (n u t : Nat) : Nat := if nxOk n u t then (if u = t then n else if u < t then n - nxC n u t else n + max 1 (nxC n u t)) else 0
def nxE (n u t : Nat) : Int := if nxOk n u t then 0 else 8
theorem nxC_le (n u t : Nat) (hlt : u < t) : nxC n u t ≤ n := by
  unfold nxC nxD
  rw [if_pos hlt]
  have h1 : n * (t - u) ≤ n * t := Nat.mul_le_mul_left _ (by omega)
  have h2 : n * (t - u) / t ≤ n := by
    have := Nat.div_le_div_right (c := t) h1
    rwa [Nat.mul_div_cancel _ (by omega)] at this
  exact Nat.le_trans (Nat.div_le_self _ _) h2
theorem nxV_lt (n u t : Nat) (hn : n < M256) : nxV n u t < M256 := by
  unfold nxV
  split
  · next h =>
    split
    · exact hn
    · split
      · omega
      · next h1 h2 => simp [nxOk, h1, h2] at h; omega
  · decide
theorem next (n u t : Nat) (hn : n < M256) (t1 : 1 ≤ t) (t2 : t ≤ 1073741824) (hu : u ≤ 2 * t) (w : World) :
    Calls Try.prog 26 #[V n, .int .i64 (u : Int), .int .i64 (t : Int)] w fun e w' => e = .returned (.tuple #[V (nxV n u t), .int .i64 (nxE n u t)]) ∧ Below w.heap.size w w' := by
  by_cases he : u = t
  · subst he
    have ok : nxOk n u u = true := by simp [nxOk]
    rw [show nxV n u u = n by unfold nxV; rw [if_pos ok, if_pos rfl], show nxE n u u = 0 from if_pos ok]
    exact next_eq n u t1 t2 w
  · by_cases ho : n * nxD u t < M256
    · by_cases hlt : u < t
      · have ok : nxOk n u t = true := by simp [nxOk, ho, hlt]
        have hle := nxC_le n u t hlt
        have hd : nxD u t = t - u := if_pos hlt
        rw [show nxV n u t = n - nxC n u t by unfold nxV; rw [if_pos ok, if_neg he, if_pos hlt], show nxE n u t = 0 from if_pos ok]
        have := next_down n u t hn t1 t2 hu hlt (by rw [← hd]; exact ho) w
        unfold nxC at hle ⊢
        rw [hd] at hle ⊢
        rw [show subV n (n * (t - u) / t / 8) = n - n * (t - u) / t / 8 from if_pos hle, show subOkE n (n * (t - u) / t / 8) = 0 from if_pos hle] at this
        exact this
      · have hd : nxD u t = u - t := if_neg hlt
        have := next_up n u t hn t1 t2 hu (by omega) (by rw [← hd]; exact ho) w
        by_cases hs : n + max 1 (nxC n u t) < M256
        · have ok : nxOk n u t = true := by simp [nxOk, ho, hs]
          rw [show nxV n u t = n + max 1 (nxC n u t) by unfold nxV; rw [if_pos ok, if_neg he, if_neg hlt], show nxE n u t = 0 from if_pos ok]
          unfold nxC at hs ⊢
          rw [hd] at hs ⊢
          rw [show addV n (max 1 (n * (u - t) / t / 8)) = n + max 1 (n * (u - t) / t / 8) from if_pos hs, show addOkE n (max 1 (n * (u - t) / t / 8)) = 0 from if_pos hs] at this
          exact this
        · have ok : ¬ nxOk n u t = true := by simp only [nxOk, he, ho, hlt, hs]; simp
          rw [show nxV n u t = 0 from if_neg ok, show nxE n u t = 8 from if_neg ok]
          unfold nxC at hs
          rw [hd] at hs
          rw [show addV n (max 1 (n * (u - t) / t / 8)) = 0 from if_neg hs, show addOkE n (max 1 (n * (u - t) / t / 8)) = 8 from if_neg hs] at this
          exact this
    · have ok : ¬ nxOk n u t = true := by simp only [nxOk, he, ho]; simp
      rw [show nxV n u t = 0 from if_neg ok, show nxE n u t = 8 from if_neg ok, V_zero]
      exact next_over n u t (nxD u t) hn t1 t2 hu he (by unfold nxD; split <;> omega) ho w
end Go.Proofs.Ytljfenjpnanoiaa

import Derived.Test.YtgolpadmcalimaaDivC
import Derived.Test.YtgolpadmcalimaaMul
import Derived.Test.YtgolpadmcalimaaAdd
import Derived.Test.YtgolpadmcalimaaSub
import Derived.Test.YtgolpadmcalimaaNextT
import Derived.Test.YtgolpadmcalimaaBlk
set_option linter.unusedSimpArgs false
set_option linter.unusedVariables false
namespace Go.Proofs.Ytgolpadmcalimaa
open Go.RowKit

/-! By how much a fee moves; what the next block asks. -/
def stV (n g t : Nat) : Nat := if n * g < M256 then n * g / t / 8 else 0
def stE (n g : Nat) : Int := if n * g < M256 then 0 else 8
theorem stV_lt (n g t : Nat) : stV n g t < M256 := by
  unfold stV; split
  · exact Nat.lt_of_le_of_lt (Nat.le_trans (Nat.div_le_self _ _) (Nat.div_le_self _ _)) ‹_›
  · decide
theorem mulS (n g : Nat) (hn : n < M256) (hg : g < 18446744073709551616) (w : World) : Calls Try.prog 32 #[V n, .agg (A4 (g : Int) 0 0 0)] w fun e w' => e = .returned (.tuple #[V (mulV n g), .int .i64 (mulOkE n g)]) ∧ Below w.heap.size w w' := by
  have := mul n g hn (by unfold M256; omega) w
  rw [← V_one g hg] at this
  exact this
theorem divS (n g : Nat) (hn : n < M256) (hg : g < 18446744073709551616) (h0 : 0 < g) (w : World) : Calls Try.prog 26 #[V n, .agg (A4 (g : Int) 0 0 0)] w fun e w' => e = .returned (.tuple #[V (n / g), V (divR n g), .int .i64 0]) ∧ Below w.heap.size w w' := by
  have := div n g hn (by unfold M256; omega) w
  rw [← V_one g hg, show divE g = 0 from if_neg (by omega)] at this
  exact this
set_option maxRecDepth 100000 in
set_option maxHeartbeats 1000000 in
theorem step_no (n g t : Nat) (hn : n < M256) (hg : g ≤ 9223372036854775807) (ho : ¬ n * g < M256) (w : World) :
    Calls Try.prog 38 #[V n, .int .i64 (g : Int), .int .i64 (t : Int)] w fun e w' => e = .returned (.tuple #[.agg (A4 0 0 0 0), .int .i64 8]) ∧ Below w.heap.size w w' := by
  have hw : IntKind.u64.wrap (g : Int) = g := by rw [IntKind.wrap_u64]; omega
  have hm := fun w => mulS n g hn (by omega) w
  rw [show mulOkE n g = 8 from if_neg ho] at hm
  generalize mulV n g = p at hm
  clear ho
  go_enter Try.func38, Try.ntmps38
  go_upto_region 1 with fail
  have bA : Bk ((w.alloc (.cells (A4 (lb (n) 0) (lb (n) 1) (lb (n) 2) (lb (n) 3)) 25)).alloc (.cells (A4 0 0 0 0) 25)) w.heap.size (A4 (lb (n) 0) (lb (n) 1) (lb (n) 2) (lb (n) 3)) 25 := (Bk.new _ _ _).alloc _
  have bR : Bk ((w.alloc (.cells (A4 (lb (n) 0) (lb (n) 1) (lb (n) 2) (lb (n) 3)) 25)).alloc (.cells (A4 0 0 0 0) 25)) (w.heap.size + 1) (A4 0 0 0 0) 25 := Bk.new' _ _ _ (by simp)
  have hB : Below w.heap.size w ((w.alloc (.cells (A4 (lb (n) 0) (lb (n) 1) (lb (n) 2) (lb (n) 3)) 25)).alloc (.cells (A4 0 0 0 0) 25)) := ((Below.refl _ w).alloc (Nat.le_refl _) _).alloc (by simp) _
  have hsz : ((w.alloc (.cells (A4 (lb (n) 0) (lb (n) 1) (lb (n) 2) (lb (n) 3)) 25)).alloc (.cells (A4 0 0 0 0) 25)).heap.size = w.heap.size + 2 := by simp
  generalize ((w.alloc (.cells (A4 (lb (n) 0) (lb (n) 1) (lb (n) 2) (lb (n) 3)) 25)).alloc (.cells (A4 0 0 0 0) 25)) = w2 at *
  have n0 := bA.cell 0
  have nf0 := bA.frozen 0
  have n1 := bA.cell 1
  have nf1 := bA.frozen 1
  have n2 := bA.cell 2
  have nf2 := bA.frozen 2
  have n3 := bA.cell 3
  have nf3 := bA.frozen 3
  simp only [List.getElem?_toArray, List.getElem?_cons_zero, List.getElem?_cons_succ] at n0 n1 n2 n3
  have r0 := bR.cell 0
  have rf0 := bR.frozen 0
  have r1 := bR.cell 1
  have rf1 := bR.frozen 1
  have r2 := bR.cell 2
  have rf2 := bR.frozen 2
  have r3 := bR.cell 3
  have rf3 := bR.frozen 3
  simp only [List.getElem?_toArray, List.getElem?_cons_zero, List.getElem?_cons_succ] at r0 r1 r2 r3
  go_wp2_with (go_at_call 32; refine (hm _).mono ?_; rintro e w5 ⟨rfl, hb5⟩; have bR5 := bR.below hb5 bR.lt; have l5 := bR5.lt; have z0 := bR5.cell 0; have zf0 := bR5.frozen 0; have z1 := bR5.cell 1; have zf1 := bR5.frozen 1; have z2 := bR5.cell 2; have zf2 := bR5.frozen 2; have z3 := bR5.cell 3; have zf3 := bR5.frozen 3; simp only [List.getElem?_toArray, List.getElem?_cons_zero, List.getElem?_cons_succ] at z0 z1 z2 z3)
  have hB5 := hB.trans (hb5.mono (by omega))
  have kR := (set4_Bk bR5 (.int .u64 0) (.int .u64 0) (.int .u64 0) (.int .u64 0)).alloc (.cells (A4 (lb (p) 0) (lb (p) 1) (lb (p) 2) (lb (p) 3)) 25)
  have hBr := (set4_below hB5 (b := w.heap.size + 1) (by omega) (.int .u64 0) (.int .u64 0) (.int .u64 0) (.int .u64 0)).alloc (by simp; omega) (.cells (A4 (lb (p) 0) (lb (p) 1) (lb (p) 2) (lb (p) 3)) 25)
  generalize World.alloc _ _ = W9 at kR hBr ⊢
  have q0 := kR.cell 0
  have qf0 := kR.frozen 0
  have q1 := kR.cell 1
  have qf1 := kR.frozen 1
  have q2 := kR.cell 2
  have qf2 := kR.frozen 2
  have q3 := kR.cell 3
  have qf3 := kR.frozen 3
  simp only [List.getElem?_toArray, List.getElem?_cons_zero, List.getElem?_cons_succ] at q0 q1 q2 q3
  refine bodyPost_ret (v := .tuple #[.agg (A4 0 0 0 0), .int .i64 8]) ?_ rfl ⟨rfl, hBr⟩
  simp [results, Try.results38, go_sem, q0, q1, q2, q3]
set_option maxRecDepth 100000 in
set_option maxHeartbeats 1000000 in
theorem step_yes (n g t : Nat) (hn : n < M256) (hg : g ≤ 9223372036854775807) (ht : t ≤ 9223372036854775807) (ht0 : 0 < t) (ho : n * g < M256) (w : World) :
    Calls Try.prog 38 #[V n, .int .i64 (g : Int), .int .i64 (t : Int)] w fun e w' => e = .returned (.tuple #[V (n * g / t / 8), .int .i64 0]) ∧ Below w.heap.size w w' := by
  have hw : IntKind.u64.wrap (g : Int) = g := by rw [IntKind.wrap_u64]; omega
  have hw2 : IntKind.u64.wrap (t : Int) = t := by rw [IntKind.wrap_u64]; omega
  have hm := fun w => mulS n g hn (by omega) w
  rw [show mulOkE n g = 0 from if_pos ho, show mulV n g = n * g from if_pos ho] at hm
  have hd1 := fun w => divS (n * g) t ho (by omega) ht0 w
  have hd2 := fun w => divS (n * g / t) 8 (Nat.lt_of_le_of_lt (Nat.div_le_self _ _) ho) (by omega) (by omega) w
  have HD1 : Hid (∀ w, Calls Try.prog 26 #[V (n * g), .agg (A4 (t : Int) 0 0 0)] w fun e w' => e = .returned (.tuple #[V (n * g / t), V (divR (n * g) t), .int .i64 0]) ∧ Below w.heap.size w w') := hd1
  have HD2 : Hid (∀ w, Calls Try.prog 26 #[V (n * g / t), .agg (A4 8 0 0 0)] w fun e w' => e = .returned (.tuple #[V (n * g / t / 8), V (divR (n * g / t) 8), .int .i64 0]) ∧ Below w.heap.size w w') := hd2
  clear hd1 hd2 ho
  generalize divR (n * g / t) 8 = d2 at *
  generalize divR (n * g) t = d1 at *
  generalize n * g / t / 8 = c at *
  generalize n * g / t = b at *
  generalize n * g = a at *
  go_enter Try.func38, Try.ntmps38
  go_upto_region 1 with fail
  have bA : Bk ((w.alloc (.cells (A4 (lb (n) 0) (lb (n) 1) (lb (n) 2) (lb (n) 3)) 25)).alloc (.cells (A4 0 0 0 0) 25)) w.heap.size (A4 (lb (n) 0) (lb (n) 1) (lb (n) 2) (lb (n) 3)) 25 := (Bk.new _ _ _).alloc _
  have bR : Bk ((w.alloc (.cells (A4 (lb (n) 0) (lb (n) 1) (lb (n) 2) (lb (n) 3)) 25)).alloc (.cells (A4 0 0 0 0) 25)) (w.heap.size + 1) (A4 0 0 0 0) 25 := Bk.new' _ _ _ (by simp)
  have hB : Below w.heap.size w ((w.alloc (.cells (A4 (lb (n) 0) (lb (n) 1) (lb (n) 2) (lb (n) 3)) 25)).alloc (.cells (A4 0 0 0 0) 25)) := ((Below.refl _ w).alloc (Nat.le_refl _) _).alloc (by simp) _
  have hsz : ((w.alloc (.cells (A4 (lb (n) 0) (lb (n) 1) (lb (n) 2) (lb (n) 3)) 25)).alloc (.cells (A4 0 0 0 0) 25)).heap.size = w.heap.size + 2 := by simp
  generalize ((w.alloc (.cells (A4 (lb (n) 0) (lb (n) 1) (lb (n) 2) (lb (n) 3)) 25)).alloc (.cells (A4 0 0 0 0) 25)) = w2 at *
  have n0 := bA.cell 0
  have nf0 := bA.frozen 0
  have n1 := bA.cell 1
  have nf1 := bA.frozen 1
  have n2 := bA.cell 2
  have nf2 := bA.frozen 2
  have n3 := bA.cell 3
  have nf3 := bA.frozen 3
  simp only [List.getElem?_toArray, List.getElem?_cons_zero, List.getElem?_cons_succ] at n0 n1 n2 n3
  have r0 := bR.cell 0
  have rf0 := bR.frozen 0
  have r1 := bR.cell 1
  have rf1 := bR.frozen 1
  have r2 := bR.cell 2
  have rf2 := bR.frozen 2
  have r3 := bR.cell 3
  have rf3 := bR.frozen 3
  simp only [List.getElem?_toArray, List.getElem?_cons_zero, List.getElem?_cons_succ] at r0 r1 r2 r3
  go_upto_region 4 with (go_at_call 32; refine (hm _).mono ?_; rintro e w5 ⟨rfl, hb5⟩)
  have bP := Bk.new w5 (A4 (lb (a) 0) (lb (a) 1) (lb (a) 2) (lb (a) 3)) 25
  have bR5 := (bR.below hb5 bR.lt).alloc (.cells (A4 (lb (a) 0) (lb (a) 1) (lb (a) 2) (lb (a) 3)) 25)
  have hB5 := (hB.trans (hb5.mono (by omega))).alloc (by have := hb5.size; omega) (.cells (A4 (lb (a) 0) (lb (a) 1) (lb (a) 2) (lb (a) 3)) 25)
  have hg5 : w.heap.size + 1 < w5.heap.size := by have := hb5.size; omega
  obtain ⟨Y, hY⟩ : ∃ Y, Y = w5.heap.size := ⟨_, rfl⟩
  rw [← hY] at bP hg5 ⊢
  clear hY hb5 bR hB
  generalize w5.alloc _ = w6 at *
  have p0 := bP.cell 0
  have pf0 := bP.frozen 0
  have p1 := bP.cell 1
  have pf1 := bP.frozen 1
  have p2 := bP.cell 2
  have pf2 := bP.frozen 2
  have p3 := bP.cell 3
  have pf3 := bP.frozen 3
  simp only [List.getElem?_toArray, List.getElem?_cons_zero, List.getElem?_cons_succ] at p0 p1 p2 p3
  go_upto_region 7 with (go_at_call 26; refine (HD1.out _).mono ?_; rintro e w7 ⟨rfl, hb7⟩)
  have bR7 := ((bR5.below hb7 bR5.lt).alloc (.cells (A4 (lb (b) 0) (lb (b) 1) (lb (b) 2) (lb (b) 3)) 25)).alloc (.cells (A4 (lb (d1) 0) (lb (d1) 1) (lb (d1) 2) (lb (d1) 3)) 25)
  have bT := (Bk.new w7 (A4 (lb (b) 0) (lb (b) 1) (lb (b) 2) (lb (b) 3)) 25).alloc (.cells (A4 (lb (d1) 0) (lb (d1) 1) (lb (d1) 2) (lb (d1) 3)) 25)
  have hg7 : w.heap.size + 1 < w7.heap.size := by have := hb7.size; have := bR5.lt; omega
  have hB7 := ((hB5.trans (hb7.mono (by have := bR5.lt; omega))).alloc (by omega) (.cells (A4 (lb (b) 0) (lb (b) 1) (lb (b) 2) (lb (b) 3)) 25)).alloc (by simp; omega) (.cells (A4 (lb (d1) 0) (lb (d1) 1) (lb (d1) 2) (lb (d1) 3)) 25)
  obtain ⟨X, hX⟩ : ∃ X, X = w7.heap.size := ⟨_, rfl⟩
  rw [← hX] at bT hg7 ⊢
  clear hX hb7 bR5 hB5 p0 p1 p2 p3 pf0 pf1 pf2 pf3
  generalize (w7.alloc _).alloc _ = w8 at *
  have t0 := bT.cell 0
  have tf0 := bT.frozen 0
  have t1 := bT.cell 1
  have tf1 := bT.frozen 1
  have t2 := bT.cell 2
  have tf2 := bT.frozen 2
  have t3 := bT.cell 3
  have tf3 := bT.frozen 3
  simp only [List.getElem?_toArray, List.getElem?_cons_zero, List.getElem?_cons_succ] at t0 t1 t2 t3
  go_wp2_with (go_at_call 26; refine (HD2.out _).mono ?_; rintro e w9 ⟨rfl, hb9⟩; have bR9 := bR7.below hb9 bR7.lt; have bT9 := bT.below hb9 bT.lt; have l9 := bR9.lt; have l9' := bT9.lt; have z0 := bR9.cell 0; have zf0 := bR9.frozen 0; have z1 := bR9.cell 1; have zf1 := bR9.frozen 1; have z2 := bR9.cell 2; have zf2 := bR9.frozen 2; have z3 := bR9.cell 3; have zf3 := bR9.frozen 3; simp only [List.getElem?_toArray, List.getElem?_cons_zero, List.getElem?_cons_succ] at z0 z1 z2 z3; have y0 := bT9.cell 0; have yf0 := bT9.frozen 0; have y1 := bT9.cell 1; have yf1 := bT9.frozen 1; have y2 := bT9.cell 2; have yf2 := bT9.frozen 2; have y3 := bT9.cell 3; have yf3 := bT9.frozen 3; simp only [List.getElem?_toArray, List.getElem?_cons_zero, List.getElem?_cons_succ] at y0 y1 y2 y3)
  have hB9 := hB7.trans (hb9.mono (by have := bR7.lt; omega))
  have kR := set4_Bk (set4_other bR9 (c := X) (by omega) (.int .u64 (lb (c) 0)) (.int .u64 (lb (c) 1)) (.int .u64 (lb (c) 2)) (.int .u64 (lb (c) 3))) (.int .u64 (lb (c) 0)) (.int .u64 (lb (c) 1)) (.int .u64 (lb (c) 2)) (.int .u64 (lb (c) 3))
  have hBr := set4_below (set4_below hB9 (b := X) (by omega) (.int .u64 (lb (c) 0)) (.int .u64 (lb (c) 1)) (.int .u64 (lb (c) 2)) (.int .u64 (lb (c) 3))) (b := w.heap.size + 1) (by omega) (.int .u64 (lb (c) 0)) (.int .u64 (lb (c) 1)) (.int .u64 (lb (c) 2)) (.int .u64 (lb (c) 3))
  generalize World.setCell _ _ _ = W9 at kR hBr ⊢
  have q0 := kR.cell 0
  have qf0 := kR.frozen 0
  have q1 := kR.cell 1
  have qf1 := kR.frozen 1
  have q2 := kR.cell 2
  have qf2 := kR.frozen 2
  have q3 := kR.cell 3
  have qf3 := kR.frozen 3
  simp only [List.getElem?_toArray, List.getElem?_cons_zero, List.getElem?_cons_succ] at q0 q1 q2 q3
  refine bodyPost_ret (v := .tuple #[V c, .int .i64 0]) ?_ rfl ⟨rfl, hBr⟩
  simp [results, Try.results38, go_sem, q0, q1, q2, q3]
theorem step (n g t : Nat) (hn : n < M256) (hg : g ≤ 9223372036854775807) (ht : t ≤ 9223372036854775807) (ht0 : 0 < t) (w : World) :
    Calls Try.prog 38 #[V n, .int .i64 (g : Int), .int .i64 (t : Int)] w fun e w' => e = .returned (.tuple #[V (stV n g t), .int .i64 (stE n g)]) ∧ Below w.heap.size w w' := by
  by_cases ho : n * g < M256
  · rw [show stV n g t = n * g / t / 8 from if_pos ho, show stE n g = 0 from if_pos ho]
    exact step_yes n g t hn hg ht ht0 ho w
  · rw [show stV n g t = 0 from if_neg ho, show stE n g = 8 from if_neg ho, V_zero]
    exact step_no n g t hn hg ho w
end Go.Proofs.Ytgolpadmcalimaa

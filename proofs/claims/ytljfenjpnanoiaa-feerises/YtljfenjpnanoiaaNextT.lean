import Derived.Test.YtljfenjpnanoiaaDivC
import Derived.Test.YtljfenjpnanoiaaMul
import Derived.Test.YtljfenjpnanoiaaBlk
import Derived.Test.YtljfenjpnanoiaaWakes
set_option linter.unusedSimpArgs false
set_option linter.unusedVariables false
namespace Go.Proofs.Ytljfenjpnanoiaa
open Go.RowKit

/-- What fee.nextTerm tells: the next term; 8: over. -/
def ntOk (a n d i : Nat) : Bool := decide (i ≤ 4096) && decide (d * i < M256) && decide (a * n < M256)
def ntV (a n d i : Nat) : Nat := if ntOk a n d i then a * n / (d * i) else 0
def ntE (a n d i : Nat) : Int := if ntOk a n d i then 0 else 8
theorem ntV_lt (a n d i : Nat) : ntV a n d i < M256 := by
  unfold ntV; split
  · next h => simp [ntOk] at h; exact Nat.lt_of_le_of_lt (Nat.div_le_self _ _) h.2
  · decide
theorem V_one (i : Nat) (h : i < 18446744073709551616) : Value.agg (A4 (i : Int) 0 0 0) = V i := (V_small i h).symm
set_option maxRecDepth 100000 in
set_option maxHeartbeats 1000000 in
theorem nt_far (a n d i : Nat) (h : 4096 < i) (hi : i ≤ 9223372036854775807) (w : World) :
    Calls Try.prog 53 #[V a, V n, V d, .int .i64 (i : Int)] w fun e w' => e = .returned (.tuple #[.agg (A4 0 0 0 0), .int .i64 8]) ∧ Below w.heap.size w w' := by
  have h' : 4096 < (i : Int) := by omega
  go_enter Try.func53, Try.ntmps53
  go_upto_region 1 with fail
  have bA : Bk ((((w.alloc (.cells (A4 (lb (a) 0) (lb (a) 1) (lb (a) 2) (lb (a) 3)) 25)).alloc (.cells (A4 (lb (n) 0) (lb (n) 1) (lb (n) 2) (lb (n) 3)) 25)).alloc (.cells (A4 (lb (d) 0) (lb (d) 1) (lb (d) 2) (lb (d) 3)) 25)).alloc (.cells (A4 0 0 0 0) 25)) w.heap.size (A4 (lb (a) 0) (lb (a) 1) (lb (a) 2) (lb (a) 3)) 25 := (((Bk.new _ _ _).alloc _).alloc _).alloc _
  have bN : Bk ((((w.alloc (.cells (A4 (lb (a) 0) (lb (a) 1) (lb (a) 2) (lb (a) 3)) 25)).alloc (.cells (A4 (lb (n) 0) (lb (n) 1) (lb (n) 2) (lb (n) 3)) 25)).alloc (.cells (A4 (lb (d) 0) (lb (d) 1) (lb (d) 2) (lb (d) 3)) 25)).alloc (.cells (A4 0 0 0 0) 25)) (w.heap.size + 1) (A4 (lb (n) 0) (lb (n) 1) (lb (n) 2) (lb (n) 3)) 25 := ((Bk.new' _ _ _ (by simp)).alloc _).alloc _
  have bD : Bk ((((w.alloc (.cells (A4 (lb (a) 0) (lb (a) 1) (lb (a) 2) (lb (a) 3)) 25)).alloc (.cells (A4 (lb (n) 0) (lb (n) 1) (lb (n) 2) (lb (n) 3)) 25)).alloc (.cells (A4 (lb (d) 0) (lb (d) 1) (lb (d) 2) (lb (d) 3)) 25)).alloc (.cells (A4 0 0 0 0) 25)) (w.heap.size + 1 + 1) (A4 (lb (d) 0) (lb (d) 1) (lb (d) 2) (lb (d) 3)) 25 := (Bk.new' _ _ _ (by simp)).alloc _
  have bR : Bk ((((w.alloc (.cells (A4 (lb (a) 0) (lb (a) 1) (lb (a) 2) (lb (a) 3)) 25)).alloc (.cells (A4 (lb (n) 0) (lb (n) 1) (lb (n) 2) (lb (n) 3)) 25)).alloc (.cells (A4 (lb (d) 0) (lb (d) 1) (lb (d) 2) (lb (d) 3)) 25)).alloc (.cells (A4 0 0 0 0) 25)) (w.heap.size + 1 + 1 + 1) (A4 0 0 0 0) 25 := Bk.new' _ _ _ (by simp)
  have hB : Below w.heap.size w ((((w.alloc (.cells (A4 (lb (a) 0) (lb (a) 1) (lb (a) 2) (lb (a) 3)) 25)).alloc (.cells (A4 (lb (n) 0) (lb (n) 1) (lb (n) 2) (lb (n) 3)) 25)).alloc (.cells (A4 (lb (d) 0) (lb (d) 1) (lb (d) 2) (lb (d) 3)) 25)).alloc (.cells (A4 0 0 0 0) 25)) := ((((Below.refl _ w).alloc (Nat.le_refl _) _).alloc (by simp) _).alloc (by simp; omega) _).alloc (by simp; omega) _
  have hsz : ((((w.alloc (.cells (A4 (lb (a) 0) (lb (a) 1) (lb (a) 2) (lb (a) 3)) 25)).alloc (.cells (A4 (lb (n) 0) (lb (n) 1) (lb (n) 2) (lb (n) 3)) 25)).alloc (.cells (A4 (lb (d) 0) (lb (d) 1) (lb (d) 2) (lb (d) 3)) 25)).alloc (.cells (A4 0 0 0 0) 25)).heap.size = w.heap.size + 4 := by simp
  generalize ((((w.alloc (.cells (A4 (lb (a) 0) (lb (a) 1) (lb (a) 2) (lb (a) 3)) 25)).alloc (.cells (A4 (lb (n) 0) (lb (n) 1) (lb (n) 2) (lb (n) 3)) 25)).alloc (.cells (A4 (lb (d) 0) (lb (d) 1) (lb (d) 2) (lb (d) 3)) 25)).alloc (.cells (A4 0 0 0 0) 25)) = w4 at *
  have d0 := bD.cell 0
  have df0 := bD.frozen 0
  have d1 := bD.cell 1
  have df1 := bD.frozen 1
  have d2 := bD.cell 2
  have df2 := bD.frozen 2
  have d3 := bD.cell 3
  have df3 := bD.frozen 3
  simp only [List.getElem?_toArray, List.getElem?_cons_zero, List.getElem?_cons_succ] at d0 d1 d2 d3
  have r0 := bR.cell 0
  have rf0 := bR.frozen 0
  have r1 := bR.cell 1
  have rf1 := bR.frozen 1
  have r2 := bR.cell 2
  have rf2 := bR.frozen 2
  have r3 := bR.cell 3
  have rf3 := bR.frozen 3
  simp only [List.getElem?_toArray, List.getElem?_cons_zero, List.getElem?_cons_succ] at r0 r1 r2 r3
  go_wp2
  have kR := set4_Bk bR (.int .u64 0) (.int .u64 0) (.int .u64 0) (.int .u64 0)
  have hBr := set4_below hB (b := w.heap.size + 1 + 1 + 1) (by omega) (.int .u64 0) (.int .u64 0) (.int .u64 0) (.int .u64 0)
  generalize World.setCell _ _ _ = W9 at kR hBr ⊢
  have u0 := kR.cell 0
  have uf0 := kR.frozen 0
  have u1 := kR.cell 1
  have uf1 := kR.frozen 1
  have u2 := kR.cell 2
  have uf2 := kR.frozen 2
  have u3 := kR.cell 3
  have uf3 := kR.frozen 3
  simp only [List.getElem?_toArray, List.getElem?_cons_zero, List.getElem?_cons_succ] at u0 u1 u2 u3
  refine bodyPost_ret (v := .tuple #[.agg (A4 0 0 0 0), .int .i64 8]) ?_ rfl ⟨rfl, hBr⟩
  simp [results, Try.results53, go_sem, u0, u1, u2, u3]
set_option maxRecDepth 100000 in
set_option maxHeartbeats 1000000 in
theorem nt_by (a n d i : Nat) (hi : i ≤ 4096) (hd : d < M256) (ho : ¬ d * i < M256) (w : World) :
    Calls Try.prog 53 #[V a, V n, V d, .int .i64 (i : Int)] w fun e w' => e = .returned (.tuple #[.agg (A4 0 0 0 0), .int .i64 8]) ∧ Below w.heap.size w w' := by
  have h' : ¬ 4096 < (i : Int) := by omega
  have hw : IntKind.u64.wrap (i : Int) = i := by rw [IntKind.wrap_u64]; omega
  have hm1 : ∀ w, Calls Try.prog 22 #[V d, .agg (A4 (i : Int) 0 0 0)] w fun e w' => e = .returned (.tuple #[V (mulV d i), .int .i64 8]) ∧ Below w.heap.size w w' := fun w => by
    have := mul d i hd (by unfold M256; omega) w
    rw [show mulOkE d i = 8 from if_neg ho, ← V_one i (by omega)] at this
    exact this
  clear ho
  go_enter Try.func53, Try.ntmps53
  go_upto_region 1 with fail
  have bA : Bk ((((w.alloc (.cells (A4 (lb (a) 0) (lb (a) 1) (lb (a) 2) (lb (a) 3)) 25)).alloc (.cells (A4 (lb (n) 0) (lb (n) 1) (lb (n) 2) (lb (n) 3)) 25)).alloc (.cells (A4 (lb (d) 0) (lb (d) 1) (lb (d) 2) (lb (d) 3)) 25)).alloc (.cells (A4 0 0 0 0) 25)) w.heap.size (A4 (lb (a) 0) (lb (a) 1) (lb (a) 2) (lb (a) 3)) 25 := (((Bk.new _ _ _).alloc _).alloc _).alloc _
  have bN : Bk ((((w.alloc (.cells (A4 (lb (a) 0) (lb (a) 1) (lb (a) 2) (lb (a) 3)) 25)).alloc (.cells (A4 (lb (n) 0) (lb (n) 1) (lb (n) 2) (lb (n) 3)) 25)).alloc (.cells (A4 (lb (d) 0) (lb (d) 1) (lb (d) 2) (lb (d) 3)) 25)).alloc (.cells (A4 0 0 0 0) 25)) (w.heap.size + 1) (A4 (lb (n) 0) (lb (n) 1) (lb (n) 2) (lb (n) 3)) 25 := ((Bk.new' _ _ _ (by simp)).alloc _).alloc _
  have bD : Bk ((((w.alloc (.cells (A4 (lb (a) 0) (lb (a) 1) (lb (a) 2) (lb (a) 3)) 25)).alloc (.cells (A4 (lb (n) 0) (lb (n) 1) (lb (n) 2) (lb (n) 3)) 25)).alloc (.cells (A4 (lb (d) 0) (lb (d) 1) (lb (d) 2) (lb (d) 3)) 25)).alloc (.cells (A4 0 0 0 0) 25)) (w.heap.size + 1 + 1) (A4 (lb (d) 0) (lb (d) 1) (lb (d) 2) (lb (d) 3)) 25 := (Bk.new' _ _ _ (by simp)).alloc _
  have bR : Bk ((((w.alloc (.cells (A4 (lb (a) 0) (lb (a) 1) (lb (a) 2) (lb (a) 3)) 25)).alloc (.cells (A4 (lb (n) 0) (lb (n) 1) (lb (n) 2) (lb (n) 3)) 25)).alloc (.cells (A4 (lb (d) 0) (lb (d) 1) (lb (d) 2) (lb (d) 3)) 25)).alloc (.cells (A4 0 0 0 0) 25)) (w.heap.size + 1 + 1 + 1) (A4 0 0 0 0) 25 := Bk.new' _ _ _ (by simp)
  have hB : Below w.heap.size w ((((w.alloc (.cells (A4 (lb (a) 0) (lb (a) 1) (lb (a) 2) (lb (a) 3)) 25)).alloc (.cells (A4 (lb (n) 0) (lb (n) 1) (lb (n) 2) (lb (n) 3)) 25)).alloc (.cells (A4 (lb (d) 0) (lb (d) 1) (lb (d) 2) (lb (d) 3)) 25)).alloc (.cells (A4 0 0 0 0) 25)) := ((((Below.refl _ w).alloc (Nat.le_refl _) _).alloc (by simp) _).alloc (by simp; omega) _).alloc (by simp; omega) _
  have hsz : ((((w.alloc (.cells (A4 (lb (a) 0) (lb (a) 1) (lb (a) 2) (lb (a) 3)) 25)).alloc (.cells (A4 (lb (n) 0) (lb (n) 1) (lb (n) 2) (lb (n) 3)) 25)).alloc (.cells (A4 (lb (d) 0) (lb (d) 1) (lb (d) 2) (lb (d) 3)) 25)).alloc (.cells (A4 0 0 0 0) 25)).heap.size = w.heap.size + 4 := by simp
  generalize ((((w.alloc (.cells (A4 (lb (a) 0) (lb (a) 1) (lb (a) 2) (lb (a) 3)) 25)).alloc (.cells (A4 (lb (n) 0) (lb (n) 1) (lb (n) 2) (lb (n) 3)) 25)).alloc (.cells (A4 (lb (d) 0) (lb (d) 1) (lb (d) 2) (lb (d) 3)) 25)).alloc (.cells (A4 0 0 0 0) 25)) = w4 at *
  have d0 := bD.cell 0
  have df0 := bD.frozen 0
  have d1 := bD.cell 1
  have df1 := bD.frozen 1
  have d2 := bD.cell 2
  have df2 := bD.frozen 2
  have d3 := bD.cell 3
  have df3 := bD.frozen 3
  simp only [List.getElem?_toArray, List.getElem?_cons_zero, List.getElem?_cons_succ] at d0 d1 d2 d3
  have r0 := bR.cell 0
  have rf0 := bR.frozen 0
  have r1 := bR.cell 1
  have rf1 := bR.frozen 1
  have r2 := bR.cell 2
  have rf2 := bR.frozen 2
  have r3 := bR.cell 3
  have rf3 := bR.frozen 3
  simp only [List.getElem?_toArray, List.getElem?_cons_zero, List.getElem?_cons_succ] at r0 r1 r2 r3
  go_wp2_with (go_at_call 22; refine (hm1 _).mono ?_; rintro e w5 ⟨rfl, hb5⟩; have bR5 := bR.below hb5 bR.lt; have l5 := bR5.lt; have q0 := bR5.cell 0; have qf0 := bR5.frozen 0; have q1 := bR5.cell 1; have qf1 := bR5.frozen 1; have q2 := bR5.cell 2; have qf2 := bR5.frozen 2; have q3 := bR5.cell 3; have qf3 := bR5.frozen 3; simp only [List.getElem?_toArray, List.getElem?_cons_zero, List.getElem?_cons_succ] at q0 q1 q2 q3)
  have hB5 := hB.trans (hb5.mono (by omega))
  have kR := (set4_Bk bR5 (.int .u64 0) (.int .u64 0) (.int .u64 0) (.int .u64 0)).alloc (.cells (A4 (lb (mulV d i) 0) (lb (mulV d i) 1) (lb (mulV d i) 2) (lb (mulV d i) 3)) 25)
  have hBr := (set4_below hB5 (b := w.heap.size + 1 + 1 + 1) (by omega) (.int .u64 0) (.int .u64 0) (.int .u64 0) (.int .u64 0)).alloc (by simp; omega) (.cells (A4 (lb (mulV d i) 0) (lb (mulV d i) 1) (lb (mulV d i) 2) (lb (mulV d i) 3)) 25)
  generalize World.alloc _ _ = W9 at kR hBr ⊢
  have u0 := kR.cell 0
  have uf0 := kR.frozen 0
  have u1 := kR.cell 1
  have uf1 := kR.frozen 1
  have u2 := kR.cell 2
  have uf2 := kR.frozen 2
  have u3 := kR.cell 3
  have uf3 := kR.frozen 3
  simp only [List.getElem?_toArray, List.getElem?_cons_zero, List.getElem?_cons_succ] at u0 u1 u2 u3
  refine bodyPost_ret (v := .tuple #[.agg (A4 0 0 0 0), .int .i64 8]) ?_ rfl ⟨rfl, hBr⟩
  simp [results, Try.results53, go_sem, u0, u1, u2, u3]
set_option maxRecDepth 100000 in
set_option maxHeartbeats 1000000 in
theorem nt_mul (a n d i : Nat) (hi : i ≤ 4096) (ha : a < M256) (hn : n < M256) (hd : d < M256) (hy : d * i < M256) (ho : ¬ a * n < M256) (w : World) :
    Calls Try.prog 53 #[V a, V n, V d, .int .i64 (i : Int)] w fun e w' => e = .returned (.tuple #[.agg (A4 0 0 0 0), .int .i64 8]) ∧ Below w.heap.size w w' := by
  have h' : ¬ 4096 < (i : Int) := by omega
  have hw : IntKind.u64.wrap (i : Int) = i := by rw [IntKind.wrap_u64]; omega
  have hm1 : ∀ w, Calls Try.prog 22 #[V d, .agg (A4 (i : Int) 0 0 0)] w fun e w' => e = .returned (.tuple #[V (d * i), .int .i64 0]) ∧ Below w.heap.size w w' := fun w => by
    have := mul d i hd (by unfold M256; omega) w
    rw [show mulOkE d i = 0 from if_pos hy, show mulV d i = d * i from if_pos hy, ← V_one i (by omega)] at this
    exact this
  have hm2 : ∀ w, Calls Try.prog 22 #[V a, V n] w fun e w' => e = .returned (.tuple #[V (mulV a n), .int .i64 8]) ∧ Below w.heap.size w w' := fun w => by
    have := mul a n ha hn w
    rw [show mulOkE a n = 8 from if_neg ho] at this
    exact this
  obtain ⟨y, hye⟩ : ∃ y, y = d * i := ⟨_, rfl⟩
  rw [← hye] at hm1
  clear ho hy hye
  go_enter Try.func53, Try.ntmps53
  go_upto_region 1 with fail
  have bA : Bk ((((w.alloc (.cells (A4 (lb (a) 0) (lb (a) 1) (lb (a) 2) (lb (a) 3)) 25)).alloc (.cells (A4 (lb (n) 0) (lb (n) 1) (lb (n) 2) (lb (n) 3)) 25)).alloc (.cells (A4 (lb (d) 0) (lb (d) 1) (lb (d) 2) (lb (d) 3)) 25)).alloc (.cells (A4 0 0 0 0) 25)) w.heap.size (A4 (lb (a) 0) (lb (a) 1) (lb (a) 2) (lb (a) 3)) 25 := (((Bk.new _ _ _).alloc _).alloc _).alloc _
  have bN : Bk ((((w.alloc (.cells (A4 (lb (a) 0) (lb (a) 1) (lb (a) 2) (lb (a) 3)) 25)).alloc (.cells (A4 (lb (n) 0) (lb (n) 1) (lb (n) 2) (lb (n) 3)) 25)).alloc (.cells (A4 (lb (d) 0) (lb (d) 1) (lb (d) 2) (lb (d) 3)) 25)).alloc (.cells (A4 0 0 0 0) 25)) (w.heap.size + 1) (A4 (lb (n) 0) (lb (n) 1) (lb (n) 2) (lb (n) 3)) 25 := ((Bk.new' _ _ _ (by simp)).alloc _).alloc _
  have bD : Bk ((((w.alloc (.cells (A4 (lb (a) 0) (lb (a) 1) (lb (a) 2) (lb (a) 3)) 25)).alloc (.cells (A4 (lb (n) 0) (lb (n) 1) (lb (n) 2) (lb (n) 3)) 25)).alloc (.cells (A4 (lb (d) 0) (lb (d) 1) (lb (d) 2) (lb (d) 3)) 25)).alloc (.cells (A4 0 0 0 0) 25)) (w.heap.size + 1 + 1) (A4 (lb (d) 0) (lb (d) 1) (lb (d) 2) (lb (d) 3)) 25 := (Bk.new' _ _ _ (by simp)).alloc _
  have bR : Bk ((((w.alloc (.cells (A4 (lb (a) 0) (lb (a) 1) (lb (a) 2) (lb (a) 3)) 25)).alloc (.cells (A4 (lb (n) 0) (lb (n) 1) (lb (n) 2) (lb (n) 3)) 25)).alloc (.cells (A4 (lb (d) 0) (lb (d) 1) (lb (d) 2) (lb (d) 3)) 25)).alloc (.cells (A4 0 0 0 0) 25)) (w.heap.size + 1 + 1 + 1) (A4 0 0 0 0) 25 := Bk.new' _ _ _ (by simp)
  have hB : Below w.heap.size w ((((w.alloc (.cells (A4 (lb (a) 0) (lb (a) 1) (lb (a) 2) (lb (a) 3)) 25)).alloc (.cells (A4 (lb (n) 0) (lb (n) 1) (lb (n) 2) (lb (n) 3)) 25)).alloc (.cells (A4 (lb (d) 0) (lb (d) 1) (lb (d) 2) (lb (d) 3)) 25)).alloc (.cells (A4 0 0 0 0) 25)) := ((((Below.refl _ w).alloc (Nat.le_refl _) _).alloc (by simp) _).alloc (by simp; omega) _).alloc (by simp; omega) _
  have hsz : ((((w.alloc (.cells (A4 (lb (a) 0) (lb (a) 1) (lb (a) 2) (lb (a) 3)) 25)).alloc (.cells (A4 (lb (n) 0) (lb (n) 1) (lb (n) 2) (lb (n) 3)) 25)).alloc (.cells (A4 (lb (d) 0) (lb (d) 1) (lb (d) 2) (lb (d) 3)) 25)).alloc (.cells (A4 0 0 0 0) 25)).heap.size = w.heap.size + 4 := by simp
  generalize ((((w.alloc (.cells (A4 (lb (a) 0) (lb (a) 1) (lb (a) 2) (lb (a) 3)) 25)).alloc (.cells (A4 (lb (n) 0) (lb (n) 1) (lb (n) 2) (lb (n) 3)) 25)).alloc (.cells (A4 (lb (d) 0) (lb (d) 1) (lb (d) 2) (lb (d) 3)) 25)).alloc (.cells (A4 0 0 0 0) 25)) = w4 at *
  have d0 := bD.cell 0
  have df0 := bD.frozen 0
  have d1 := bD.cell 1
  have df1 := bD.frozen 1
  have d2 := bD.cell 2
  have df2 := bD.frozen 2
  have d3 := bD.cell 3
  have df3 := bD.frozen 3
  simp only [List.getElem?_toArray, List.getElem?_cons_zero, List.getElem?_cons_succ] at d0 d1 d2 d3
  have r0 := bR.cell 0
  have rf0 := bR.frozen 0
  have r1 := bR.cell 1
  have rf1 := bR.frozen 1
  have r2 := bR.cell 2
  have rf2 := bR.frozen 2
  have r3 := bR.cell 3
  have rf3 := bR.frozen 3
  simp only [List.getElem?_toArray, List.getElem?_cons_zero, List.getElem?_cons_succ] at r0 r1 r2 r3
  go_upto_region 6 with (go_at_call 22; refine (hm1 _).mono ?_; rintro e w5 ⟨rfl, hb5⟩)
  have bA5 := bA.below hb5 bA.lt
  have bN5 := bN.below hb5 bN.lt
  have bD5 := bD.below hb5 bD.lt
  have bR5 := bR.below hb5 bR.lt
  have hB5 := (hB.trans (hb5.mono (by omega))).alloc (by have := bR5.lt; omega) (.cells (A4 (lb (y) 0) (lb (y) 1) (lb (y) 2) (lb (y) 3)) 25)
  have bA6 := bA5.alloc (.cells (A4 (lb (y) 0) (lb (y) 1) (lb (y) 2) (lb (y) 3)) 25)
  have bN6 := bN5.alloc (.cells (A4 (lb (y) 0) (lb (y) 1) (lb (y) 2) (lb (y) 3)) 25)
  have bR6 := bR5.alloc (.cells (A4 (lb (y) 0) (lb (y) 1) (lb (y) 2) (lb (y) 3)) 25)
  generalize w5.alloc _ = w6 at *
  have a0 := bA6.cell 0
  have af0 := bA6.frozen 0
  have a1 := bA6.cell 1
  have af1 := bA6.frozen 1
  have a2 := bA6.cell 2
  have af2 := bA6.frozen 2
  have a3 := bA6.cell 3
  have af3 := bA6.frozen 3
  simp only [List.getElem?_toArray, List.getElem?_cons_zero, List.getElem?_cons_succ] at a0 a1 a2 a3
  have n0 := bN6.cell 0
  have nf0 := bN6.frozen 0
  have n1 := bN6.cell 1
  have nf1 := bN6.frozen 1
  have n2 := bN6.cell 2
  have nf2 := bN6.frozen 2
  have n3 := bN6.cell 3
  have nf3 := bN6.frozen 3
  simp only [List.getElem?_toArray, List.getElem?_cons_zero, List.getElem?_cons_succ] at n0 n1 n2 n3
  go_wp2_with (go_at_call 22; refine (hm2 _).mono ?_; rintro e w7 ⟨rfl, hb7⟩; have bR7 := bR6.below hb7 bR6.lt; have l7 := bR7.lt; have bA7 := bA6.below hb7 bA6.lt; have q0 := bR7.cell 0; have qf0 := bR7.frozen 0; have q1 := bR7.cell 1; have qf1 := bR7.frozen 1; have q2 := bR7.cell 2; have qf2 := bR7.frozen 2; have q3 := bR7.cell 3; have qf3 := bR7.frozen 3; simp only [List.getElem?_toArray, List.getElem?_cons_zero, List.getElem?_cons_succ] at q0 q1 q2 q3; have p0 := bA7.cell 0; have pf0 := bA7.frozen 0; have p1 := bA7.cell 1; have pf1 := bA7.frozen 1; have p2 := bA7.cell 2; have pf2 := bA7.frozen 2; have p3 := bA7.cell 3; have pf3 := bA7.frozen 3; simp only [List.getElem?_toArray, List.getElem?_cons_zero, List.getElem?_cons_succ] at p0 p1 p2 p3)
  have hB7 := hB5.trans (hb7.mono (by have := bR6.lt; omega))
  have kR := set4_Bk (set4_other bR7 (c := w.heap.size) (by omega) (.int .u64 (lb (mulV a n) 0)) (.int .u64 (lb (mulV a n) 1)) (.int .u64 (lb (mulV a n) 2)) (.int .u64 (lb (mulV a n) 3))) (.int .u64 0) (.int .u64 0) (.int .u64 0) (.int .u64 0)
  have hBr := set4_below (set4_below hB7 (b := w.heap.size) (by omega) (.int .u64 (lb (mulV a n) 0)) (.int .u64 (lb (mulV a n) 1)) (.int .u64 (lb (mulV a n) 2)) (.int .u64 (lb (mulV a n) 3))) (b := w.heap.size + 1 + 1 + 1) (by omega) (.int .u64 0) (.int .u64 0) (.int .u64 0) (.int .u64 0)
  generalize World.setCell _ _ _ = W9 at kR hBr ⊢
  have u0 := kR.cell 0
  have uf0 := kR.frozen 0
  have u1 := kR.cell 1
  have uf1 := kR.frozen 1
  have u2 := kR.cell 2
  have uf2 := kR.frozen 2
  have u3 := kR.cell 3
  have uf3 := kR.frozen 3
  simp only [List.getElem?_toArray, List.getElem?_cons_zero, List.getElem?_cons_succ] at u0 u1 u2 u3
  refine bodyPost_ret (v := .tuple #[.agg (A4 0 0 0 0), .int .i64 8]) ?_ rfl ⟨rfl, hBr⟩
  simp [results, Try.results53, go_sem, u0, u1, u2, u3]
set_option maxRecDepth 100000 in
set_option maxHeartbeats 1000000 in
theorem nt_yes (a n d i : Nat) (hi : i ≤ 4096) (hi0 : 0 < i) (ha : a < M256) (hn : n < M256) (hd : d < M256) (hd0 : 0 < d) (hy : d * i < M256) (ho : a * n < M256) (w : World) :
    Calls Try.prog 53 #[V a, V n, V d, .int .i64 (i : Int)] w fun e w' => e = .returned (.tuple #[V (a * n / (d * i)), .int .i64 0]) ∧ Below w.heap.size w w' := by
  have h' : ¬ 4096 < (i : Int) := by omega
  have hw : IntKind.u64.wrap (i : Int) = i := by rw [IntKind.wrap_u64]; omega
  have hm1 : ∀ w, Calls Try.prog 22 #[V d, .agg (A4 (i : Int) 0 0 0)] w fun e w' => e = .returned (.tuple #[V (d * i), .int .i64 0]) ∧ Below w.heap.size w w' := fun w => by
    have := mul d i hd (by unfold M256; omega) w
    rw [show mulOkE d i = 0 from if_pos hy, show mulV d i = d * i from if_pos hy, ← V_one i (by omega)] at this
    exact this
  have hm2 : ∀ w, Calls Try.prog 22 #[V a, V n] w fun e w' => e = .returned (.tuple #[V (a * n), .int .i64 0]) ∧ Below w.heap.size w w' := fun w => by
    have := mul a n ha hn w
    rw [show mulOkE a n = 0 from if_pos ho, show mulV a n = a * n from if_pos ho] at this
    exact this
  have hdv : ∀ w, Calls Try.prog 17 #[V (a * n), V (d * i)] w fun e w' => e = .returned (.tuple #[V (a * n / (d * i)), V (divR (a * n) (d * i)), .int .i64 0]) ∧ Below w.heap.size w w' := fun w => by
    have := div (a * n) (d * i) ho hy w
    rw [show divE (d * i) = 0 from if_neg (Nat.ne_of_gt (Nat.mul_pos hd0 hi0))] at this
    exact this
  generalize a * n / (d * i) = t at *
  generalize divR (a * n) (d * i) = t2 at *
  generalize d * i = y at *
  generalize a * n = x at *
  clear ho hy
  go_enter Try.func53, Try.ntmps53
  go_upto_region 1 with fail
  have bA : Bk ((((w.alloc (.cells (A4 (lb (a) 0) (lb (a) 1) (lb (a) 2) (lb (a) 3)) 25)).alloc (.cells (A4 (lb (n) 0) (lb (n) 1) (lb (n) 2) (lb (n) 3)) 25)).alloc (.cells (A4 (lb (d) 0) (lb (d) 1) (lb (d) 2) (lb (d) 3)) 25)).alloc (.cells (A4 0 0 0 0) 25)) w.heap.size (A4 (lb (a) 0) (lb (a) 1) (lb (a) 2) (lb (a) 3)) 25 := (((Bk.new _ _ _).alloc _).alloc _).alloc _
  have bN : Bk ((((w.alloc (.cells (A4 (lb (a) 0) (lb (a) 1) (lb (a) 2) (lb (a) 3)) 25)).alloc (.cells (A4 (lb (n) 0) (lb (n) 1) (lb (n) 2) (lb (n) 3)) 25)).alloc (.cells (A4 (lb (d) 0) (lb (d) 1) (lb (d) 2) (lb (d) 3)) 25)).alloc (.cells (A4 0 0 0 0) 25)) (w.heap.size + 1) (A4 (lb (n) 0) (lb (n) 1) (lb (n) 2) (lb (n) 3)) 25 := ((Bk.new' _ _ _ (by simp)).alloc _).alloc _
  have bD : Bk ((((w.alloc (.cells (A4 (lb (a) 0) (lb (a) 1) (lb (a) 2) (lb (a) 3)) 25)).alloc (.cells (A4 (lb (n) 0) (lb (n) 1) (lb (n) 2) (lb (n) 3)) 25)).alloc (.cells (A4 (lb (d) 0) (lb (d) 1) (lb (d) 2) (lb (d) 3)) 25)).alloc (.cells (A4 0 0 0 0) 25)) (w.heap.size + 1 + 1) (A4 (lb (d) 0) (lb (d) 1) (lb (d) 2) (lb (d) 3)) 25 := (Bk.new' _ _ _ (by simp)).alloc _
  have bR : Bk ((((w.alloc (.cells (A4 (lb (a) 0) (lb (a) 1) (lb (a) 2) (lb (a) 3)) 25)).alloc (.cells (A4 (lb (n) 0) (lb (n) 1) (lb (n) 2) (lb (n) 3)) 25)).alloc (.cells (A4 (lb (d) 0) (lb (d) 1) (lb (d) 2) (lb (d) 3)) 25)).alloc (.cells (A4 0 0 0 0) 25)) (w.heap.size + 1 + 1 + 1) (A4 0 0 0 0) 25 := Bk.new' _ _ _ (by simp)
  have hB : Below w.heap.size w ((((w.alloc (.cells (A4 (lb (a) 0) (lb (a) 1) (lb (a) 2) (lb (a) 3)) 25)).alloc (.cells (A4 (lb (n) 0) (lb (n) 1) (lb (n) 2) (lb (n) 3)) 25)).alloc (.cells (A4 (lb (d) 0) (lb (d) 1) (lb (d) 2) (lb (d) 3)) 25)).alloc (.cells (A4 0 0 0 0) 25)) := ((((Below.refl _ w).alloc (Nat.le_refl _) _).alloc (by simp) _).alloc (by simp; omega) _).alloc (by simp; omega) _
  have hsz : ((((w.alloc (.cells (A4 (lb (a) 0) (lb (a) 1) (lb (a) 2) (lb (a) 3)) 25)).alloc (.cells (A4 (lb (n) 0) (lb (n) 1) (lb (n) 2) (lb (n) 3)) 25)).alloc (.cells (A4 (lb (d) 0) (lb (d) 1) (lb (d) 2) (lb (d) 3)) 25)).alloc (.cells (A4 0 0 0 0) 25)).heap.size = w.heap.size + 4 := by simp
  generalize ((((w.alloc (.cells (A4 (lb (a) 0) (lb (a) 1) (lb (a) 2) (lb (a) 3)) 25)).alloc (.cells (A4 (lb (n) 0) (lb (n) 1) (lb (n) 2) (lb (n) 3)) 25)).alloc (.cells (A4 (lb (d) 0) (lb (d) 1) (lb (d) 2) (lb (d) 3)) 25)).alloc (.cells (A4 0 0 0 0) 25)) = w4 at *
  have d0 := bD.cell 0
  have df0 := bD.frozen 0
  have d1 := bD.cell 1
  have df1 := bD.frozen 1
  have d2 := bD.cell 2
  have df2 := bD.frozen 2
  have d3 := bD.cell 3
  have df3 := bD.frozen 3
  simp only [List.getElem?_toArray, List.getElem?_cons_zero, List.getElem?_cons_succ] at d0 d1 d2 d3
  have r0 := bR.cell 0
  have rf0 := bR.frozen 0
  have r1 := bR.cell 1
  have rf1 := bR.frozen 1
  have r2 := bR.cell 2
  have rf2 := bR.frozen 2
  have r3 := bR.cell 3
  have rf3 := bR.frozen 3
  simp only [List.getElem?_toArray, List.getElem?_cons_zero, List.getElem?_cons_succ] at r0 r1 r2 r3
  go_upto_region 6 with (go_at_call 22; refine (hm1 _).mono ?_; rintro e w5 ⟨rfl, hb5⟩)
  have bA5 := bA.below hb5 bA.lt
  have bN5 := bN.below hb5 bN.lt
  have bD5 := bD.below hb5 bD.lt
  have bR5 := bR.below hb5 bR.lt
  have hB5 := (hB.trans (hb5.mono (by omega))).alloc (by have := bR5.lt; omega) (.cells (A4 (lb (y) 0) (lb (y) 1) (lb (y) 2) (lb (y) 3)) 25)
  have bA6 := bA5.alloc (.cells (A4 (lb (y) 0) (lb (y) 1) (lb (y) 2) (lb (y) 3)) 25)
  have bN6 := bN5.alloc (.cells (A4 (lb (y) 0) (lb (y) 1) (lb (y) 2) (lb (y) 3)) 25)
  have bR6 := bR5.alloc (.cells (A4 (lb (y) 0) (lb (y) 1) (lb (y) 2) (lb (y) 3)) 25)
  have bY6 := Bk.new w5 (A4 (lb (y) 0) (lb (y) 1) (lb (y) 2) (lb (y) 3)) 25
  have hg5 : w.heap.size + 1 + 1 + 1 < w5.heap.size := bR5.lt
  obtain ⟨Y, hY⟩ : ∃ Y, Y = w5.heap.size := ⟨_, rfl⟩
  rw [← hY] at bY6 hg5 ⊢
  clear hY
  generalize w5.alloc _ = w6 at *
  have a0 := bA6.cell 0
  have af0 := bA6.frozen 0
  have a1 := bA6.cell 1
  have af1 := bA6.frozen 1
  have a2 := bA6.cell 2
  have af2 := bA6.frozen 2
  have a3 := bA6.cell 3
  have af3 := bA6.frozen 3
  simp only [List.getElem?_toArray, List.getElem?_cons_zero, List.getElem?_cons_succ] at a0 a1 a2 a3
  have n0 := bN6.cell 0
  have nf0 := bN6.frozen 0
  have n1 := bN6.cell 1
  have nf1 := bN6.frozen 1
  have n2 := bN6.cell 2
  have nf2 := bN6.frozen 2
  have n3 := bN6.cell 3
  have nf3 := bN6.frozen 3
  simp only [List.getElem?_toArray, List.getElem?_cons_zero, List.getElem?_cons_succ] at n0 n1 n2 n3
  go_upto_region 9 with (go_at_call 22; refine (hm2 _).mono ?_; rintro e w7 ⟨rfl, hb7⟩; have bA7 := bA6.below hb7 bA6.lt; have p0 := bA7.cell 0; have pf0 := bA7.frozen 0; have p1 := bA7.cell 1; have pf1 := bA7.frozen 1; have p2 := bA7.cell 2; have pf2 := bA7.frozen 2; have p3 := bA7.cell 3; have pf3 := bA7.frozen 3; simp only [List.getElem?_toArray, List.getElem?_cons_zero, List.getElem?_cons_succ] at p0 p1 p2 p3)
  have bR7 := set4_other (bR6.below hb7 bR6.lt) (c := w.heap.size) (by omega) (.int .u64 (lb (x) 0)) (.int .u64 (lb (x) 1)) (.int .u64 (lb (x) 2)) (.int .u64 (lb (x) 3))
  have bY7 := set4_other (bY6.below hb7 bY6.lt) (c := w.heap.size) (by omega) (.int .u64 (lb (x) 0)) (.int .u64 (lb (x) 1)) (.int .u64 (lb (x) 2)) (.int .u64 (lb (x) 3))
  have bA8 := set4_Bk bA7 (.int .u64 (lb (x) 0)) (.int .u64 (lb (x) 1)) (.int .u64 (lb (x) 2)) (.int .u64 (lb (x) 3))
  have hB7 := set4_below (hB5.trans (hb7.mono (by have := bR6.lt; omega))) (b := w.heap.size) (by omega) (.int .u64 (lb (x) 0)) (.int .u64 (lb (x) 1)) (.int .u64 (lb (x) 2)) (.int .u64 (lb (x) 3))
  clear p0 p1 p2 p3 pf0 pf1 pf2 pf3 a0 a1 a2 a3 af0 af1 af2 af3 n0 n1 n2 n3 nf0 nf1 nf2 nf3
  generalize World.setCell _ _ _ = w8 at bR7 bY7 bA8 hB7 ⊢
  have a0 := bA8.cell 0
  have af0 := bA8.frozen 0
  have a1 := bA8.cell 1
  have af1 := bA8.frozen 1
  have a2 := bA8.cell 2
  have af2 := bA8.frozen 2
  have a3 := bA8.cell 3
  have af3 := bA8.frozen 3
  simp only [List.getElem?_toArray, List.getElem?_cons_zero, List.getElem?_cons_succ] at a0 a1 a2 a3
  have y0 := bY7.cell 0
  have yf0 := bY7.frozen 0
  have y1 := bY7.cell 1
  have yf1 := bY7.frozen 1
  have y2 := bY7.cell 2
  have yf2 := bY7.frozen 2
  have y3 := bY7.cell 3
  have yf3 := bY7.frozen 3
  simp only [List.getElem?_toArray, List.getElem?_cons_zero, List.getElem?_cons_succ] at y0 y1 y2 y3
  go_wp2_with (go_at_call 17; refine (hdv _).mono ?_; rintro e w9 ⟨rfl, hb9⟩; have bA9 := bA8.below hb9 bA8.lt; have bR9 := bR7.below hb9 bR7.lt; have l9 := bR9.lt; have p0 := bA9.cell 0; have pf0 := bA9.frozen 0; have p1 := bA9.cell 1; have pf1 := bA9.frozen 1; have p2 := bA9.cell 2; have pf2 := bA9.frozen 2; have p3 := bA9.cell 3; have pf3 := bA9.frozen 3; simp only [List.getElem?_toArray, List.getElem?_cons_zero, List.getElem?_cons_succ] at p0 p1 p2 p3; have q0 := bR9.cell 0; have qf0 := bR9.frozen 0; have q1 := bR9.cell 1; have qf1 := bR9.frozen 1; have q2 := bR9.cell 2; have qf2 := bR9.frozen 2; have q3 := bR9.cell 3; have qf3 := bR9.frozen 3; simp only [List.getElem?_toArray, List.getElem?_cons_zero, List.getElem?_cons_succ] at q0 q1 q2 q3)
  have hB9 := hB7.trans (hb9.mono (by have := bR7.lt; omega))
  have kR := set4_Bk (set4_other bR9 (c := w.heap.size) (by omega) (.int .u64 (lb (t) 0)) (.int .u64 (lb (t) 1)) (.int .u64 (lb (t) 2)) (.int .u64 (lb (t) 3))) (.int .u64 (lb (t) 0)) (.int .u64 (lb (t) 1)) (.int .u64 (lb (t) 2)) (.int .u64 (lb (t) 3))
  have hBr := set4_below (set4_below hB9 (b := w.heap.size) (by omega) (.int .u64 (lb (t) 0)) (.int .u64 (lb (t) 1)) (.int .u64 (lb (t) 2)) (.int .u64 (lb (t) 3))) (b := w.heap.size + 1 + 1 + 1) (by omega) (.int .u64 (lb (t) 0)) (.int .u64 (lb (t) 1)) (.int .u64 (lb (t) 2)) (.int .u64 (lb (t) 3))
  generalize World.setCell _ _ _ = W9 at kR hBr ⊢
  have u0 := kR.cell 0
  have uf0 := kR.frozen 0
  have u1 := kR.cell 1
  have uf1 := kR.frozen 1
  have u2 := kR.cell 2
  have uf2 := kR.frozen 2
  have u3 := kR.cell 3
  have uf3 := kR.frozen 3
  simp only [List.getElem?_toArray, List.getElem?_cons_zero, List.getElem?_cons_succ] at u0 u1 u2 u3
  refine bodyPost_ret (v := .tuple #[V t, .int .i64 0]) ?_ rfl ⟨rfl, hBr⟩
  simp [results, Try.results53, go_sem, u0, u1, u2, u3]
theorem nextTerm (a n d i : Nat) (hi0 : 0 < i) (hi : i ≤ 9223372036854775807) (ha : a < M256) (hn : n < M256) (hd : d < M256) (hd0 : 0 < d) (w : World) :
    Calls Try.prog 53 #[V a, V n, V d, .int .i64 (i : Int)] w fun e w' => e = .returned (.tuple #[V (ntV a n d i), .int .i64 (ntE a n d i)]) ∧ Below w.heap.size w w' := by
  by_cases h1 : i ≤ 4096
  · by_cases h2 : d * i < M256
    · by_cases h3 : a * n < M256
      · have ok : ntOk a n d i = true := by simp [ntOk, h1, h2, h3]
        rw [show ntV a n d i = a * n / (d * i) from if_pos ok, show ntE a n d i = 0 from if_pos ok]
        exact nt_yes a n d i h1 hi0 ha hn hd hd0 h2 h3 w
      · have ok : ¬ ntOk a n d i = true := by simp [ntOk, h3]
        rw [show ntV a n d i = 0 from if_neg ok, show ntE a n d i = 8 from if_neg ok, V_zero]
        exact nt_mul a n d i h1 ha hn hd h2 h3 w
    · have ok : ¬ ntOk a n d i = true := by simp [ntOk, h2]
      rw [show ntV a n d i = 0 from if_neg ok, show ntE a n d i = 8 from if_neg ok, V_zero]
      exact nt_by a n d i h1 hd h2 w
  · have ok : ¬ ntOk a n d i = true := by simp [ntOk, h1]
    rw [show ntV a n d i = 0 from if_neg ok, show ntE a n d i = 8 from if_neg ok, V_zero]
    exact nt_far a n d i (by omega) hi w
end Go.Proofs.Ytljfenjpnanoiaa

import Derived.Test.YtljfenjpnanoiaaDivB
import Derived.Test.YtljfenjpnanoiaaBlk
import Derived.Test.YtljfenjpnanoiaaDivL
set_option linter.unusedSimpArgs false
set_option linter.unusedVariables false
namespace Go.Proofs.Ytljfenjpnanoiaa
open Go.RowKit

set_option maxRecDepth 100000 in
set_option maxHeartbeats 1000000 in
theorem div_zero (n : Nat) (hn : n < M256) (w : World) :
    Calls Try.prog 17 #[V n, V 0] w fun e w' => e = .returned (.tuple #[V 0, V 0, .int .i64 3]) ∧ Below w.heap.size w w' := by
  obtain ⟨m, hm0⟩ : ∃ m, m = 0 := ⟨0, rfl⟩
  rw [V_zero]
  have HV : Hid (Value.agg (A4 0 0 0 0) = V m) := by rw [hm0]; exact V_zero.symm
  have hbits := fun w => bits m (by rw [hm0]; decide) w
  have hbl : bl m = 0 := by rw [hm0]; rfl
  rw [hbl] at hbits
  have HM : Hid (m = 0) := hm0
  clear hm0 hbl
  suffices h : Calls Try.prog 17 #[V n, V m] w fun e w' => e = .returned (.tuple #[.agg (A4 0 0 0 0), .agg (A4 0 0 0 0), .int .i64 3]) ∧ Below w.heap.size w w' by rw [HV.out]; rw [HV.out] at h; exact h
  go_enter Try.func17, Try.ntmps17
  go_upto_region 1 with fail
  have bA : Bk ((((w.alloc (.cells (A4 (lb n 0) (lb n 1) (lb n 2) (lb n 3)) 25)).alloc (.cells (A4 (lb m 0) (lb m 1) (lb m 2) (lb m 3)) 25)).alloc (.cells (A4 0 0 0 0) 25)).alloc (.cells (A4 0 0 0 0) 25)) w.heap.size (A4 (lb n 0) (lb n 1) (lb n 2) (lb n 3)) 25 := (((Bk.new _ _ _).alloc _).alloc _).alloc _
  have bM : Bk ((((w.alloc (.cells (A4 (lb n 0) (lb n 1) (lb n 2) (lb n 3)) 25)).alloc (.cells (A4 (lb m 0) (lb m 1) (lb m 2) (lb m 3)) 25)).alloc (.cells (A4 0 0 0 0) 25)).alloc (.cells (A4 0 0 0 0) 25)) (w.heap.size + 1) (A4 (lb m 0) (lb m 1) (lb m 2) (lb m 3)) 25 := ((Bk.new' _ _ _ (by simp)).alloc _).alloc _
  have bQ : Bk ((((w.alloc (.cells (A4 (lb n 0) (lb n 1) (lb n 2) (lb n 3)) 25)).alloc (.cells (A4 (lb m 0) (lb m 1) (lb m 2) (lb m 3)) 25)).alloc (.cells (A4 0 0 0 0) 25)).alloc (.cells (A4 0 0 0 0) 25)) (w.heap.size + 1 + 1) (A4 0 0 0 0) 25 := (Bk.new' _ _ _ (by simp)).alloc _
  have bR : Bk ((((w.alloc (.cells (A4 (lb n 0) (lb n 1) (lb n 2) (lb n 3)) 25)).alloc (.cells (A4 (lb m 0) (lb m 1) (lb m 2) (lb m 3)) 25)).alloc (.cells (A4 0 0 0 0) 25)).alloc (.cells (A4 0 0 0 0) 25)) (w.heap.size + 1 + 1 + 1) (A4 0 0 0 0) 25 := Bk.new' _ _ _ (by simp)
  have hB : Below w.heap.size w ((((w.alloc (.cells (A4 (lb n 0) (lb n 1) (lb n 2) (lb n 3)) 25)).alloc (.cells (A4 (lb m 0) (lb m 1) (lb m 2) (lb m 3)) 25)).alloc (.cells (A4 0 0 0 0) 25)).alloc (.cells (A4 0 0 0 0) 25)) := ((((Below.refl _ w).alloc (Nat.le_refl _) _).alloc (by simp) _).alloc (by simp; omega) _).alloc (by simp; omega) _
  have hsz : ((((w.alloc (.cells (A4 (lb n 0) (lb n 1) (lb n 2) (lb n 3)) 25)).alloc (.cells (A4 (lb m 0) (lb m 1) (lb m 2) (lb m 3)) 25)).alloc (.cells (A4 0 0 0 0) 25)).alloc (.cells (A4 0 0 0 0) 25)).heap.size = w.heap.size + 4 := by simp
  generalize ((((w.alloc (.cells (A4 (lb n 0) (lb n 1) (lb n 2) (lb n 3)) 25)).alloc (.cells (A4 (lb m 0) (lb m 1) (lb m 2) (lb m 3)) 25)).alloc (.cells (A4 0 0 0 0) 25)).alloc (.cells (A4 0 0 0 0) 25)) = w4 at *
  have m0 := bM.cell 0
  have mf0 := bM.frozen 0
  have m1 := bM.cell 1
  have mf1 := bM.frozen 1
  have m2 := bM.cell 2
  have mf2 := bM.frozen 2
  have m3 := bM.cell 3
  have mf3 := bM.frozen 3
  simp only [List.getElem?_toArray, List.getElem?_cons_zero, List.getElem?_cons_succ] at m0 m1 m2 m3
  go_wp2_with (go_at_call 28; refine (hbits _).mono ?_; rintro e w5 ⟨rfl, hb5⟩; have bA5 := bA.below hb5 bA.lt; have bM5 := bM.below hb5 bM.lt; have bQ5 := bQ.below hb5 bQ.lt; have bR5 := bR.below hb5 bR.lt; have q0 := bQ5.cell 0; have qf0 := bQ5.frozen 0; have q1 := bQ5.cell 1; have qf1 := bQ5.frozen 1; have q2 := bQ5.cell 2; have qf2 := bQ5.frozen 2; have q3 := bQ5.cell 3; have qf3 := bQ5.frozen 3; simp only [List.getElem?_toArray, List.getElem?_cons_zero, List.getElem?_cons_succ] at q0 q1 q2 q3; have r0 := bR5.cell 0; have rf0 := bR5.frozen 0; have r1 := bR5.cell 1; have rf1 := bR5.frozen 1; have r2 := bR5.cell 2; have rf2 := bR5.frozen 2; have r3 := bR5.cell 3; have rf3 := bR5.frozen 3; simp only [List.getElem?_toArray, List.getElem?_cons_zero, List.getElem?_cons_succ] at r0 r1 r2 r3)
  have hB5 := hB.trans (hb5.mono (by omega))
  have k1 := set4_other (set4_Bk bQ5 (.int .u64 0) (.int .u64 0) (.int .u64 0) (.int .u64 0)) (c := w.heap.size + 1 + 1 + 1) (by omega) (.int .u64 0) (.int .u64 0) (.int .u64 0) (.int .u64 0)
  have k2 := set4_Bk (set4_other bR5 (c := w.heap.size + 1 + 1) (by omega) (.int .u64 0) (.int .u64 0) (.int .u64 0) (.int .u64 0)) (.int .u64 0) (.int .u64 0) (.int .u64 0) (.int .u64 0)
  have s0 := k1.cell 0
  have sf0 := k1.frozen 0
  have s1 := k1.cell 1
  have sf1 := k1.frozen 1
  have s2 := k1.cell 2
  have sf2 := k1.frozen 2
  have s3 := k1.cell 3
  have sf3 := k1.frozen 3
  simp only [List.getElem?_toArray, List.getElem?_cons_zero, List.getElem?_cons_succ] at s0 s1 s2 s3
  have t0 := k2.cell 0
  have tf0 := k2.frozen 0
  have t1 := k2.cell 1
  have tf1 := k2.frozen 1
  have t2 := k2.cell 2
  have tf2 := k2.frozen 2
  have t3 := k2.cell 3
  have tf3 := k2.frozen 3
  simp only [List.getElem?_toArray, List.getElem?_cons_zero, List.getElem?_cons_succ] at t0 t1 t2 t3

  refine bodyPost_ret (v := .tuple #[.agg (A4 0 0 0 0), .agg (A4 0 0 0 0), .int .i64 3]) ?_ rfl ⟨rfl, set4_below (set4_below hB5 (by omega) _ _ _ _) (by omega) _ _ _ _⟩
  simp [results, Try.results17, go_sem, s0, s1, s2, s3, t0, t1, t2, t3]
set_option maxRecDepth 100000 in
set_option maxHeartbeats 1000000 in
theorem div_limb (n m : Nat) (hn : n < M256) (hm : m < M256) (h0 : 0 < m) (h64 : bl m ≤ 64) (w : World) :
    Calls Try.prog 17 #[V n, V m] w fun e w' => e = .returned (.tuple #[V (n / m), V (n % m), .int .i64 0]) ∧ Below w.heap.size w w' := by
  have hbits := fun w => bits m hm w
  have hb0 := (bl_ge m h0).2
  have hbe : ((bl m : Int) == 0) = false := by simp; omega
  have hbp : 0 < (bl m : Int) := by omega
  have hm64 : m < 18446744073709551616 := (bl_iff m 64).1 h64
  have hlimb := fun w => divLimb n m hn h0 hm64 w
  rw [← (lb_small m hm64).1] at hlimb
  clear hm64
  have Hn : Hid (n < M256) := hn
  have Hm : Hid (m < M256) := hm
  have H0 : Hid (0 < m) := h0
  clear hn hm h0 hb0
  go_enter Try.func17, Try.ntmps17
  go_upto_region 1 with fail
  have bA : Bk ((((w.alloc (.cells (A4 (lb n 0) (lb n 1) (lb n 2) (lb n 3)) 25)).alloc (.cells (A4 (lb m 0) (lb m 1) (lb m 2) (lb m 3)) 25)).alloc (.cells (A4 0 0 0 0) 25)).alloc (.cells (A4 0 0 0 0) 25)) w.heap.size (A4 (lb n 0) (lb n 1) (lb n 2) (lb n 3)) 25 := (((Bk.new _ _ _).alloc _).alloc _).alloc _
  have bM : Bk ((((w.alloc (.cells (A4 (lb n 0) (lb n 1) (lb n 2) (lb n 3)) 25)).alloc (.cells (A4 (lb m 0) (lb m 1) (lb m 2) (lb m 3)) 25)).alloc (.cells (A4 0 0 0 0) 25)).alloc (.cells (A4 0 0 0 0) 25)) (w.heap.size + 1) (A4 (lb m 0) (lb m 1) (lb m 2) (lb m 3)) 25 := ((Bk.new' _ _ _ (by simp)).alloc _).alloc _
  have bQ : Bk ((((w.alloc (.cells (A4 (lb n 0) (lb n 1) (lb n 2) (lb n 3)) 25)).alloc (.cells (A4 (lb m 0) (lb m 1) (lb m 2) (lb m 3)) 25)).alloc (.cells (A4 0 0 0 0) 25)).alloc (.cells (A4 0 0 0 0) 25)) (w.heap.size + 1 + 1) (A4 0 0 0 0) 25 := (Bk.new' _ _ _ (by simp)).alloc _
  have bR : Bk ((((w.alloc (.cells (A4 (lb n 0) (lb n 1) (lb n 2) (lb n 3)) 25)).alloc (.cells (A4 (lb m 0) (lb m 1) (lb m 2) (lb m 3)) 25)).alloc (.cells (A4 0 0 0 0) 25)).alloc (.cells (A4 0 0 0 0) 25)) (w.heap.size + 1 + 1 + 1) (A4 0 0 0 0) 25 := Bk.new' _ _ _ (by simp)
  have hB : Below w.heap.size w ((((w.alloc (.cells (A4 (lb n 0) (lb n 1) (lb n 2) (lb n 3)) 25)).alloc (.cells (A4 (lb m 0) (lb m 1) (lb m 2) (lb m 3)) 25)).alloc (.cells (A4 0 0 0 0) 25)).alloc (.cells (A4 0 0 0 0) 25)) := ((((Below.refl _ w).alloc (Nat.le_refl _) _).alloc (by simp) _).alloc (by simp; omega) _).alloc (by simp; omega) _
  have hsz : ((((w.alloc (.cells (A4 (lb n 0) (lb n 1) (lb n 2) (lb n 3)) 25)).alloc (.cells (A4 (lb m 0) (lb m 1) (lb m 2) (lb m 3)) 25)).alloc (.cells (A4 0 0 0 0) 25)).alloc (.cells (A4 0 0 0 0) 25)).heap.size = w.heap.size + 4 := by simp
  generalize ((((w.alloc (.cells (A4 (lb n 0) (lb n 1) (lb n 2) (lb n 3)) 25)).alloc (.cells (A4 (lb m 0) (lb m 1) (lb m 2) (lb m 3)) 25)).alloc (.cells (A4 0 0 0 0) 25)).alloc (.cells (A4 0 0 0 0) 25)) = w4 at *
  have m0 := bM.cell 0
  have mf0 := bM.frozen 0
  have m1 := bM.cell 1
  have mf1 := bM.frozen 1
  have m2 := bM.cell 2
  have mf2 := bM.frozen 2
  have m3 := bM.cell 3
  have mf3 := bM.frozen 3
  simp only [List.getElem?_toArray, List.getElem?_cons_zero, List.getElem?_cons_succ] at m0 m1 m2 m3
  go_upto_region 7 with (first | (go_at_call 28; refine (hbits _).mono ?_; rintro e w5 ⟨rfl, hb5⟩; have bA5 := bA.below hb5 bA.lt; have bM5 := bM.below hb5 bM.lt; have bQ5 := bQ.below hb5 bQ.lt; have bR5 := bR.below hb5 bR.lt; have a0 := bA5.cell 0; have af0 := bA5.frozen 0; have a1 := bA5.cell 1; have af1 := bA5.frozen 1; have a2 := bA5.cell 2; have af2 := bA5.frozen 2; have a3 := bA5.cell 3; have af3 := bA5.frozen 3; simp only [List.getElem?_toArray, List.getElem?_cons_zero, List.getElem?_cons_succ] at a0 a1 a2 a3; have b0 := bM5.cell 0; have bf0 := bM5.frozen 0; have b1 := bM5.cell 1; have bf1 := bM5.frozen 1; have b2 := bM5.cell 2; have bf2 := bM5.frozen 2; have b3 := bM5.cell 3; have bf3 := bM5.frozen 3; simp only [List.getElem?_toArray, List.getElem?_cons_zero, List.getElem?_cons_succ] at b0 b1 b2 b3) | (go_at_call 32; refine (hlimb _).mono ?_; rintro e w6 ⟨rfl, hb6⟩; have bA6 := bA5.below hb6 bA5.lt; have bM6 := bM5.below hb6 bM5.lt; have bQ6 := bQ5.below hb6 bQ5.lt; have bR6 := bR5.below hb6 bR5.lt; have q0 := bQ6.cell 0; have qf0 := bQ6.frozen 0; have q1 := bQ6.cell 1; have qf1 := bQ6.frozen 1; have q2 := bQ6.cell 2; have qf2 := bQ6.frozen 2; have q3 := bQ6.cell 3; have qf3 := bQ6.frozen 3; simp only [List.getElem?_toArray, List.getElem?_cons_zero, List.getElem?_cons_succ] at q0 q1 q2 q3; have r0 := bR6.cell 0; have rf0 := bR6.frozen 0; have r1 := bR6.cell 1; have rf1 := bR6.frozen 1; have r2 := bR6.cell 2; have rf2 := bR6.frozen 2; have r3 := bR6.cell 3; have rf3 := bR6.frozen 3; simp only [List.getElem?_toArray, List.getElem?_cons_zero, List.getElem?_cons_succ] at r0 r1 r2 r3))
  have hB5 := hB.trans (hb5.mono (by omega))
  have hB6 := hB5.trans (hb6.mono (by have := hb5.size; omega))
  have k1 := set4_other (set4_Bk bQ6 (.int .u64 (lb (n / m) 0)) (.int .u64 (lb (n / m) 1)) (.int .u64 (lb (n / m) 2)) (.int .u64 (lb (n / m) 3))) (c := w.heap.size + 1 + 1 + 1) (by omega) (.int .u64 (lb (n % m) 0)) (.int .u64 (lb (n % m) 1)) (.int .u64 (lb (n % m) 2)) (.int .u64 (lb (n % m) 3))
  have k2 := set4_Bk (set4_other bR6 (c := w.heap.size + 1 + 1) (by omega) (.int .u64 (lb (n / m) 0)) (.int .u64 (lb (n / m) 1)) (.int .u64 (lb (n / m) 2)) (.int .u64 (lb (n / m) 3))) (.int .u64 (lb (n % m) 0)) (.int .u64 (lb (n % m) 1)) (.int .u64 (lb (n % m) 2)) (.int .u64 (lb (n % m) 3))
  have hB8 := set4_below (set4_below hB6 (b := w.heap.size + 1 + 1) (by omega) (.int .u64 (lb (n / m) 0)) (.int .u64 (lb (n / m) 1)) (.int .u64 (lb (n / m) 2)) (.int .u64 (lb (n / m) 3))) (b := w.heap.size + 1 + 1 + 1) (by omega) (.int .u64 (lb (n % m) 0)) (.int .u64 (lb (n % m) 1)) (.int .u64 (lb (n % m) 2)) (.int .u64 (lb (n % m) 3))
  generalize World.setCell _ _ _ = W8 at k1 k2 hB8 ⊢
  have s0 := k1.cell 0
  have sf0 := k1.frozen 0
  have s1 := k1.cell 1
  have sf1 := k1.frozen 1
  have s2 := k1.cell 2
  have sf2 := k1.frozen 2
  have s3 := k1.cell 3
  have sf3 := k1.frozen 3
  simp only [List.getElem?_toArray, List.getElem?_cons_zero, List.getElem?_cons_succ] at s0 s1 s2 s3
  have t0 := k2.cell 0
  have tf0 := k2.frozen 0
  have t1 := k2.cell 1
  have tf1 := k2.frozen 1
  have t2 := k2.cell 2
  have tf2 := k2.frozen 2
  have t3 := k2.cell 3
  have tf3 := k2.frozen 3
  simp only [List.getElem?_toArray, List.getElem?_cons_zero, List.getElem?_cons_succ] at t0 t1 t2 t3
  clear hbits bA bM bQ bR bA5 bM5 bQ5 bR5 bA6 bM6 bQ6 bR6 hb5 hb6
  go_region
  go_wp2
  have j1 := set4_other (set4_Bk k1 (.int .u64 (lb (n / m) 0)) (.int .u64 (lb (n / m) 1)) (.int .u64 (lb (n / m) 2)) (.int .u64 (lb (n / m) 3))) (c := w.heap.size + 1 + 1 + 1) (by omega) (.int .u64 (lb (n % m) 0)) (.int .u64 (lb (n % m) 1)) (.int .u64 (lb (n % m) 2)) (.int .u64 (lb (n % m) 3))
  have j2 := set4_Bk (set4_other k2 (c := w.heap.size + 1 + 1) (by omega) (.int .u64 (lb (n / m) 0)) (.int .u64 (lb (n / m) 1)) (.int .u64 (lb (n / m) 2)) (.int .u64 (lb (n / m) 3))) (.int .u64 (lb (n % m) 0)) (.int .u64 (lb (n % m) 1)) (.int .u64 (lb (n % m) 2)) (.int .u64 (lb (n % m) 3))
  have hB9 := set4_below (set4_below hB8 (b := w.heap.size + 1 + 1) (by omega) (.int .u64 (lb (n / m) 0)) (.int .u64 (lb (n / m) 1)) (.int .u64 (lb (n / m) 2)) (.int .u64 (lb (n / m) 3))) (b := w.heap.size + 1 + 1 + 1) (by omega) (.int .u64 (lb (n % m) 0)) (.int .u64 (lb (n % m) 1)) (.int .u64 (lb (n % m) 2)) (.int .u64 (lb (n % m) 3))
  generalize World.setCell _ _ _ = W9 at j1 j2 hB9 ⊢
  have u0 := j1.cell 0
  have uf0 := j1.frozen 0
  have u1 := j1.cell 1
  have uf1 := j1.frozen 1
  have u2 := j1.cell 2
  have uf2 := j1.frozen 2
  have u3 := j1.cell 3
  have uf3 := j1.frozen 3
  simp only [List.getElem?_toArray, List.getElem?_cons_zero, List.getElem?_cons_succ] at u0 u1 u2 u3
  have v0 := j2.cell 0
  have vf0 := j2.frozen 0
  have v1 := j2.cell 1
  have vf1 := j2.frozen 1
  have v2 := j2.cell 2
  have vf2 := j2.frozen 2
  have v3 := j2.cell 3
  have vf3 := j2.frozen 3
  simp only [List.getElem?_toArray, List.getElem?_cons_zero, List.getElem?_cons_succ] at v0 v1 v2 v3
  refine bodyPost_ret (v := .tuple #[V (n / m), V (n % m), .int .i64 0]) ?_ rfl ⟨rfl, hB9.drew⟩
  simp [results, Try.results17, go_sem, u0, u1, u2, u3, v0, v1, v2, v3]
set_option maxRecDepth 100000 in
set_option maxHeartbeats 1000000 in
theorem div_long (n m : Nat) (hn : n < M256) (hm : m < M256) (h0 : 0 < m) (h64 : ¬ bl m ≤ 64) (w : World) :
    Calls Try.prog 17 #[V n, V m] w fun e w' => e = .returned (.tuple #[V (n / m), V (n % m), .int .i64 0]) ∧ Below w.heap.size w w' := by
  have hbits := fun w => bits m hm w
  have hb0 := (bl_ge m h0).2
  have hbe : ((bl m : Int) == 0) = false := by simp; omega
  have hbp : 0 < (bl m : Int) := by omega
  have hlong := fun w => divLong n m hn hm h0 w
  have h64i : ¬ (bl m : Int) ≤ 64 := by omega
  have Hn : Hid (n < M256) := hn
  have Hm : Hid (m < M256) := hm
  have H0 : Hid (0 < m) := h0
  clear hn hm h0 hb0
  go_enter Try.func17, Try.ntmps17
  go_upto_region 1 with fail
  have bA : Bk ((((w.alloc (.cells (A4 (lb n 0) (lb n 1) (lb n 2) (lb n 3)) 25)).alloc (.cells (A4 (lb m 0) (lb m 1) (lb m 2) (lb m 3)) 25)).alloc (.cells (A4 0 0 0 0) 25)).alloc (.cells (A4 0 0 0 0) 25)) w.heap.size (A4 (lb n 0) (lb n 1) (lb n 2) (lb n 3)) 25 := (((Bk.new _ _ _).alloc _).alloc _).alloc _
  have bM : Bk ((((w.alloc (.cells (A4 (lb n 0) (lb n 1) (lb n 2) (lb n 3)) 25)).alloc (.cells (A4 (lb m 0) (lb m 1) (lb m 2) (lb m 3)) 25)).alloc (.cells (A4 0 0 0 0) 25)).alloc (.cells (A4 0 0 0 0) 25)) (w.heap.size + 1) (A4 (lb m 0) (lb m 1) (lb m 2) (lb m 3)) 25 := ((Bk.new' _ _ _ (by simp)).alloc _).alloc _
  have bQ : Bk ((((w.alloc (.cells (A4 (lb n 0) (lb n 1) (lb n 2) (lb n 3)) 25)).alloc (.cells (A4 (lb m 0) (lb m 1) (lb m 2) (lb m 3)) 25)).alloc (.cells (A4 0 0 0 0) 25)).alloc (.cells (A4 0 0 0 0) 25)) (w.heap.size + 1 + 1) (A4 0 0 0 0) 25 := (Bk.new' _ _ _ (by simp)).alloc _
  have bR : Bk ((((w.alloc (.cells (A4 (lb n 0) (lb n 1) (lb n 2) (lb n 3)) 25)).alloc (.cells (A4 (lb m 0) (lb m 1) (lb m 2) (lb m 3)) 25)).alloc (.cells (A4 0 0 0 0) 25)).alloc (.cells (A4 0 0 0 0) 25)) (w.heap.size + 1 + 1 + 1) (A4 0 0 0 0) 25 := Bk.new' _ _ _ (by simp)
  have hB : Below w.heap.size w ((((w.alloc (.cells (A4 (lb n 0) (lb n 1) (lb n 2) (lb n 3)) 25)).alloc (.cells (A4 (lb m 0) (lb m 1) (lb m 2) (lb m 3)) 25)).alloc (.cells (A4 0 0 0 0) 25)).alloc (.cells (A4 0 0 0 0) 25)) := ((((Below.refl _ w).alloc (Nat.le_refl _) _).alloc (by simp) _).alloc (by simp; omega) _).alloc (by simp; omega) _
  have hsz : ((((w.alloc (.cells (A4 (lb n 0) (lb n 1) (lb n 2) (lb n 3)) 25)).alloc (.cells (A4 (lb m 0) (lb m 1) (lb m 2) (lb m 3)) 25)).alloc (.cells (A4 0 0 0 0) 25)).alloc (.cells (A4 0 0 0 0) 25)).heap.size = w.heap.size + 4 := by simp
  generalize ((((w.alloc (.cells (A4 (lb n 0) (lb n 1) (lb n 2) (lb n 3)) 25)).alloc (.cells (A4 (lb m 0) (lb m 1) (lb m 2) (lb m 3)) 25)).alloc (.cells (A4 0 0 0 0) 25)).alloc (.cells (A4 0 0 0 0) 25)) = w4 at *
  have m0 := bM.cell 0
  have mf0 := bM.frozen 0
  have m1 := bM.cell 1
  have mf1 := bM.frozen 1
  have m2 := bM.cell 2
  have mf2 := bM.frozen 2
  have m3 := bM.cell 3
  have mf3 := bM.frozen 3
  simp only [List.getElem?_toArray, List.getElem?_cons_zero, List.getElem?_cons_succ] at m0 m1 m2 m3
  go_upto_region 7 with (first | (go_at_call 28; refine (hbits _).mono ?_; rintro e w5 ⟨rfl, hb5⟩; have bA5 := bA.below hb5 bA.lt; have bM5 := bM.below hb5 bM.lt; have bQ5 := bQ.below hb5 bQ.lt; have bR5 := bR.below hb5 bR.lt; have a0 := bA5.cell 0; have af0 := bA5.frozen 0; have a1 := bA5.cell 1; have af1 := bA5.frozen 1; have a2 := bA5.cell 2; have af2 := bA5.frozen 2; have a3 := bA5.cell 3; have af3 := bA5.frozen 3; simp only [List.getElem?_toArray, List.getElem?_cons_zero, List.getElem?_cons_succ] at a0 a1 a2 a3; have b0 := bM5.cell 0; have bf0 := bM5.frozen 0; have b1 := bM5.cell 1; have bf1 := bM5.frozen 1; have b2 := bM5.cell 2; have bf2 := bM5.frozen 2; have b3 := bM5.cell 3; have bf3 := bM5.frozen 3; simp only [List.getElem?_toArray, List.getElem?_cons_zero, List.getElem?_cons_succ] at b0 b1 b2 b3) | (go_at_call 33; refine (hlong _).mono ?_; rintro e w6 ⟨rfl, hb6⟩; have bA6 := bA5.below hb6 bA5.lt; have bM6 := bM5.below hb6 bM5.lt; have bQ6 := bQ5.below hb6 bQ5.lt; have bR6 := bR5.below hb6 bR5.lt; have q0 := bQ6.cell 0; have qf0 := bQ6.frozen 0; have q1 := bQ6.cell 1; have qf1 := bQ6.frozen 1; have q2 := bQ6.cell 2; have qf2 := bQ6.frozen 2; have q3 := bQ6.cell 3; have qf3 := bQ6.frozen 3; simp only [List.getElem?_toArray, List.getElem?_cons_zero, List.getElem?_cons_succ] at q0 q1 q2 q3; have r0 := bR6.cell 0; have rf0 := bR6.frozen 0; have r1 := bR6.cell 1; have rf1 := bR6.frozen 1; have r2 := bR6.cell 2; have rf2 := bR6.frozen 2; have r3 := bR6.cell 3; have rf3 := bR6.frozen 3; simp only [List.getElem?_toArray, List.getElem?_cons_zero, List.getElem?_cons_succ] at r0 r1 r2 r3))
  have hB5 := hB.trans (hb5.mono (by omega))
  have hB6 := hB5.trans (hb6.mono (by have := hb5.size; omega))
  have k1 := set4_other (set4_Bk bQ6 (.int .u64 (lb (n / m) 0)) (.int .u64 (lb (n / m) 1)) (.int .u64 (lb (n / m) 2)) (.int .u64 (lb (n / m) 3))) (c := w.heap.size + 1 + 1 + 1) (by omega) (.int .u64 (lb (n % m) 0)) (.int .u64 (lb (n % m) 1)) (.int .u64 (lb (n % m) 2)) (.int .u64 (lb (n % m) 3))
  have k2 := set4_Bk (set4_other bR6 (c := w.heap.size + 1 + 1) (by omega) (.int .u64 (lb (n / m) 0)) (.int .u64 (lb (n / m) 1)) (.int .u64 (lb (n / m) 2)) (.int .u64 (lb (n / m) 3))) (.int .u64 (lb (n % m) 0)) (.int .u64 (lb (n % m) 1)) (.int .u64 (lb (n % m) 2)) (.int .u64 (lb (n % m) 3))
  have hB8 := set4_below (set4_below hB6 (b := w.heap.size + 1 + 1) (by omega) (.int .u64 (lb (n / m) 0)) (.int .u64 (lb (n / m) 1)) (.int .u64 (lb (n / m) 2)) (.int .u64 (lb (n / m) 3))) (b := w.heap.size + 1 + 1 + 1) (by omega) (.int .u64 (lb (n % m) 0)) (.int .u64 (lb (n % m) 1)) (.int .u64 (lb (n % m) 2)) (.int .u64 (lb (n % m) 3))
  generalize World.setCell _ _ _ = W8 at k1 k2 hB8 ⊢
  have s0 := k1.cell 0
  have sf0 := k1.frozen 0
  have s1 := k1.cell 1
  have sf1 := k1.frozen 1
  have s2 := k1.cell 2
  have sf2 := k1.frozen 2
  have s3 := k1.cell 3
  have sf3 := k1.frozen 3
  simp only [List.getElem?_toArray, List.getElem?_cons_zero, List.getElem?_cons_succ] at s0 s1 s2 s3
  have t0 := k2.cell 0
  have tf0 := k2.frozen 0
  have t1 := k2.cell 1
  have tf1 := k2.frozen 1
  have t2 := k2.cell 2
  have tf2 := k2.frozen 2
  have t3 := k2.cell 3
  have tf3 := k2.frozen 3
  simp only [List.getElem?_toArray, List.getElem?_cons_zero, List.getElem?_cons_succ] at t0 t1 t2 t3
  clear hbits bA bM bQ bR bA5 bM5 bQ5 bR5 bA6 bM6 bQ6 bR6 hb5 hb6
  go_region
  go_wp2
  have j1 := set4_other (set4_Bk k1 (.int .u64 (lb (n / m) 0)) (.int .u64 (lb (n / m) 1)) (.int .u64 (lb (n / m) 2)) (.int .u64 (lb (n / m) 3))) (c := w.heap.size + 1 + 1 + 1) (by omega) (.int .u64 (lb (n % m) 0)) (.int .u64 (lb (n % m) 1)) (.int .u64 (lb (n % m) 2)) (.int .u64 (lb (n % m) 3))
  have j2 := set4_Bk (set4_other k2 (c := w.heap.size + 1 + 1) (by omega) (.int .u64 (lb (n / m) 0)) (.int .u64 (lb (n / m) 1)) (.int .u64 (lb (n / m) 2)) (.int .u64 (lb (n / m) 3))) (.int .u64 (lb (n % m) 0)) (.int .u64 (lb (n % m) 1)) (.int .u64 (lb (n % m) 2)) (.int .u64 (lb (n % m) 3))
  have hB9 := set4_below (set4_below hB8 (b := w.heap.size + 1 + 1) (by omega) (.int .u64 (lb (n / m) 0)) (.int .u64 (lb (n / m) 1)) (.int .u64 (lb (n / m) 2)) (.int .u64 (lb (n / m) 3))) (b := w.heap.size + 1 + 1 + 1) (by omega) (.int .u64 (lb (n % m) 0)) (.int .u64 (lb (n % m) 1)) (.int .u64 (lb (n % m) 2)) (.int .u64 (lb (n % m) 3))
  generalize World.setCell _ _ _ = W9 at j1 j2 hB9 ⊢
  have u0 := j1.cell 0
  have uf0 := j1.frozen 0
  have u1 := j1.cell 1
  have uf1 := j1.frozen 1
  have u2 := j1.cell 2
  have uf2 := j1.frozen 2
  have u3 := j1.cell 3
  have uf3 := j1.frozen 3
  simp only [List.getElem?_toArray, List.getElem?_cons_zero, List.getElem?_cons_succ] at u0 u1 u2 u3
  have v0 := j2.cell 0
  have vf0 := j2.frozen 0
  have v1 := j2.cell 1
  have vf1 := j2.frozen 1
  have v2 := j2.cell 2
  have vf2 := j2.frozen 2
  have v3 := j2.cell 3
  have vf3 := j2.frozen 3
  simp only [List.getElem?_toArray, List.getElem?_cons_zero, List.getElem?_cons_succ] at v0 v1 v2 v3
  refine bodyPost_ret (v := .tuple #[V (n / m), V (n % m), .int .i64 0]) ?_ rfl ⟨rfl, hB9.drew⟩
  simp [results, Try.results17, go_sem, u0, u1, u2, u3, v0, v1, v2, v3]
/-- What u256.Div tells. -/
def divR (n m : Nat) : Nat := if m = 0 then 0 else n % m
def divE (m : Nat) : Int := if m = 0 then 3 else 0
theorem div (n m : Nat) (hn : n < M256) (hm : m < M256) (w : World) :
    Calls Try.prog 17 #[V n, V m] w fun e w' => e = .returned (.tuple #[V (n / m), V (divR n m), .int .i64 (divE m)]) ∧ Below w.heap.size w w' := by
  by_cases h0 : m = 0
  · subst h0
    have := div_zero n hn w
    simpa [divR, divE] using this
  · have e1 : divR n m = n % m := if_neg h0
    have e2 : divE m = 0 := if_neg h0
    rw [e1, e2]
    by_cases h64 : bl m ≤ 64
    · exact div_limb n m hn hm (by omega) h64 w
    · exact div_long n m hn hm (by omega) h64 w
theorem div_lt {n m : Nat} (hn : n < M256) : n / m < M256 := Nat.lt_of_le_of_lt (Nat.div_le_self _ _) hn
theorem divR_lt {n m : Nat} (hn : n < M256) : divR n m < M256 := by
  unfold divR; split
  · decide
  · exact Nat.lt_of_le_of_lt (Nat.mod_le _ _) hn
end Go.Proofs.Ytljfenjpnanoiaa

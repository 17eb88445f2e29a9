import Derived.Test.YtljfenjpnanoiaaD64
import Derived.Test.YtljfenjpnanoiaaHalf
import Derived.Test.YtljfenjpnanoiaaBits
import Derived.Test.YtljfenjpnanoiaaWakes
set_option linter.unusedSimpArgs false
set_option linter.unusedVariables false
namespace Go.Proofs.Ytljfenjpnanoiaa
open Go.RowKit Go.Shelf
attribute [local go_sem] Oper.semAt_some

/-! A number by one limb, limb by limb, from the highest on. -/
def lbN (n i : Nat) : Nat := n / 2 ^ (64 * i) % 18446744073709551616
theorem lbN_lt (n i : Nat) : lbN n i < 18446744073709551616 := Nat.mod_lt _ (by omega)
/-- What is left when the limbs of 'l' (the last one first) are done; what stands in limb p of the quotient then. -/
def dRest (N y : Nat) : List K4 → Nat
  | [] => 0
  | x :: t => (dRest N y t * 18446744073709551616 + lbN N x.1) % y
def dQuo (N y : Nat) : List K4 → Nat → Nat
  | [], _ => 0
  | x :: t, p => if p = x.1 then (dRest N y t * 18446744073709551616 + lbN N x.1) / y else dQuo N y t p
theorem dRest_lt (N y : Nat) (hy : 0 < y) (l : List K4) : dRest N y l < y := by
  cases l with
  | nil => exact hy
  | cons x t => exact Nat.mod_lt _ hy
theorem dQ_lt (r l y : Nat) (hr : r < y) (hl : l < 18446744073709551616) : (r * 18446744073709551616 + l) / y < 18446744073709551616 := (Nat.div_lt_iff_lt_mul (by omega)).2 (by omega)
theorem limb_math (N y l0 l1 l2 l3 Q0 Q1 Q2 Q3 R0 R1 R2 R3 : Nat) (hy : 0 < y) (hv : val (l0 : Int) (l1 : Int) (l2 : Int) (l3 : Int) = (N : Int)) (m0 : R0 < y)
    (q0 : Q0 < 18446744073709551616) (q1 : Q1 < 18446744073709551616) (q2 : Q2 < 18446744073709551616) (q3 : Q3 < 18446744073709551616)
    (d3 : y * Q3 + R3 = l3) (d2 : y * Q2 + R2 = R3 * 18446744073709551616 + l2) (d1 : y * Q1 + R1 = R2 * 18446744073709551616 + l1) (d0 : y * Q0 + R0 = R1 * 18446744073709551616 + l0) :
    ((Q0 : Int) = lb (N / y) 0 ∧ (Q1 : Int) = lb (N / y) 1 ∧ (Q2 : Int) = lb (N / y) 2 ∧ (Q3 : Int) = lb (N / y) 3) ∧ R0 = N % y := by
  have hN' : N = y * (Q0 + Q1 * 18446744073709551616 + Q2 * 340282366920938463463374607431768211456 + Q3 * 6277101735386680763835789423207666416102355444464034512896) + R0 := by
    rw [Nat.mul_add, Nat.mul_add, Nat.mul_add, ← Nat.mul_assoc, ← Nat.mul_assoc, ← Nat.mul_assoc]
    generalize y * Q0 = p0 at *
    generalize y * Q1 = p1 at *
    generalize y * Q2 = p2 at *
    generalize y * Q3 = p3 at *
    unfold val at hv
    clear q0 q1 q2 q3 m0
    omega
  have hQ : N / y = Q0 + Q1 * 18446744073709551616 + Q2 * 340282366920938463463374607431768211456 + Q3 * 6277101735386680763835789423207666416102355444464034512896 := by
    rw [hN', Nat.mul_add_div hy, Nat.div_eq_of_lt m0, Nat.add_zero]
  have hR : N % y = R0 := by rw [hN', Nat.mul_add_mod, Nat.mod_eq_of_lt m0]
  refine ⟨lb_of (N / y) (Q0 : Int) (Q1 : Int) (Q2 : Int) (Q3 : Int) (by unfold Lim; omega) ?_, hR.symm⟩
  rw [hQ]
  unfold val
  clear hN' hv hQ hR d0 d1 d2 d3
  omega
theorem limb_end (N y : Nat) (hN : N < M256) (hy : 0 < y) : (∀ p, p < 4 → ((dQuo N y (dn 4).reverse p : Nat) : Int) = lb (N / y) p) ∧ dRest N y (dn 4).reverse = N % y := by
  have e : (dn 4).reverse = [⟨0, by omega⟩, ⟨1, by omega⟩, ⟨2, by omega⟩, ⟨3, by omega⟩] := rfl
  have b0 := lbN_lt N 0
  have b1 := lbN_lt N 1
  have b2 := lbN_lt N 2
  have b3 := lbN_lt N 3
  have hz : dRest N y [] * 18446744073709551616 + lbN N 3 = lbN N 3 := by simp [dRest]
  have m3 := dRest_lt N y hy [⟨3, by omega⟩]
  have m2 := dRest_lt N y hy [⟨2, by omega⟩, ⟨3, by omega⟩]
  have m1 := dRest_lt N y hy [⟨1, by omega⟩, ⟨2, by omega⟩, ⟨3, by omega⟩]
  have m0 := dRest_lt N y hy [⟨0, by omega⟩, ⟨1, by omega⟩, ⟨2, by omega⟩, ⟨3, by omega⟩]
  have d3 := Nat.div_add_mod (dRest N y [] * 18446744073709551616 + lbN N 3) y
  have d2 := Nat.div_add_mod (dRest N y [⟨3, by omega⟩] * 18446744073709551616 + lbN N 2) y
  have d1 := Nat.div_add_mod (dRest N y [⟨2, by omega⟩, ⟨3, by omega⟩] * 18446744073709551616 + lbN N 1) y
  have d0 := Nat.div_add_mod (dRest N y [⟨1, by omega⟩, ⟨2, by omega⟩, ⟨3, by omega⟩] * 18446744073709551616 + lbN N 0) y
  have q3 := dQ_lt (dRest N y []) (lbN N 3) y hy b3
  have q2 := dQ_lt _ (lbN N 2) y m3 b2
  have q1 := dQ_lt _ (lbN N 1) y m2 b1
  have q0 := dQ_lt _ (lbN N 0) y m1 b0
  obtain ⟨⟨f0, f1, f2, f3⟩, fr⟩ := limb_math N y (lbN N 0) (lbN N 1) (lbN N 2) (lbN N 3) _ _ _ _ _ _ _ _ hy (lb_val N hN) m0 q0 q1 q2 q3 (d3.trans hz) d2 d1 d0
  rw [e]
  refine ⟨fun p hp => ?_, fr⟩
  have : p = 0 ∨ p = 1 ∨ p = 2 ∨ p = 3 := by omega
  rcases this with rfl | rfl | rfl | rfl
  · exact f0
  · exact f1
  · exact f2
  · exact f3
theorem koDrewN (W : World) (n : Nat) : KeepsOthers W (W.drewN n) := ⟨Nat.le_refl _, fun _ _ h _ => h⟩
theorem k2DrewN (b Bs : Nat) (W : World) (n : Nat) : Keep2 b Bs W (W.drewN n) := ⟨fun _ => rfl, rfl⟩
/-- Two blocks of four limbs, written limb by limb. -/
theorem set8_cells {W : World} {b c : Nat} (hbc : b ≠ c) {x0 x1 x2 x3 y0 y1 y2 y3 : Value} (u0 u1 u2 u3 v0 v1 v2 v3 : Value) (h0 : W.cell? ⟨b, 0, none⟩ = some x0) (h1 : W.cell? ⟨b, 1, none⟩ = some x1) (h2 : W.cell? ⟨b, 2, none⟩ = some x2) (h3 : W.cell? ⟨b, 3, none⟩ = some x3) (k0 : W.cell? ⟨c, 0, none⟩ = some y0) (k1 : W.cell? ⟨c, 1, none⟩ = some y1) (k2 : W.cell? ⟨c, 2, none⟩ = some y2) (k3 : W.cell? ⟨c, 3, none⟩ = some y3) (W' : World)
    (e : W' = ((((((((W.setCell ⟨b, 0, none⟩ u0).setCell ⟨b, 1, none⟩ u1).setCell ⟨b, 2, none⟩ u2).setCell ⟨b, 3, none⟩ u3).setCell ⟨c, 0, none⟩ v0).setCell ⟨c, 1, none⟩ v1).setCell ⟨c, 2, none⟩ v2).setCell ⟨c, 3, none⟩ v3)) :
    (W'.cell? ⟨b, 0, none⟩ = some u0 ∧ W'.cell? ⟨b, 1, none⟩ = some u1 ∧ W'.cell? ⟨b, 2, none⟩ = some u2 ∧ W'.cell? ⟨b, 3, none⟩ = some u3) ∧ (W'.cell? ⟨c, 0, none⟩ = some v0 ∧ W'.cell? ⟨c, 1, none⟩ = some v1 ∧ W'.cell? ⟨c, 2, none⟩ = some v2 ∧ W'.cell? ⟨c, 3, none⟩ = some v3) := by
  subst e
  obtain ⟨a0, a1, a2, a3⟩ := set4_cells u0 u1 u2 u3 h0 h1 h2 h3
  have hcb : c ≠ b := fun h => hbc h.symm
  generalize hW : (((W.setCell ⟨b, 0, none⟩ u0).setCell ⟨b, 1, none⟩ u1).setCell ⟨b, 2, none⟩ u2).setCell ⟨b, 3, none⟩ u3 = W4 at *
  have n0 : W4.cell? ⟨c, 0, none⟩ = some y0 := by rw [← hW, cellO (by simp [hbc]), cellO (by simp [hbc]), cellO (by simp [hbc]), cellO (by simp [hbc]), k0]
  have n1 : W4.cell? ⟨c, 1, none⟩ = some y1 := by rw [← hW, cellO (by simp [hbc]), cellO (by simp [hbc]), cellO (by simp [hbc]), cellO (by simp [hbc]), k1]
  have n2 : W4.cell? ⟨c, 2, none⟩ = some y2 := by rw [← hW, cellO (by simp [hbc]), cellO (by simp [hbc]), cellO (by simp [hbc]), cellO (by simp [hbc]), k2]
  have n3 : W4.cell? ⟨c, 3, none⟩ = some y3 := by rw [← hW, cellO (by simp [hbc]), cellO (by simp [hbc]), cellO (by simp [hbc]), cellO (by simp [hbc]), k3]
  refine ⟨⟨?_, ?_, ?_, ?_⟩, set4_cells v0 v1 v2 v3 n0 n1 n2 n3⟩
  all_goals rw [cellO (by simp [hcb]), cellO (by simp [hcb]), cellO (by simp [hcb]), cellO (by simp [hcb])]
  · exact a0
  · exact a1
  · exact a2
  · exact a3
set_option maxRecDepth 100000 in
set_option maxHeartbeats 2000000 in
theorem divLimb (N y : Nat) (hN : N < M256) (hy0 : 0 < y) (hy : y < 18446744073709551616) (w : World) :
    Calls Try.prog 32 #[V N, .int .u64 (y : Int)] w fun e W' => e = .returned (.tuple #[V (N / y), V (N % y)]) ∧ Below w.heap.size w W' := by
  have HN : Hid (N < M256) := hN
  have Hy0 : Hid (0 < y) := hy0
  have Hy : Hid (y < 18446744073709551616) := hy
  clear hN hy0 hy
  refine (callsIn_wide (n := 6)).1 ?_
  refine callsIn_of_wp_marks Try.func32 rfl trivial ?_ rfl
  simp only [Try.ntmps32, List.size_toArray, List.length_cons, List.length_nil, Nat.reduceAdd, Nat.reduceSub, Array.replicate_succ, Array.replicate_zero, List.push_toArray, List.append_toArray, List.nil_append, List.cons_append]
  gi_wp2_with (refine ⟨trivial, ?_⟩; gi_at_call 35; refine (back_in _ _ trivial rfl _ _ _ _).mono ?_; rintro e w' ⟨rfl, rfl⟩)
  have bA := Bk.new w (A4 (lb N 0) (lb N 1) (lb N 2) (lb N 3)) 25
  have bY := Bk.new (w.alloc (.cells (A4 (lb N 0) (lb N 1) (lb N 2) (lb N 3)) 25)) #[.int .u64 (y : Int)] 23
  have bQ := Bk.new ((w.alloc (.cells (A4 (lb N 0) (lb N 1) (lb N 2) (lb N 3)) 25)).alloc (.cells #[.int .u64 (y : Int)] 23)) (A4 0 0 0 0) 25
  have bR := Bk.new (((w.alloc (.cells (A4 (lb N 0) (lb N 1) (lb N 2) (lb N 3)) 25)).alloc (.cells #[.int .u64 (y : Int)] 23)).alloc (.cells (A4 0 0 0 0) 25)) (A4 0 0 0 0) 25
  have bO := Bk.new ((((w.alloc (.cells (A4 (lb N 0) (lb N 1) (lb N 2) (lb N 3)) 25)).alloc (.cells #[.int .u64 (y : Int)] 23)).alloc (.cells (A4 0 0 0 0) 25)).alloc (.cells (A4 0 0 0 0) 25)) #[.int .u64 0] 23
  have bN := Bk.new (((((w.alloc (.cells (A4 (lb N 0) (lb N 1) (lb N 2) (lb N 3)) 25)).alloc (.cells #[.int .u64 (y : Int)] 23)).alloc (.cells (A4 0 0 0 0) 25)).alloc (.cells (A4 0 0 0 0) 25)).alloc (.cells #[.int .u64 0] 23)) #[.slice (some ⟨w.heap.size, 0, none⟩) 4 4] 57
  simp only [World.size_alloc] at bY bQ bR bO bN
  have hB0 : Below w.heap.size w ((((((w.alloc (.cells (A4 (lb N 0) (lb N 1) (lb N 2) (lb N 3)) 25)).alloc (.cells #[.int .u64 (y : Int)] 23)).alloc (.cells (A4 0 0 0 0) 25)).alloc (.cells (A4 0 0 0 0) 25)).alloc (.cells #[.int .u64 0] 23)).alloc (.cells #[.slice (some ⟨w.heap.size, 0, none⟩) 4 4] 57)) := ((((((Below.refl _ w).alloc (Nat.le_refl _) _).alloc (by simp) _).alloc (by simp; omega) _).alloc (by simp; omega) _).alloc (by simp; omega) _).alloc (by simp; omega) _
  refine wpIn_rangeFunc_ownG rfl (by omega) (gf := 47) (lb := #[.pointer (some ⟨w.heap.size + 1 + 1 + 1 + 1 + 1, 0, none⟩)]) rfl trivial (enters_of Try.func47 (by kernel_rfl) rfl)
    (backk_stops _ _ trivial rfl (by omega) (w.heap.size + 1 + 1 + 1 + 1 + 1) w.heap.size N _ (by simp; omega) (by simp) (bN.cell 0) (fun j hj => lb_cells (((((bA.alloc _).alloc _).alloc _).alloc _).alloc _) j hj)) Keep2.trans (keep2_b (by simp; omega) (by simp)) (Below.refl _ _) (fun _ => rfl)
    (fun pre W => ((∀ p, p < 4 → W.cell? ⟨w.heap.size + 1 + 1, p, none⟩ = some (.int .u64 (dQuo N y pre.reverse p : Nat)) ∧ W.frozen? ⟨w.heap.size + 1 + 1, p, none⟩ = false) ∧ (W.cell? ⟨w.heap.size + 1 + 1 + 1 + 1, 0, none⟩ = some (.int .u64 (dRest N y pre.reverse : Nat)) ∧ W.frozen? ⟨w.heap.size + 1 + 1 + 1 + 1, 0, none⟩ = false) ∧ (∀ p, p < 4 → W.cell? ⟨w.heap.size + 1 + 1 + 1, p, none⟩ = some (.int .u64 0) ∧ W.frozen? ⟨w.heap.size + 1 + 1 + 1, p, none⟩ = false) ∧ (W.cell? ⟨w.heap.size + 1, 0, none⟩ = some (.int .u64 (y : Int)))) ∧ Below w.heap.size w W)
    (fun _ _ _ => False)
    (OwnFrom.and (Own.from (fun s A B row hs hg hr => ⟨fun p hp => ⟨cell_kept (hs.1 p hp).1 hg hr, (frozen_kept (hs.1 p hp).1 hg hr).trans (hs.1 p hp).2⟩, ⟨cell_kept hs.2.1.1 hg hr, (frozen_kept hs.2.1.1 hg hr).trans hs.2.1.2⟩, fun p hp => ⟨cell_kept (hs.2.2.1 p hp).1 hg hr, (frozen_kept (hs.2.2.1 p hp).1 hg hr).trans (hs.2.2.1 p hp).2⟩, cell_kept hs.2.2.2 hg hr⟩) _) (ownFrom_below (Nat.le_refl _) (by simp; omega)))
    (fun _ _ _ _ _ hs _ _ => hs)
    ⟨⟨fun p hp => ⟨zero_cell (((bQ.alloc _).alloc _).alloc _) p hp, (((bQ.alloc _).alloc _).alloc _).frozen p⟩, ⟨(bO.alloc _).cell 0, (bO.alloc _).frozen 0⟩, fun p hp => ⟨zero_cell ((bR.alloc _).alloc _) p hp, ((bR.alloc _).alloc _).frozen p⟩, ((((bY.alloc _).alloc _).alloc _).alloc _).cell 0⟩, hB0⟩
    (fun x => { tmps := #[V N, .int .u64 (y : Int), .pointer (some ⟨w.heap.size, 0, none⟩), .pointer (some ⟨w.heap.size + 1, 0, none⟩), .pointer (some ⟨w.heap.size + 1 + 1, 0, none⟩), .pointer (some ⟨w.heap.size + 1 + 1 + 1, 0, none⟩), .pointer (some ⟨w.heap.size + 1 + 1 + 1 + 1, 0, none⟩), .int .i64 (x.1 : Int), .int .u64 (lb N x.1), .slice (some ⟨w.heap.size, 0, none⟩) 4 4, .func (.func 47) #[] #[.pointer (some ⟨w.heap.size + 1 + 1 + 1 + 1 + 1, 0, none⟩)], .int .i64 (x.1 : Int), .int .u64 (lb N x.1), undef, undef, undef, undef, undef, undef, undef, undef, undef, undef, undef, undef], defers := [] }) ?assign ?body ?done ?stop
  case assign =>
    intro l x W K hK
    gi_wp2
    exact hK
  case body =>
    rintro l pre x W ⟨⟨hd, ⟨ho, hof⟩, hr, hy1⟩, hB⟩ _
    have hx4 := x.2
    have hdx := (hd x.1 x.2).1
    have hdf := (hd x.1 x.2).2
    have HD : Hid (∀ p, p < 4 → W.cell? ⟨w.heap.size + 1 + 1, p, none⟩ = some (.int .u64 (dQuo N y pre.reverse p : Nat)) ∧ W.frozen? ⟨w.heap.size + 1 + 1, p, none⟩ = false) := hd
    have HR : Hid (∀ p, p < 4 → W.cell? ⟨w.heap.size + 1 + 1 + 1, p, none⟩ = some (.int .u64 0) ∧ W.frozen? ⟨w.heap.size + 1 + 1 + 1, p, none⟩ = false) := hr
    have hdiv : ∀ w, Calls Try.prog 44 #[.int .u64 (dRest N y pre.reverse : Nat), .int .u64 (lb N x.1), .int .u64 (y : Int)] w fun e w' => e = .returned (.tuple #[.int .u64 ((dRest N y pre.reverse * 18446744073709551616 + lbN N x.1) / y : Nat), .int .u64 ((dRest N y pre.reverse * 18446744073709551616 + lbN N x.1) % y : Nat)]) ∧ ∃ n, w' = w.drewN n := fun w => div64 _ (lbN N x.1) y w (lbN_lt _ _) (dRest_lt N y Hy0.out _) Hy.out
    have e1 : (x :: pre.reverse) = (pre ++ [x]).reverse := by simp
    have eq1 : dRest N y (pre ++ [x]).reverse = (dRest N y pre.reverse * 18446744073709551616 + lbN N x.1) % y := by rw [← e1]; rfl
    have eq2 : ∀ p, dQuo N y (pre ++ [x]).reverse p = if p = x.1 then (dRest N y pre.reverse * 18446744073709551616 + lbN N x.1) / y else dQuo N y pre.reverse p := fun p => by rw [← e1]; rfl
    obtain ⟨q, hq⟩ : ∃ q, q = (dRest N y pre.reverse * 18446744073709551616 + lbN N x.1) / y := ⟨_, rfl⟩
    obtain ⟨r, hr'⟩ : ∃ r, r = (dRest N y pre.reverse * 18446744073709551616 + lbN N x.1) % y := ⟨_, rfl⟩
    rw [← hq, ← hr'] at hdiv
    rw [← hr'] at eq1
    simp only [← hq] at eq2
    have E1 : Hid (dRest N y (pre ++ [x]).reverse = r) := eq1
    have E2 : Hid (∀ p, dQuo N y (pre ++ [x]).reverse p = if p = x.1 then q else dQuo N y pre.reverse p) := eq2
    have HV : Hid (∀ w, Calls Try.prog 44 #[.int .u64 (dRest N y pre.reverse : Nat), .int .u64 (lb N x.1), .int .u64 (y : Int)] w fun e w' => e = .returned (.tuple #[.int .u64 (q : Int), .int .u64 (r : Int)]) ∧ ∃ n, w' = w.drewN n) := hdiv
    clear hd hr hdiv e1 eq1 eq2 hq hr'
    gi_wp2_with (refine ⟨trivial, ?_⟩; gi_at_call 44; refine (CallsIn.inRound l (callsIn_wide.2 (HV.out _))).mono ?_; rintro e w' ⟨rfl, nq, rfl⟩)
    refine ⟨(((koDrewN W nq).from _).trans ((KeepsOthers.setCell _ _ _).from _)).trans ((KeepsOthers.setCell _ _ _).from _), ((k2DrewN _ _ W nq).set (by simp; omega) (by simp; omega) _).set (by simp; omega) (by simp) _, ⟨?_, ?_, ?_, ?_⟩, ((bdrewN hB nq).setCell (by simp; omega) _).setCell (by simp; omega) _⟩
    · intro p hp
      refine ⟨?_, by simpa using (HD.out p hp).2⟩
      rw [cellO (by simp), E2.out]
      by_cases h : p = x.1
      · subst h
        rw [World.cell?_setCell_same' _ _ _ (by simpa using hdx ▸ rfl)]
        simp
      · rw [cellO (by simp <;> omega)]
        simpa [h] using (HD.out p hp).1
    · refine ⟨?_, by simpa using hof⟩
      rw [World.cell?_setCell_same' _ _ _ (by rw [cellO (by simp)]; simp [ho]), E1.out]
    · intro p hp
      refine ⟨?_, by simpa using (HR.out p hp).2⟩
      rw [cellO (by simp <;> omega), cellO (by simp)]
      exact (HR.out p hp).1
    · rw [cellO (by simp <;> omega), cellO (by simp)]
      exact hy1
  case done =>
    rintro D ys W hD rfl ⟨⟨hd, ⟨ho, hof⟩, hr, hy1⟩, hB⟩ hK
    obtain ⟨hq4, hre⟩ := limb_end N y HN.out Hy0.out
    have d0 := (hd 0 (by omega)).1
    have df0 := (hd 0 (by omega)).2
    have d1 := (hd 1 (by omega)).1
    have df1 := (hd 1 (by omega)).2
    have d2 := (hd 2 (by omega)).1
    have df2 := (hd 2 (by omega)).2
    have d3 := (hd 3 (by omega)).1
    have df3 := (hd 3 (by omega)).2
    rw [hq4 _ (by omega)] at d0 d1 d2 d3
    rw [hre] at ho
    have r0 := (hr 0 (by omega)).1
    have rf0 := (hr 0 (by omega)).2
    have r1 := (hr 1 (by omega)).1
    have rf1 := (hr 1 (by omega)).2
    have r2 := (hr 2 (by omega)).1
    have rf2 := (hr 2 (by omega)).2
    have r3 := (hr 3 (by omega)).1
    have rf3 := (hr 3 (by omega)).2
    clear hd hr hq4 hre
    gi_wp2
    gi_region
    gi_wp2
    generalize hW8 : ((((((((W.setCell ⟨w.heap.size + 1 + 1, 0, none⟩ (.int .u64 (lb (N / y) 0))).setCell ⟨w.heap.size + 1 + 1, 1, none⟩ (.int .u64 (lb (N / y) 1))).setCell ⟨w.heap.size + 1 + 1, 2, none⟩ (.int .u64 (lb (N / y) 2))).setCell ⟨w.heap.size + 1 + 1, 3, none⟩ (.int .u64 (lb (N / y) 3))).setCell ⟨w.heap.size + 1 + 1 + 1, 0, none⟩ (.int .u64 ((N : Int) % (y : Int)))).setCell ⟨w.heap.size + 1 + 1 + 1, 1, none⟩ (.int .u64 0)).setCell ⟨w.heap.size + 1 + 1 + 1, 2, none⟩ (.int .u64 0)).setCell ⟨w.heap.size + 1 + 1 + 1, 3, none⟩ (.int .u64 0)) = W8
    obtain ⟨⟨c0, c1, c2, c3⟩, g0, g1, g2, g3⟩ := set8_cells (by omega) _ _ _ _ _ _ _ _ d0 d1 d2 d3 r0 r1 r2 r3 W8 hW8.symm
    have hK8 : W8.heap[D]? = W.heap[D]? := by rw [← hW8, hK]; exact setDef (setDef (setDef (setDef (setDef (setDef (setDef (setDef hK rfl _ _) rfl _ _) rfl _ _) rfl _ _) rfl _ _) rfl _ _) rfl _ _) rfl _ _
    have hB8 : Below w.heap.size w W8 := by rw [← hW8]; exact (((((((hB.setCell (by simp; omega) _).setCell (by simp; omega) _).setCell (by simp; omega) _).setCell (by simp; omega) _).setCell (by simp; omega) _).setCell (by simp; omega) _).setCell (by simp; omega) _).setCell (by simp; omega) _
    clear hW8
    have hK' := hK8.trans hK
    have hK' := (show W8.drew.heap[D]? = W8.heap[D]? from rfl).trans hK'
    refine ⟨by simp, .inl ⟨_, _, rfl, run_takeDeferred hK', ?_⟩⟩
    have e0 := cell_kept (W := W8.drew) c0 (grownBy_putObj' _ D (.deferred none)) (fun r e => by cases e; exact ⟨_, hK', rfl⟩)
    have e1 := cell_kept (W := W8.drew) c1 (grownBy_putObj' _ D (.deferred none)) (fun r e => by cases e; exact ⟨_, hK', rfl⟩)
    have e2 := cell_kept (W := W8.drew) c2 (grownBy_putObj' _ D (.deferred none)) (fun r e => by cases e; exact ⟨_, hK', rfl⟩)
    have e3 := cell_kept (W := W8.drew) c3 (grownBy_putObj' _ D (.deferred none)) (fun r e => by cases e; exact ⟨_, hK', rfl⟩)
    have j0 := cell_kept (W := W8.drew) g0 (grownBy_putObj' _ D (.deferred none)) (fun r e => by cases e; exact ⟨_, hK', rfl⟩)
    have j1 := cell_kept (W := W8.drew) g1 (grownBy_putObj' _ D (.deferred none)) (fun r e => by cases e; exact ⟨_, hK', rfl⟩)
    have j2 := cell_kept (W := W8.drew) g2 (grownBy_putObj' _ D (.deferred none)) (fun r e => by cases e; exact ⟨_, hK', rfl⟩)
    have j3 := cell_kept (W := W8.drew) g3 (grownBy_putObj' _ D (.deferred none)) (fun r e => by cases e; exact ⟨_, hK', rfl⟩)
    have hVr : V (N % y) = .agg (A4 ((N : Int) % (y : Int)) 0 0 0) := by
      have := V_small (N % y) (by have := Nat.mod_lt N Hy0.out; have := Hy.out; omega)
      rw [this, Int.natCast_emod]
    refine ⟨.tuple #[V (N / y), V (N % y)], ?_, rfl, hB8.drew.trans (belowK_b (w := w) (Nat.le_refl _) _ D _ _ (by simp at hD; omega) hK' rfl rfl)⟩
    rw [hVr]
    simp [results, Try.f32, go_sem, e0, e1, e2, e3, j0, j1, j2, j3]
    try rfl
  case stop =>
    rintro D c pre W _ _ h _
    exact h.elim
end Go.Proofs.Ytljfenjpnanoiaa

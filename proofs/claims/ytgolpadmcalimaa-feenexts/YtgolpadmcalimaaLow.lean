import Derived.Test.YtgolpadmcalimaaRBits
import Derived.Test.YtgolpadmcalimaaBlk
import Derived.Test.YtgolpadmcalimaaRMulM
import Derived.Deep.RegionWith
import Derived.Deep.DeepCutAuto
set_option linter.unusedSimpArgs false
set_option linter.unusedVariables false
namespace Go.Proofs.Ytgolpadmcalimaa
open Go.RowKit

/-! Twice a number, without what is over. -/
def lw (n k : Nat) : Int := lb (2 * n % M256) k
def lowArr (n : Nat) : Nat → Array Value
  | 4 => (A4 0 0 0 0)
  | 3 => (A4 0 0 0 (lw n 3))
  | 2 => (A4 0 0 (lw n 2) (lw n 3))
  | 1 => (A4 0 (lw n 1) (lw n 2) (lw n 3))
  | _ => (A4 (lw n 0) (lw n 1) (lw n 2) (lw n 3))
theorem low_val (n : Nat) (hn : n < M256) : lw n 0 = lb n 0 * 2 % 18446744073709551616 ∧ lw n 1 = lb n 1 * 2 % 18446744073709551616 + lb n 0 / 9223372036854775808 ∧ lw n 2 = lb n 2 * 2 % 18446744073709551616 + lb n 1 / 9223372036854775808 ∧ lw n 3 = lb n 3 * 2 % 18446744073709551616 + lb n 2 / 9223372036854775808 := by
  have hl := lb_lim n
  have hv := lb_val n hn
  unfold lw
  have key : val (lb n 0 * 2 % 18446744073709551616) (lb n 1 * 2 % 18446744073709551616 + lb n 0 / 9223372036854775808) (lb n 2 * 2 % 18446744073709551616 + lb n 1 / 9223372036854775808) (lb n 3 * 2 % 18446744073709551616 + lb n 2 / 9223372036854775808) = ((2 * n % M256 : Nat) : Int) := by
    unfold val Lim M256 at *; omega
  obtain ⟨e0, e1, e2, e3⟩ := lb_of (2 * n % M256) _ _ _ _ (by unfold Lim at *; omega) key
  exact ⟨e0.symm, e1.symm, e2.symm, e3.symm⟩
theorem low_or (a b : Int) (ha : 0 ≤ a ∧ a < 18446744073709551616) (hb : 0 ≤ b ∧ b < 18446744073709551616) : Go.bits BinOp.or IntKind.u64 (IntKind.u64.wrap (a * 2)) (b / 9223372036854775808) = a * 2 % 18446744073709551616 + b / 9223372036854775808 := by
  obtain ⟨x, rfl⟩ := Int.eq_ofNat_of_zero_le ha.1
  obtain ⟨y, rfl⟩ := Int.eq_ofNat_of_zero_le hb.1
  have e1 : IntKind.u64.wrap ((x : Int) * 2) = ((x * 2 % 18446744073709551616 : Nat) : Int) := by rw [IntKind.wrap_u64]; omega
  have e2 : (y : Int) / 9223372036854775808 = ((y / 9223372036854775808 : Nat) : Int) := by omega
  rw [e1, e2, bits_or_u64_nat _ _ (by omega) (by omega), Nat.or_comm]
  have h1 : y / 9223372036854775808 < 2 ^ 1 := by omega
  have h2 : x * 2 % 18446744073709551616 = (x % 9223372036854775808) * 2 ^ 1 := by omega
  rw [h2, Nat.or_comm, Nat.mul_comm, (Nat.two_pow_add_eq_or_of_lt h1 _).symm]
  omega
theorem low0 (n : Nat) (hn : n < M256) : IntKind.u64.wrap (lb n 0 * 2) = lw n 0 := by
  rw [(low_val n hn).1, IntKind.wrap_u64]
theorem low1 (n : Nat) (hn : n < M256) : Go.bits BinOp.or IntKind.u64 (IntKind.u64.wrap (lb n 1 * 2)) (lb n 0 / 9223372036854775808) = lw n 1 := by
  rw [(low_val n hn).2.1, low_or _ _ (lb_bd n 1) (lb_bd n 0)]
theorem low2 (n : Nat) (hn : n < M256) : Go.bits BinOp.or IntKind.u64 (IntKind.u64.wrap (lb n 2 * 2)) (lb n 1 / 9223372036854775808) = lw n 2 := by
  rw [(low_val n hn).2.2.1, low_or _ _ (lb_bd n 2) (lb_bd n 1)]
theorem low3 (n : Nat) (hn : n < M256) : Go.bits BinOp.or IntKind.u64 (IntKind.u64.wrap (lb n 3 * 2)) (lb n 2 / 9223372036854775808) = lw n 3 := by
  rw [(low_val n hn).2.2.2, low_or _ _ (lb_bd n 3) (lb_bd n 2)]
set_option maxRecDepth 100000 in
set_option maxHeartbeats 1000000 in
theorem low (n : Nat) (hn : n < M256) (w : World) :
    Calls Try.prog 47 #[V n] w fun e w' => e = .returned (.tuple #[V (2 * n % M256), .bool (bitAt n 255)]) ∧ Below w.heap.size w w' := by
  have Hn : Hid (n < M256) := hn
  clear hn
  go_enter Try.func47, Try.ntmps47
  go_wp2_with fail
  have bA : Bk (((w.alloc (.cells (A4 (lb n 0) (lb n 1) (lb n 2) (lb n 3)) 25)).alloc (.cells (A4 0 0 0 0) 25)).alloc (.cells (A4 0 0 0 0) 25)) w.heap.size (A4 (lb n 0) (lb n 1) (lb n 2) (lb n 3)) 25 := ((Bk.new _ _ _).alloc _).alloc _
  have bR : Bk (((w.alloc (.cells (A4 (lb n 0) (lb n 1) (lb n 2) (lb n 3)) 25)).alloc (.cells (A4 0 0 0 0) 25)).alloc (.cells (A4 0 0 0 0) 25)) (w.heap.size + 1) (A4 0 0 0 0) 25 := (Bk.new' _ _ _ (by simp)).alloc _
  have bX : Bk (((w.alloc (.cells (A4 (lb n 0) (lb n 1) (lb n 2) (lb n 3)) 25)).alloc (.cells (A4 0 0 0 0) 25)).alloc (.cells (A4 0 0 0 0) 25)) (w.heap.size + 1 + 1) (A4 0 0 0 0) 25 := Bk.new' _ _ _ (by simp)
  have hB : Below w.heap.size w (((w.alloc (.cells (A4 (lb n 0) (lb n 1) (lb n 2) (lb n 3)) 25)).alloc (.cells (A4 0 0 0 0) 25)).alloc (.cells (A4 0 0 0 0) 25)) := (((Below.refl _ w).alloc (Nat.le_refl _) _).alloc (by simp) _).alloc (by simp; omega) _
  go_loopw [5] (fun k wr => ∃ j : Nat, j ≤ 4 ∧ k = .int .i64 ((j : Int) - 1) ∧ Bk wr w.heap.size (A4 (lb n 0) (lb n 1) (lb n 2) (lb n 3)) 25 ∧ Bk wr (w.heap.size + 1) (A4 0 0 0 0) 25 ∧ Bk wr (w.heap.size + 1 + 1) (lowArr n j) 25 ∧ Below w.heap.size w wr) (fun k _ => (intOf k + 1).toNat)
  case atStart => exact ⟨4, by omega, rfl, bA, bR, bX, hB⟩
  case round =>
    clear bA bR bX hB
    obtain ⟨j, hj, rfl, bA, bR, bX, hB⟩ := hrel
    have lA := bA.lt
    have lX := bX.lt
    have a0 := bA.cell 0
    have af0 := bA.frozen 0
    have a1 := bA.cell 1
    have af1 := bA.frozen 1
    have a2 := bA.cell 2
    have af2 := bA.frozen 2
    have a3 := bA.cell 3
    have af3 := bA.frozen 3
    simp only [List.getElem?_toArray, List.getElem?_cons_zero, List.getElem?_cons_succ] at a0 a1 a2 a3
    have x0 := bX.cell 0
    have xf0 := bX.frozen 0
    have x1 := bX.cell 1
    have xf1 := bX.frozen 1
    have x2 := bX.cell 2
    have xf2 := bX.frozen 2
    have x3 := bX.cell 3
    have xf3 := bX.frozen 3

    have hj' : j = 4 ∨ j = 3 ∨ j = 2 ∨ j = 1 ∨ j = 0 := by omega
    rcases hj' with rfl | rfl | rfl | rfl | rfl
    all_goals simp only [lowArr, List.getElem?_toArray, List.getElem?_cons_zero, List.getElem?_cons_succ] at x0 x1 x2 x3
    · have h3 := low3 n Hn.out
      have H3 : Hid (_ = _) := h3
      clear h3
      go_wp2
      go_region
      go_wp2
      rw [H3.out]
      go_roundw
      case rel => exact ⟨3, by omega, rfl, ((bA.other (by simp <;> omega) _).other (by simp <;> omega) _).drew, ((bR.other (by simp <;> omega) _).other (by simp <;> omega) _).drew, ((bX.set 3 _ rfl).set 3 _ rfl).drew, ((hB.setCell (by simp; omega) _).setCell (by simp; omega) _).drew⟩
      case measure => simp [intOf]
    · have h2 := low2 n Hn.out
      have H2 : Hid (_ = _) := h2
      clear h2
      go_wp2
      go_region
      go_wp2
      rw [H2.out]
      go_roundw
      case rel => exact ⟨2, by omega, rfl, ((bA.other (by simp <;> omega) _).other (by simp <;> omega) _).drew, ((bR.other (by simp <;> omega) _).other (by simp <;> omega) _).drew, ((bX.set 2 _ rfl).set 2 _ rfl).drew, ((hB.setCell (by simp; omega) _).setCell (by simp; omega) _).drew⟩
      case measure => simp [intOf]
    · have h1 := low1 n Hn.out
      have H1 : Hid (_ = _) := h1
      clear h1
      go_wp2
      go_region
      go_wp2
      rw [H1.out]
      go_roundw
      case rel => exact ⟨1, by omega, rfl, ((bA.other (by simp <;> omega) _).other (by simp <;> omega) _).drew, ((bR.other (by simp <;> omega) _).other (by simp <;> omega) _).drew, ((bX.set 1 _ rfl).set 1 _ rfl).drew, ((hB.setCell (by simp; omega) _).setCell (by simp; omega) _).drew⟩
      case measure => simp [intOf]
    · have h0 := low0 n Hn.out
      have H0 : Hid (_ = _) := h0
      clear h0
      go_wp2
      rw [H0.out]
      go_roundw
      case rel => exact ⟨0, by omega, rfl, bA.other (by simp <;> omega) _, bR.other (by simp <;> omega) _, (bX.set 0 _ rfl), hB.setCell (by simp; omega) _⟩
      case measure => simp [intOf]
    · have lR := bR.lt
      go_wp2_with fail
      go_region_with (go_at_call 46; refine (bit_x n 255 (by omega) _).mono ?_; rintro e w2 ⟨rfl, hb2⟩; (first | (have bX2 := bX.below hb2 lX; have bR2 := bR.below hb2 lR; have hB2 := hB.trans (hb2.mono (by have := hB.size; omega))) | (have bX2 := bX.drew.below hb2 lX; have bR2 := bR.drew.below hb2 lR; have hB2 := hB.drew.trans (hb2.mono (by have := hB.size; simp; omega)))); have y0 := bX2.cell 0; have yf0 := bX2.frozen 0; have y1 := bX2.cell 1; have yf1 := bX2.frozen 1; have y2 := bX2.cell 2; have yf2 := bX2.frozen 2; have y3 := bX2.cell 3; have yf3 := bX2.frozen 3; simp only [lowArr, List.getElem?_toArray, List.getElem?_cons_zero, List.getElem?_cons_succ] at y0 y1 y2 y3; have z0 := bR2.cell 0; have zf0 := bR2.frozen 0; have z1 := bR2.cell 1; have zf1 := bR2.frozen 1; have z2 := bR2.cell 2; have zf2 := bR2.frozen 2; have z3 := bR2.cell 3; have zf3 := bR2.frozen 3; simp only [List.getElem?_toArray, List.getElem?_cons_zero, List.getElem?_cons_succ] at z0 z1 z2 z3)
      all_goals
        go_wp2_with fail
        have j1 := set4_Bk bR2 (.int .u64 (lw n 0)) (.int .u64 (lw n 1)) (.int .u64 (lw n 2)) (.int .u64 (lw n 3))
        have hB3 := set4_below hB2 (b := w.heap.size + 1) (by omega) (.int .u64 (lw n 0)) (.int .u64 (lw n 1)) (.int .u64 (lw n 2)) (.int .u64 (lw n 3))
        generalize World.setCell _ _ _ = W9 at j1 hB3 ⊢
        have u0 := j1.cell 0
        have uf0 := j1.frozen 0
        have u1 := j1.cell 1
        have uf1 := j1.frozen 1
        have u2 := j1.cell 2
        have uf2 := j1.frozen 2
        have u3 := j1.cell 3
        have uf3 := j1.frozen 3
        simp only [List.getElem?_toArray, List.getElem?_cons_zero, List.getElem?_cons_succ] at u0 u1 u2 u3
        refine bodyPost_ret (v := .tuple #[V (2 * n % M256), .bool (bitAt n 255)]) ?_ rfl ⟨rfl, (by first | exact hB3 | exact hB3.drew)⟩
        simp [results, Try.results47, go_sem, u0, u1, u2, u3]
        exact ⟨rfl, rfl, rfl, rfl⟩
end Go.Proofs.Ytgolpadmcalimaa

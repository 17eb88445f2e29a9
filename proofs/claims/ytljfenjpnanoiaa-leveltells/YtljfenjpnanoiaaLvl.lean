import Derived.Test.YtljfenjpnanoiaaLvlM
import Derived.Test.YtljfenjpnanoiaaAdd
import Derived.Test.YtljfenjpnanoiaaBlk
import Derived.Test.YtljfenjpnanoiaaDivL
import Derived.Deep.RegionWith
import Derived.Deep.DeepCutAuto
set_option linter.unusedSimpArgs false
set_option linter.unusedVariables false
namespace Go.Proofs.Ytljfenjpnanoiaa
open Go.RowKit

set_option maxHeartbeats 1000000 in
theorem level (n : Nat) (hn : n < M256) (w : World) :
    Calls Try.prog 11 #[V n] w fun e w' => e = .returned (.int .i64 (lvl n : Int)) ∧ Below w.heap.size w w' := by
  have Hb := fun w => bits n hn w
  have h256 := bl_le256 hn
  by_cases h0 : n = 0
  · subst h0
    have e0 : bl 0 = 0 := rfl
    rw [e0] at Hb
    clear hn h256
    go_enter Try.func11, Try.ntmps11
    go_wp2_with (go_at_call 28; refine (Hb _).mono ?_; rintro e w1 ⟨rfl, hb1⟩)
    go_ret
    exact ⟨rfl, ((Below.refl _ _).alloc (Nat.le_refl _) _).trans (hb1.mono (by simp))⟩
  · obtain ⟨_, _, hp⟩ := bl_top h0
    have hl : lvl n = 8 * (bl n - 1) + pt n (bl n - 1) + 1 := if_neg h0
    have Hp := fun w => part n (bl n - 1) (by omega) w
    have hpl := pt_le n (bl n - 1)
    obtain ⟨t, ht⟩ : ∃ t, bl n = t + 1 := ⟨bl n - 1, by omega⟩
    rw [ht] at Hb hl Hp h256 hpl
    rw [Nat.add_sub_cancel] at hl Hp hpl
    have HL : Hid (lvl n = 8 * t + pt n t + 1) := hl
    generalize hq : pt n t = q at *
    have hc : (((t + 1 : Nat) : Int)) = (t : Int) + 1 := by omega
    rw [hc] at Hb
    have hw : ((t : Int) + 1 == 0) = false := by rw [beq_eq_false_iff_ne]; omega
    have ht1 : (t : Int) + 1 - 1 = t := by omega
    clear hn h0 hp hl ht hq hc
    go_enter Try.func11, Try.ntmps11
    have bA := Bk.new w (A4 (lb n 0) (lb n 1) (lb n 2) (lb n 3)) 25
    go_wp2_with (first | (go_at_call 28; refine (Hb _).mono ?_; rintro e w1 ⟨rfl, hb1⟩; have bA1 := bA.below hb1 bA.lt; have a0 := bA1.cell 0; have a1 := bA1.cell 1; have a2 := bA1.cell 2; have a3 := bA1.cell 3; simp only [List.getElem?_toArray, List.getElem?_cons_zero, List.getElem?_cons_succ] at a0 a1 a2 a3) | (go_at_call 29; refine (Hp _).mono ?_; rintro e w2 ⟨rfl, hb2⟩))
    go_ret
    refine ⟨by rw [HL.out]; go_num, ?_⟩
    have h1 := (((Below.refl _ w).alloc (Nat.le_refl _) (.cells (A4 (lb n 0) (lb n 1) (lb n 2) (lb n 3)) 25)).trans (hb1.mono (by simp)))
    exact h1.trans (hb2.mono h1.size)
set_option maxHeartbeats 1000000 in
theorem dist (n m : Nat) (hn : n < M256) (hm : m < M256) (w : World) :
    Calls Try.prog 14 #[V n, V m] w fun e w' => e = .returned (.int .i64 ((lvl n : Int) - (lvl m : Int))) ∧ Below w.heap.size w w' := by
  have b1 := lvl_le hn
  have b2 := lvl_le hm
  have Hn : Hid (n < M256) := hn
  have Hm : Hid (m < M256) := hm
  have HW : Hid (IntKind.i64.wrap ((lvl n : Int) - (lvl m : Int)) = (lvl n : Int) - (lvl m : Int)) := by show _ = _; rw [IntKind.wrap_i64]; omega
  clear hn hm
  go_enter Try.func14, Try.ntmps14
  go_wp2
  have bA : Bk ((w.alloc (.cells (A4 (lb n 0) (lb n 1) (lb n 2) (lb n 3)) 25)).alloc (.cells (A4 (lb m 0) (lb m 1) (lb m 2) (lb m 3)) 25)) w.heap.size (A4 (lb n 0) (lb n 1) (lb n 2) (lb n 3)) 25 := (Bk.new _ _ _).alloc _
  have bM : Bk ((w.alloc (.cells (A4 (lb n 0) (lb n 1) (lb n 2) (lb n 3)) 25)).alloc (.cells (A4 (lb m 0) (lb m 1) (lb m 2) (lb m 3)) 25)) (w.heap.size + 1) (A4 (lb m 0) (lb m 1) (lb m 2) (lb m 3)) 25 := Bk.new' _ _ _ (by simp)
  have hB : Below w.heap.size w ((w.alloc (.cells (A4 (lb n 0) (lb n 1) (lb n 2) (lb n 3)) 25)).alloc (.cells (A4 (lb m 0) (lb m 1) (lb m 2) (lb m 3)) 25)) := ((Below.refl _ w).alloc (Nat.le_refl _) _).alloc (by simp) _
  generalize ((w.alloc (.cells (A4 (lb n 0) (lb n 1) (lb n 2) (lb n 3)) 25)).alloc (.cells (A4 (lb m 0) (lb m 1) (lb m 2) (lb m 3)) 25)) = w4 at *
  have hT := TwoB.of bA bM
  have hbs : Below w4.heap.size w4 w4 := Below.refl _ _
  have hU := hT
  unfold TwoB at hU
  obtain ⟨q0, q1, q2, q3, q4, q5, q6, q7⟩ := hU
  go_region_with (go_at_call 11; refine (level _ (by first | exact Hn.out | exact Hm.out) _).mono ?_; rintro e w3 ⟨rfl, hb3⟩; (first | (have hT := TwoB.below (TwoB.drew hT) hb3; have hbs := below_step hbs hb3) | (have hT := TwoB.below hT hb3; have hbs := below_step2 hbs hb3)); have hU := hT; unfold TwoB at hU; obtain ⟨q0, q1, q2, q3, q4, q5, q6, q7⟩ := hU)
  all_goals (go_wp2_with fail; go_ret; exact ⟨(congrArg (fun z => Ending.returned (.int .i64 z)) HW.out : _), hB.trans (hbs.mono hB.size)⟩)
theorem double (n : Nat) (hn : n < M256) (w : World) :
    Calls Try.prog 9 #[V n] w fun e w' => e = .returned (.tuple #[V (addV n n), .int .i64 (addOkE n n)]) ∧ Below w.heap.size w w' := by
  have H1 := fun w => add n n hn hn w
  clear hn
  go_enter Try.func9, Try.ntmps9
  have bR : Bk ((w.alloc (.cells (A4 (lb n 0) (lb n 1) (lb n 2) (lb n 3)) 25)).alloc (.cells (A4 0 0 0 0) 25)) (w.heap.size + 1) (A4 0 0 0 0) 25 := Bk.new' _ _ _ (by simp)
  have hB : Below w.heap.size w ((w.alloc (.cells (A4 (lb n 0) (lb n 1) (lb n 2) (lb n 3)) 25)).alloc (.cells (A4 0 0 0 0) 25)) := ((Below.refl _ w).alloc (Nat.le_refl _) _).alloc (by simp) _
  generalize addV n n = v at *
  go_wp2_with (go_at_call 18; refine (H1 _).mono ?_; rintro e w1 ⟨rfl, hb1⟩; have bR1 := bR.below hb1 bR.lt; have r0 := bR1.cell 0; have rf0 := bR1.frozen 0; have r1 := bR1.cell 1; have rf1 := bR1.frozen 1; have r2 := bR1.cell 2; have rf2 := bR1.frozen 2; have r3 := bR1.cell 3; have rf3 := bR1.frozen 3; simp only [List.getElem?_toArray, List.getElem?_cons_zero, List.getElem?_cons_succ] at r0 r1 r2 r3)
  have kR := set4_Bk bR1 (.int .u64 (lb v 0)) (.int .u64 (lb v 1)) (.int .u64 (lb v 2)) (.int .u64 (lb v 3))
  have hBr := set4_below (hB.trans (hb1.mono hB.size)) (b := w.heap.size + 1) (by omega) (.int .u64 (lb v 0)) (.int .u64 (lb v 1)) (.int .u64 (lb v 2)) (.int .u64 (lb v 3))
  generalize World.setCell _ _ _ = W8 at kR hBr ⊢
  have u0 := kR.cell 0
  have u1 := kR.cell 1
  have u2 := kR.cell 2
  have u3 := kR.cell 3
  simp only [List.getElem?_toArray, List.getElem?_cons_zero, List.getElem?_cons_succ] at u0 u1 u2 u3
  refine bodyPost_ret (v := .tuple #[V v, .int .i64 (addOkE n n)]) ?_ rfl ⟨rfl, hBr⟩
  simp [results, Try.results9, go_sem, u0, u1, u2, u3]
end Go.Proofs.Ytljfenjpnanoiaa

import Derived.Test.YtapjonmgjccpbaaJ0
set_option linter.unusedSimpArgs false
set_option linter.unusedVariables false
namespace Go.Proofs.Ytapjonmgjccpbaa
open Go.RowKit

set_option maxHeartbeats 1000000 in
theorem radd (n m : Nat) (hn : n < M256) (hm : m < M256) (w : World) :
    Calls Try.prog 78 #[V n, V m] w fun e w' => e = .returned (.tuple #[V (addV n m), .bool (addOk n m)]) ∧ Below w.heap.size w w' := by
  have Hn : Hid (n < M256) := hn
  have Hm : Hid (m < M256) := hm
  clear hn hm
  go_enter Try.func78, Try.ntmps78
  go_wp2
  go_loopw [7, 8] (fun c i wr => ∃ (k : Nat) (x0 x1 x2 x3 cc : Int), k ≤ 4 ∧ c = .int .u64 cc ∧ i = .int .i64 k ∧ Bk wr w.heap.size (A4 (lb n 0) (lb n 1) (lb n 2) (lb n 3)) 26 ∧ Bk wr (w.heap.size + 1) (A4 (lb m 0) (lb m 1) (lb m 2) (lb m 3)) 26 ∧ Bk wr (w.heap.size + 1 + 1) (A4 0 0 0 0) 26 ∧ Bk wr (w.heap.size + 1 + 1 + 1) (A4 x0 x1 x2 x3) 26 ∧ Below w.heap.size w wr ∧ AddInv k n m x0 x1 x2 x3 cc) (fun _ i _ => 4 - (intOf i).toNat)
  case atStart =>
    refine ⟨0, 0, 0, 0, 0, 0, by omega, rfl, rfl, ?_, ?_, ?_, ?_, ?_, addInv0 n m⟩
    · exact (((Bk.new _ _ _).alloc _).alloc _).alloc _
    · exact ((Bk.new' _ _ _ (by simp)).alloc _).alloc _
    · exact (Bk.new' _ _ _ (by simp)).alloc _
    · exact Bk.new' _ _ _ (by simp)
    · exact ((((Below.refl _ _).alloc (Nat.le_refl _) _).alloc (by simp) _).alloc (by simp; omega) _).alloc (by simp; omega) _
  case round =>
    obtain ⟨k, x0, x1, x2, x3, cc, hk, rfl, rfl, ha, hb, hz, hx, hbl, hinv⟩ := hrel
    have hak := ha.cell k
    have hbk := hb.cell k
    have hxk := hx.cell k
    have hxf := hx.frozen k
    have hk' : k = 0 ∨ k = 1 ∨ k = 2 ∨ k = 3 ∨ k = 4 := by omega
    rcases hk' with rfl | rfl | rfl | rfl | rfl
    · simp only [List.getElem?_toArray, List.getElem?_cons_zero, List.getElem?_cons_succ] at hak hbk hxk
      go_wp2
      go_quiet (fail)
      go_wp2
      all_goals
        have hl := refLimb (lb n 0) (lb m 0) cc (lb_bd _ _) (lb_bd _ _) (addInv_c hinv)
        have st := addStep0 n m x0 x1 x2 x3 cc hinv
        first | (rw [← hl.1, ← hl.2.1 (by assumption)] at st) | (rw [← hl.1, ← hl.2.2.1 (by assumption)] at st) | (rw [← hl.1, ← hl.2.2.2 (by assumption) (by assumption)] at st)
        go_roundw
        case rel => exact ⟨1, _, x1, x2, x3, _, by omega, rfl, rfl, (ha.drewN nq).other (by simp <;> omega) _, (hb.drewN nq).other (by simp <;> omega) _, (hz.drewN nq).other (by simp) _, (hx.drewN nq).set 0 _ rfl, (bdrewN hbl nq).setCell (by simp; omega) _, st⟩
        case measure => simp [intOf]
    · simp only [List.getElem?_toArray, List.getElem?_cons_zero, List.getElem?_cons_succ] at hak hbk hxk
      go_wp2
      go_quiet (fail)
      go_wp2
      all_goals
        have hl := refLimb (lb n 1) (lb m 1) cc (lb_bd _ _) (lb_bd _ _) (addInv_c hinv)
        have st := addStep1 n m x0 x1 x2 x3 cc hinv
        first | (rw [← hl.1, ← hl.2.1 (by assumption)] at st) | (rw [← hl.1, ← hl.2.2.1 (by assumption)] at st) | (rw [← hl.1, ← hl.2.2.2 (by assumption) (by assumption)] at st)
        go_roundw
        case rel => exact ⟨2, x0, _, x2, x3, _, by omega, rfl, rfl, (ha.drewN nq).other (by simp <;> omega) _, (hb.drewN nq).other (by simp <;> omega) _, (hz.drewN nq).other (by simp) _, (hx.drewN nq).set 1 _ rfl, (bdrewN hbl nq).setCell (by simp; omega) _, st⟩
        case measure => simp [intOf]
    · simp only [List.getElem?_toArray, List.getElem?_cons_zero, List.getElem?_cons_succ] at hak hbk hxk
      go_wp2
      go_quiet (fail)
      go_wp2
      all_goals
        have hl := refLimb (lb n 2) (lb m 2) cc (lb_bd _ _) (lb_bd _ _) (addInv_c hinv)
        have st := addStep2 n m x0 x1 x2 x3 cc hinv
        first | (rw [← hl.1, ← hl.2.1 (by assumption)] at st) | (rw [← hl.1, ← hl.2.2.1 (by assumption)] at st) | (rw [← hl.1, ← hl.2.2.2 (by assumption) (by assumption)] at st)
        go_roundw
        case rel => exact ⟨3, x0, x1, _, x3, _, by omega, rfl, rfl, (ha.drewN nq).other (by simp <;> omega) _, (hb.drewN nq).other (by simp <;> omega) _, (hz.drewN nq).other (by simp) _, (hx.drewN nq).set 2 _ rfl, (bdrewN hbl nq).setCell (by simp; omega) _, st⟩
        case measure => simp [intOf]
    · simp only [List.getElem?_toArray, List.getElem?_cons_zero, List.getElem?_cons_succ] at hak hbk hxk
      go_wp2
      go_quiet (fail)
      go_wp2
      all_goals
        have hl := refLimb (lb n 3) (lb m 3) cc (lb_bd _ _) (lb_bd _ _) (addInv_c hinv)
        have st := addStep3 n m x0 x1 x2 x3 cc hinv
        first | (rw [← hl.1, ← hl.2.1 (by assumption)] at st) | (rw [← hl.1, ← hl.2.2.1 (by assumption)] at st) | (rw [← hl.1, ← hl.2.2.2 (by assumption) (by assumption)] at st)
        go_roundw
        case rel => exact ⟨4, x0, x1, x2, _, _, by omega, rfl, rfl, (ha.drewN nq).other (by simp <;> omega) _, (hb.drewN nq).other (by simp <;> omega) _, (hz.drewN nq).other (by simp) _, (hx.drewN nq).set 3 _ rfl, (bdrewN hbl nq).setCell (by simp; omega) _, st⟩
        case measure => simp [intOf]
    · have hx0 := hx.cell 0
      have hx1 := hx.cell 1
      have hx2 := hx.cell 2
      have hx3 := hx.cell 3
      have hz0 := hz.cell 0
      have hz1 := hz.cell 1
      have hz2 := hz.cell 2
      have hz3 := hz.cell 3
      have hf0 := hz.frozen 0
      have hf1 := hz.frozen 1
      have hf2 := hz.frozen 2
      have hf3 := hz.frozen 3
      simp only [List.getElem?_toArray, List.getElem?_cons_zero, List.getElem?_cons_succ] at hx0 hx1 hx2 hx3 hz0 hz1 hz2 hz3
      clear hak hbk hxk hxf
      have he := addEnd n m Hn.out Hm.out _ _ _ _ _ hinv
      rcases he with ⟨rfl, hlt, rfl, rfl, rfl, rfl⟩ | ⟨rfl, hge⟩
      · have HL : Hid (n + m < M256) := hlt
        clear hlt
        go_wp2
        refine bodyPost_ret (v := .tuple #[V (n + m), .bool true]) ?_ rfl ⟨?_, ?_⟩
        · simp [results, Try.results78, go_sem, hz0, hz1, hz2, hz3]
        · rw [addV, addOk, if_pos HL.out, decide_eq_true HL.out]
        · exact (((hbl.setCell (by simp; omega) _).setCell (by simp; omega) _).setCell (by simp; omega) _).setCell (by simp; omega) _
      · have HL : Hid (¬ n + m < M256) := hge
        clear hge
        go_wp2
        refine bodyPost_ret (v := .tuple #[.agg (A4 0 0 0 0), .bool false]) ?_ rfl ⟨?_, ?_⟩
        · simp [results, Try.results78, go_sem, hz0, hz1, hz2, hz3]
        · rw [addV, addOk, if_neg HL.out, decide_eq_false HL.out, V_zero]
        · exact (((hbl.setCell (by simp; omega) _).setCell (by simp; omega) _).setCell (by simp; omega) _).setCell (by simp; omega) _
end Go.Proofs.Ytapjonmgjccpbaa

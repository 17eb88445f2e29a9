import Derived.Test.YtgolpadmcalimaaSubM
set_option linter.unusedSimpArgs false
set_option linter.unusedVariables false
namespace Go.Proofs.Ytgolpadmcalimaa
open Go.RowKit

set_option maxHeartbeats 1000000 in
theorem rcmp (n m : Nat) (hn : n < M256) (hm : m < M256) (w : World) :
    Calls Try.prog 48 #[V n, V m] w fun e w' => e = .returned (.int .i64 (cmpV n m)) ∧ Below w.heap.size w w' := by
  have Hn : Hid (n < M256) := hn
  have Hm : Hid (m < M256) := hm
  clear hn hm
  go_enter Try.func48, Try.ntmps48
  go_wp2
  go_loopw [5] (fun i wr => ∃ (k : Nat), k ≤ 4 ∧ i = .int .i64 ((k : Int) - 1) ∧ Bk wr w.heap.size (A4 (lb n 0) (lb n 1) (lb n 2) (lb n 3)) 25 ∧ Bk wr (w.heap.size + 1) (A4 (lb m 0) (lb m 1) (lb m 2) (lb m 3)) 25 ∧ Below w.heap.size w wr ∧ Alk k n m) (fun i _ => (intOf i + 1).toNat)
  case atStart =>
    refine ⟨4, by omega, rfl, ?_, ?_, ?_, alk4 n m⟩
    · exact (Bk.new _ _ _).alloc _
    · exact Bk.new' _ _ _ (by simp)
    · exact ((Below.refl _ _).alloc (Nat.le_refl _) _).alloc (by simp) _
  case round =>
    obtain ⟨k, hk, rfl, ha, hb, hbl, hinv⟩ := hrel
    have hk' : k = 0 ∨ k = 1 ∨ k = 2 ∨ k = 3 ∨ k = 4 := by omega
    rcases hk' with rfl | rfl | rfl | rfl | rfl
    · have hs := alkSame Hn.out Hm.out hinv
      have HS : Hid (n = m) := hs
      clear hs
      go_wp2
      go_ret
      exact ⟨by rw [← HS.out, cmpV_same]; rfl, hbl⟩
    · have hak := ha.cell 0
      have hbk := hb.cell 0
      simp only [List.getElem?_toArray, List.getElem?_cons_zero, List.getElem?_cons_succ] at hak hbk
      go_wp2
      go_quiet (fail)
      go_wp2
      · have hlt : lb n 0 < lb m 0 := by assumption
        go_ret
        exact ⟨by rw [cmpV_less (alkLess Hn.out Hm.out (by omega) hinv hlt)]; rfl, bdrewN hbl _⟩
      · have hge : lb m 0 ≤ lb n 0 := by assumption
        go_quiet (fail)
        go_wp2
        · have hgt : lb m 0 < lb n 0 := by assumption
          go_ret
          exact ⟨by rw [cmpV_more (alkMore Hn.out Hm.out (by omega) hinv hgt)]; rfl, bdrewN (bdrewN hbl _) _⟩
        · have hle : lb n 0 ≤ lb m 0 := by assumption
          go_roundw
          case rel => exact ⟨0, by omega, rfl, ha.drewN _, hb.drewN _, bdrewN hbl _, alkStep (by omega) hinv hle hge⟩
          case measure => simp [intOf]
    · have hak := ha.cell 1
      have hbk := hb.cell 1
      simp only [List.getElem?_toArray, List.getElem?_cons_zero, List.getElem?_cons_succ] at hak hbk
      go_wp2
      go_quiet (fail)
      go_wp2
      · have hlt : lb n 1 < lb m 1 := by assumption
        go_ret
        exact ⟨by rw [cmpV_less (alkLess Hn.out Hm.out (by omega) hinv hlt)]; rfl, bdrewN hbl _⟩
      · have hge : lb m 1 ≤ lb n 1 := by assumption
        go_quiet (fail)
        go_wp2
        · have hgt : lb m 1 < lb n 1 := by assumption
          go_ret
          exact ⟨by rw [cmpV_more (alkMore Hn.out Hm.out (by omega) hinv hgt)]; rfl, bdrewN (bdrewN hbl _) _⟩
        · have hle : lb n 1 ≤ lb m 1 := by assumption
          go_roundw
          case rel => exact ⟨1, by omega, rfl, ha.drewN _, hb.drewN _, bdrewN hbl _, alkStep (by omega) hinv hle hge⟩
          case measure => simp [intOf]
    · have hak := ha.cell 2
      have hbk := hb.cell 2
      simp only [List.getElem?_toArray, List.getElem?_cons_zero, List.getElem?_cons_succ] at hak hbk
      go_wp2
      go_quiet (fail)
      go_wp2
      · have hlt : lb n 2 < lb m 2 := by assumption
        go_ret
        exact ⟨by rw [cmpV_less (alkLess Hn.out Hm.out (by omega) hinv hlt)]; rfl, bdrewN hbl _⟩
      · have hge : lb m 2 ≤ lb n 2 := by assumption
        go_quiet (fail)
        go_wp2
        · have hgt : lb m 2 < lb n 2 := by assumption
          go_ret
          exact ⟨by rw [cmpV_more (alkMore Hn.out Hm.out (by omega) hinv hgt)]; rfl, bdrewN (bdrewN hbl _) _⟩
        · have hle : lb n 2 ≤ lb m 2 := by assumption
          go_roundw
          case rel => exact ⟨2, by omega, rfl, ha.drewN _, hb.drewN _, bdrewN hbl _, alkStep (by omega) hinv hle hge⟩
          case measure => simp [intOf]
    · have hak := ha.cell 3
      have hbk := hb.cell 3
      simp only [List.getElem?_toArray, List.getElem?_cons_zero, List.getElem?_cons_succ] at hak hbk
      go_wp2
      go_quiet (fail)
      go_wp2
      · have hlt : lb n 3 < lb m 3 := by assumption
        go_ret
        exact ⟨by rw [cmpV_less (alkLess Hn.out Hm.out (by omega) hinv hlt)]; rfl, bdrewN hbl _⟩
      · have hge : lb m 3 ≤ lb n 3 := by assumption
        go_quiet (fail)
        go_wp2
        · have hgt : lb m 3 < lb n 3 := by assumption
          go_ret
          exact ⟨by rw [cmpV_more (alkMore Hn.out Hm.out (by omega) hinv hgt)]; rfl, bdrewN (bdrewN hbl _) _⟩
        · have hle : lb n 3 ≤ lb m 3 := by assumption
          go_roundw
          case rel => exact ⟨3, by omega, rfl, ha.drewN _, hb.drewN _, bdrewN hbl _, alkStep (by omega) hinv hle hge⟩
          case measure => simp [intOf]
end Go.Proofs.Ytgolpadmcalimaa

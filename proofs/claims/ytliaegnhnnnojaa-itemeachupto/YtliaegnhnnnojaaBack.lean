import Derived.Test.YtliaegnhnnnojaaLen
import Derived.RangeFuncNested
import Derived.RangeFuncBound
import Derived.RangeFuncCalls
import Derived.RangeFuncLeaves
import Derived.RangeFuncBox
import Derived.Shelf.Abstract
import Derived.Shelf.RegionOpen
import Derived.OwnWalkIn
import Derived.TacticsInMore
import Derived.LoopNIn
import Derived.LoopIn
set_option linter.unusedSimpArgs false
set_option linter.unusedVariables false
namespace Go.Proofs.Ytliaegnhnnnojaa
open Go.RowKit Go.Shelf
attribute [local go_sem] Oper.semAt_some

/-! slices.Backward over the four limbs of a number: the place and the limb, from the highest on. -/
abbrev K4 := { k : Nat // k < 4 }
def dn (j : Nat) : List K4 := (List.range j).map fun i => ⟨3 - i, by omega⟩
theorem dn_succ (j : Nat) : dn (j + 1) = dn j ++ [⟨3 - j, by omega⟩] := by simp [dn, List.range_succ]
theorem dn_length (j : Nat) : (dn j).length = j := by simp [dn]
set_option maxHeartbeats 1000000 in
theorem back_in (F : Fence) (n : Nat) (h40 : F.fn 67) (hro : F.round = none) (a : Option Addr) (len cap : Nat) (w : World) :
    CallsIn F n Try.prog 67 #[.slice a len cap] w fun e w' => e = .returned (.func (.func 70) #[] #[.pointer (some ⟨w.heap.size, 0, none⟩)]) ∧ w' = w.alloc (.cells #[.slice a len cap] 107) := by
  refine callsIn_of_wp Try.func67 rfl h40 ?_ hro
  simp only [Try.ntmps67, List.size_toArray, List.length_cons, List.length_nil, Nat.reduceAdd, Nat.reduceSub, Array.replicate_succ, Array.replicate_zero, List.push_toArray, List.append_toArray, List.nil_append, List.cons_append]
  gi_wp2
  go_ret
  exact ⟨rfl, rfl⟩
set_option maxRecDepth 100000 in
set_option maxHeartbeats 2000000 in
theorem back1_in (F : Fence) (n : Nat) (h48 : F.fn 70) (hro : F.round = none) (hn : 1 ≤ n) (l Bs n₀ b N : Nat) (hb : b < n₀) (J Jx : List K4 → World → Prop)
    (hY : ∀ pre x W, J pre W → pre.length < 4 → YieldAt F (n - 1) Try.prog l #[.int .i64 (x.1 : Int), .int .u64 (lb N x.1)] W fun e W' =>
      (e = .returned (.bool true) ∧ J (pre ++ [x]) W' ∧ Below n₀ W W') ∨ (e = .returned (.bool false) ∧ Jx (pre ++ [x]) W'))
    (W : World) (hBs : W.cell? ⟨Bs, 0, none⟩ = some (.slice (some ⟨b, 0, none⟩) 4 4)) (hBl : Bs < n₀) (hc : ∀ j, j < 4 → W.cell? ⟨b, j, none⟩ = some (.int .u64 (lb N j))) (h0 : J [] W) :
    CallsIn F n Try.prog 70 #[.func (.yield l) #[] #[], .pointer (some ⟨Bs, 0, none⟩)] W fun e W' => (∃ v, e = .returned v) ∧
      ((∃ ys, ys = dn 4 ∧ J ys W') ∨ (∃ pre, (∃ k, k ≤ 4 ∧ pre = dn k) ∧ Jx pre W')) := by
  refine callsIn_of_wp Try.func70 rfl h48 ?_ hro
  simp only [Try.ntmps70, List.size_toArray, List.length_cons, List.length_nil, Nat.reduceAdd, Nat.reduceSub, Array.replicate_succ, Array.replicate_zero, List.push_toArray, List.append_toArray, List.nil_append, List.cons_append]
  gi_wp2
  gi_loopw [3] (fun i wr => ∃ j : Nat, j ≤ 4 ∧ i = .int .i64 (3 - (j : Int)) ∧ J (dn j) wr ∧ Below n₀ W wr)
    (fun i _ => (intOf i + 1).toNat)
  case atStart => exact ⟨0, Nat.zero_le _, rfl, h0, Below.refl _ _⟩
  case round =>
    obtain ⟨j, hj, rfl, hJs, hnx⟩ := hrel
    have hBx := (hnx.cell (p := ⟨Bs, 0, none⟩) hBl).trans hBs
    have hj' : j = 4 ∨ j = 0 ∨ j = 1 ∨ j = 2 ∨ j = 3 := by omega
    rcases hj' with rfl | rfl | rfl | rfl | rfl
    · gi_wp2
      go_end0
      exact ⟨⟨_, rfl⟩, .inl ⟨_, rfl, hJs⟩⟩
    · have hcx := (hnx.cell (p := ⟨b, 3, none⟩) hb).trans (hc 3 (by omega))
      obtain ⟨fn, tmps, assign, body, hy, hR⟩ := hY _ (⟨3, by omega⟩ : K4) wr hJs (by rw [dn_length]; omega)
      dsimp only at hy
      push_cast at hy
      gi_wp2
      refine hR.mono ?_
      rintro e W3 (⟨rfl, hJ3, hk3⟩ | ⟨rfl, hJx3⟩)
      · gi_wp2
        go_roundw
        case rel => exact ⟨1, by omega, by simp, by rw [dn_succ]; exact hJ3, hnx.trans hk3⟩
        case measure => simp [intOf]
      · gi_wp2
        refine bodyPost_ret (results_none rfl _ _ _) rfl ?_
        exact ⟨⟨_, rfl⟩, .inr ⟨_, ⟨1, by omega, (dn_succ _).symm⟩, hJx3⟩⟩
    · have hcx := (hnx.cell (p := ⟨b, 2, none⟩) hb).trans (hc 2 (by omega))
      obtain ⟨fn, tmps, assign, body, hy, hR⟩ := hY _ (⟨2, by omega⟩ : K4) wr hJs (by rw [dn_length]; omega)
      dsimp only at hy
      push_cast at hy
      gi_wp2
      refine hR.mono ?_
      rintro e W3 (⟨rfl, hJ3, hk3⟩ | ⟨rfl, hJx3⟩)
      · gi_wp2
        go_roundw
        case rel => exact ⟨2, by omega, by simp, by rw [dn_succ]; exact hJ3, hnx.trans hk3⟩
        case measure => simp [intOf]
      · gi_wp2
        refine bodyPost_ret (results_none rfl _ _ _) rfl ?_
        exact ⟨⟨_, rfl⟩, .inr ⟨_, ⟨2, by omega, (dn_succ _).symm⟩, hJx3⟩⟩
    · have hcx := (hnx.cell (p := ⟨b, 1, none⟩) hb).trans (hc 1 (by omega))
      obtain ⟨fn, tmps, assign, body, hy, hR⟩ := hY _ (⟨1, by omega⟩ : K4) wr hJs (by rw [dn_length]; omega)
      dsimp only at hy
      push_cast at hy
      gi_wp2
      refine hR.mono ?_
      rintro e W3 (⟨rfl, hJ3, hk3⟩ | ⟨rfl, hJx3⟩)
      · gi_wp2
        go_roundw
        case rel => exact ⟨3, by omega, by simp, by rw [dn_succ]; exact hJ3, hnx.trans hk3⟩
        case measure => simp [intOf]
      · gi_wp2
        refine bodyPost_ret (results_none rfl _ _ _) rfl ?_
        exact ⟨⟨_, rfl⟩, .inr ⟨_, ⟨3, by omega, (dn_succ _).symm⟩, hJx3⟩⟩
    · have hcx := (hnx.cell (p := ⟨b, 0, none⟩) hb).trans (hc 0 (by omega))
      obtain ⟨fn, tmps, assign, body, hy, hR⟩ := hY _ (⟨0, by omega⟩ : K4) wr hJs (by rw [dn_length]; omega)
      dsimp only at hy
      push_cast at hy
      gi_wp2
      refine hR.mono ?_
      rintro e W3 (⟨rfl, hJ3, hk3⟩ | ⟨rfl, hJx3⟩)
      · gi_wp2
        go_roundw
        case rel => exact ⟨4, by omega, by simp, by rw [dn_succ]; exact hJ3, hnx.trans hk3⟩
        case measure => simp [intOf]
      · gi_wp2
        refine bodyPost_ret (results_none rfl _ _ _) rfl ?_
        exact ⟨⟨_, rfl⟩, .inr ⟨_, ⟨4, by omega, (dn_succ _).symm⟩, hJx3⟩⟩
/-- What it hands back is a sequence that can be stopped. -/
theorem back_stops (F : Fence) (n : Nat) (h48 : F.fn 70) (hro : F.round = none) (hn : 1 ≤ n) (Bs n₀ b N : Nat) (w : World) (hb : b < n₀) (hBl : Bs < n₀) (hn₀ : n₀ ≤ w.heap.size)
    (hBs : w.cell? ⟨Bs, 0, none⟩ = some (.slice (some ⟨b, 0, none⟩) 4 4)) (hc : ∀ j, j < 4 → w.cell? ⟨b, j, none⟩ = some (.int .u64 (lb N j))) :
    SeqStopsK F n Try.prog 70 #[.pointer (some ⟨Bs, 0, none⟩)] (fun x : K4 => #[Value.int .i64 (x.1 : Int), Value.int .u64 (lb N x.1)]) (Below n₀) (fun ys => ys = dn 4)
      (fun pre => ∃ k, k ≤ 4 ∧ pre = dn k) 4 w := fun l J Jx W hW _ _ hY h0 => by
  have hBs' := (hW.cell (p := ⟨Bs, 0, none⟩) (by show Bs < _; omega)).trans hBs
  exact back1_in F n h48 hro hn l Bs n₀ b N hb J Jx hY W hBs' hBl (fun j hj => (hW.cell (p := ⟨b, j, none⟩) (by show b < _; omega)).trans (hc j hj)) h0
end Go.Proofs.Ytliaegnhnnnojaa

/- Texts joined: Back Bits Text Sm0 Sml TakeB. -/
import Derived.Test.YtapjonmgjccpbaaJ1
import Derived.RangeFuncNested
import Derived.RangeFuncBound
import Derived.RangeFuncCalls
import Derived.RangeFuncLeaves
import Derived.RangeFuncBox
import Derived.Shelf.Abstract
import Derived.Shelf.RegionOpen
import Derived.OwnWalkIn
import Derived.TacticsInMore
import Derived.LoopNIn
import Derived.LoopIn
import Derived.Deep.OwnRows
import Derived.Laws.BytesArg
import Derived.Test.YtapjonmgjccpbaaJ0
import Derived.Laws.Bits64b
section
set_option linter.unusedSimpArgs false
set_option linter.unusedVariables false
namespace Go.Proofs.Ytapjonmgjccpbaa
open Go.RowKit Go.Shelf
attribute [local go_sem] Oper.semAt_some

/-! slices.Backward over the four limbs of a number: the place and the limb, from the highest on. -/
abbrev K4 := { k : Nat // k < 4 }
def dn (j : Nat) : List K4 := (List.range j).map fun i => ⟨3 - i, by omega⟩
theorem dn_succ (j : Nat) : dn (j + 1) = dn j ++ [⟨3 - j, by omega⟩] := by simp [dn, List.range_succ]
theorem dn_length (j : Nat) : (dn j).length = j := by simp [dn]
set_option maxHeartbeats 1000000 in
theorem back_in (F : Fence) (n : Nat) (h40 : F.fn 50) (hro : F.round = none) (a : Option Addr) (len cap : Nat) (w : World) :
    CallsIn F n Try.prog 50 #[.slice a len cap] w fun e w' => e = .returned (.func (.func 79) #[] #[.pointer (some ⟨w.heap.size, 0, none⟩)]) ∧ w' = w.alloc (.cells #[.slice a len cap] 27) := by
  refine callsIn_of_wp Try.func50 rfl h40 ?_ hro
  simp only [Try.ntmps50, List.size_toArray, List.length_cons, List.length_nil, Nat.reduceAdd, Nat.reduceSub, Array.replicate_succ, Array.replicate_zero, List.push_toArray, List.append_toArray, List.nil_append, List.cons_append]
  gi_wp2
  go_ret
  exact ⟨rfl, rfl⟩
set_option maxRecDepth 100000 in
set_option maxHeartbeats 2000000 in
theorem back1_in (F : Fence) (n : Nat) (h48 : F.fn 79) (hro : F.round = none) (hn : 1 ≤ n) (l Bs n₀ b N : Nat) (hb : b < n₀) (J Jx : List K4 → World → Prop)
    (hY : ∀ pre x W, J pre W → pre.length < 4 → YieldAt F (n - 1) Try.prog l #[.int .i64 (x.1 : Int), .int .u64 (lb N x.1)] W fun e W' =>
      (e = .returned (.bool true) ∧ J (pre ++ [x]) W' ∧ Below n₀ W W') ∨ (e = .returned (.bool false) ∧ Jx (pre ++ [x]) W'))
    (W : World) (hBs : W.cell? ⟨Bs, 0, none⟩ = some (.slice (some ⟨b, 0, none⟩) 4 4)) (hBl : Bs < n₀) (hc : ∀ j, j < 4 → W.cell? ⟨b, j, none⟩ = some (.int .u64 (lb N j))) (h0 : J [] W) :
    CallsIn F n Try.prog 79 #[.func (.yield l) #[] #[], .pointer (some ⟨Bs, 0, none⟩)] W fun e W' => (∃ v, e = .returned v) ∧
      ((∃ ys, ys = dn 4 ∧ J ys W') ∨ (∃ pre, (∃ k, k ≤ 4 ∧ pre = dn k) ∧ Jx pre W')) := by
  refine callsIn_of_wp Try.func79 rfl h48 ?_ hro
  simp only [Try.ntmps79, List.size_toArray, List.length_cons, List.length_nil, Nat.reduceAdd, Nat.reduceSub, Array.replicate_succ, Array.replicate_zero, List.push_toArray, List.append_toArray, List.nil_append, List.cons_append]
  gi_wp2
  gi_loopw [3] (fun i wr => ∃ j : Nat, j ≤ 4 ∧ i = .int .i64 (3 - (j : Int)) ∧ J (dn j) wr ∧ Below n₀ W wr)
    (fun i _ => (intOf i + 1).toNat)
  case atStart => exact ⟨0, Nat.zero_le _, rfl, h0, Below.refl _ _⟩
  case round =>
    obtain ⟨j, hj, rfl, hJs, hnx⟩ := hrel
    have hBx := (hnx.cell (p := ⟨Bs, 0, none⟩) hBl).trans hBs
    have hj' : j = 4 ∨ j = 0 ∨ j = 1 ∨ j = 2 ∨ j = 3 := by omega
    rcases hj' with rfl | rfl | rfl | rfl | rfl
    · gi_wp2
      go_end0
      exact ⟨⟨_, rfl⟩, .inl ⟨_, rfl, hJs⟩⟩
    · have hcx := (hnx.cell (p := ⟨b, 3, none⟩) hb).trans (hc 3 (by omega))
      obtain ⟨fn, tmps, assign, body, hy, hR⟩ := hY _ (⟨3, by omega⟩ : K4) wr hJs (by rw [dn_length]; omega)
      dsimp only at hy
      push_cast at hy
      gi_wp2
      refine hR.mono ?_
      rintro e W3 (⟨rfl, hJ3, hk3⟩ | ⟨rfl, hJx3⟩)
      · gi_wp2
        go_roundw
        case rel => exact ⟨1, by omega, by simp, by rw [dn_succ]; exact hJ3, hnx.trans hk3⟩
        case measure => simp [intOf]
      · gi_wp2
        refine bodyPost_ret (results_none rfl _ _ _) rfl ?_
        exact ⟨⟨_, rfl⟩, .inr ⟨_, ⟨1, by omega, (dn_succ _).symm⟩, hJx3⟩⟩
    · have hcx := (hnx.cell (p := ⟨b, 2, none⟩) hb).trans (hc 2 (by omega))
      obtain ⟨fn, tmps, assign, body, hy, hR⟩ := hY _ (⟨2, by omega⟩ : K4) wr hJs (by rw [dn_length]; omega)
      dsimp only at hy
      push_cast at hy
      gi_wp2
      refine hR.mono ?_
      rintro e W3 (⟨rfl, hJ3, hk3⟩ | ⟨rfl, hJx3⟩)
      · gi_wp2
        go_roundw
        case rel => exact ⟨2, by omega, by simp, by rw [dn_succ]; exact hJ3, hnx.trans hk3⟩
        case measure => simp [intOf]
      · gi_wp2
        refine bodyPost_ret (results_none rfl _ _ _) rfl ?_
        exact ⟨⟨_, rfl⟩, .inr ⟨_, ⟨2, by omega, (dn_succ _).symm⟩, hJx3⟩⟩
    · have hcx := (hnx.cell (p := ⟨b, 1, none⟩) hb).trans (hc 1 (by omega))
      obtain ⟨fn, tmps, assign, body, hy, hR⟩ := hY _ (⟨1, by omega⟩ : K4) wr hJs (by rw [dn_length]; omega)
      dsimp only at hy
      push_cast at hy
      gi_wp2
      refine hR.mono ?_
      rintro e W3 (⟨rfl, hJ3, hk3⟩ | ⟨rfl, hJx3⟩)
      · gi_wp2
        go_roundw
        case rel => exact ⟨3, by omega, by simp, by rw [dn_succ]; exact hJ3, hnx.trans hk3⟩
        case measure => simp [intOf]
      · gi_wp2
        refine bodyPost_ret (results_none rfl _ _ _) rfl ?_
        exact ⟨⟨_, rfl⟩, .inr ⟨_, ⟨3, by omega, (dn_succ _).symm⟩, hJx3⟩⟩
    · have hcx := (hnx.cell (p := ⟨b, 0, none⟩) hb).trans (hc 0 (by omega))
      obtain ⟨fn, tmps, assign, body, hy, hR⟩ := hY _ (⟨0, by omega⟩ : K4) wr hJs (by rw [dn_length]; omega)
      dsimp only at hy
      push_cast at hy
      gi_wp2
      refine hR.mono ?_
      rintro e W3 (⟨rfl, hJ3, hk3⟩ | ⟨rfl, hJx3⟩)
      · gi_wp2
        go_roundw
        case rel => exact ⟨4, by omega, by simp, by rw [dn_succ]; exact hJ3, hnx.trans hk3⟩
        case measure => simp [intOf]
      · gi_wp2
        refine bodyPost_ret (results_none rfl _ _ _) rfl ?_
        exact ⟨⟨_, rfl⟩, .inr ⟨_, ⟨4, by omega, (dn_succ _).symm⟩, hJx3⟩⟩
/-- What it hands back is a sequence that can be stopped. -/
theorem back_stops (F : Fence) (n : Nat) (h48 : F.fn 79) (hro : F.round = none) (hn : 1 ≤ n) (Bs n₀ b N : Nat) (w : World) (hb : b < n₀) (hBl : Bs < n₀) (hn₀ : n₀ ≤ w.heap.size)
    (hBs : w.cell? ⟨Bs, 0, none⟩ = some (.slice (some ⟨b, 0, none⟩) 4 4)) (hc : ∀ j, j < 4 → w.cell? ⟨b, j, none⟩ = some (.int .u64 (lb N j))) :
    SeqStopsK F n Try.prog 79 #[.pointer (some ⟨Bs, 0, none⟩)] (fun x : K4 => #[Value.int .i64 (x.1 : Int), Value.int .u64 (lb N x.1)]) (Below n₀) (fun ys => ys = dn 4)
      (fun pre => ∃ k, k ≤ 4 ∧ pre = dn k) 4 w := fun l J Jx W hW _ _ hY h0 => by
  have hBs' := (hW.cell (p := ⟨Bs, 0, none⟩) (by show Bs < _; omega)).trans hBs
  exact back1_in F n h48 hro hn l Bs n₀ b N hb J Jx hY W hBs' hBl (fun j hj => (hW.cell (p := ⟨b, j, none⟩) (by show b < _; omega)).trans (hc j hj)) h0
end Go.Proofs.Ytapjonmgjccpbaa
end
section
set_option linter.unusedSimpArgs false
set_option linter.unusedVariables false
namespace Go.Proofs.Ytapjonmgjccpbaa
open Go.RowKit Go.Shelf
attribute [local go_sem] Oper.semAt_some

theorem bitLen_le64 (x : Int) (h : 0 ≤ x ∧ x < 18446744073709551616) : Lib.bitLen x.toNat ≤ 64 := Lib.bitLen_le _ 64 (by omega) (by omega)
theorem lb_ub (n i : Nat) : lb n i ≤ 18446744073709551615 := by have := lb_bd n i; omega
/-- The first limb that is not 0, from the highest on, tells how many bits there are. -/
theorem bl_first (n : Nat) (hn : n < M256) (k : Nat) (hk : k < 4) (hz : ∀ i, k < i → i < 4 → lb n i = 0) (hx : lb n k ≠ 0) : (64 * k : Nat) + Lib.bitLen (lb n k).toNat = bl n := by
  have hb := lb_bd n k
  rw [bitLen_bl _ (by omega)]
  have hd : n = n % 2 ^ (64 * k) + 2 ^ (64 * k) * (lb n k).toNat := by
    have a := lb_val n hn
    have c := lb_lim n
    have h4 : k = 0 ∨ k = 1 ∨ k = 2 ∨ k = 3 := by omega
    rcases h4 with rfl | rfl | rfl | rfl
    · have z1 := hz 1 (by omega) (by omega); have z2 := hz 2 (by omega) (by omega); have z3 := hz 3 (by omega) (by omega)
      simp only [Nat.mul_zero, Nat.pow_zero, Nat.mod_one]
      unfold val at a; omega
    · have z2 := hz 2 (by omega) (by omega); have z3 := hz 3 (by omega) (by omega)
      simp only [Nat.mul_one, Nat.reducePow]
      unfold val at a; unfold lb at *
      simp only [Nat.reduceMul, Nat.reducePow, Nat.mul_zero, Nat.pow_zero, Nat.div_one] at *
      omega
    · have z3 := hz 3 (by omega) (by omega)
      simp only [Nat.reduceMul, Nat.reducePow]
      unfold val at a; unfold lb at *
      simp only [Nat.reduceMul, Nat.reducePow, Nat.mul_zero, Nat.pow_zero, Nat.div_one] at *
      omega
    · simp only [Nat.reduceMul, Nat.reducePow]
      unfold val at a; unfold lb at *
      simp only [Nat.reduceMul, Nat.reducePow, Nat.mul_zero, Nat.pow_zero, Nat.div_one] at *
      omega
  have := bl_add (64 * k) (lb n k).toNat (n % 2 ^ (64 * k)) (by omega) (Nat.mod_lt _ (Nat.two_pow_pos _))
  rw [← hd] at this
  omega
theorem bl_none (n : Nat) (hn : n < M256) (hz : ∀ i, i < 4 → lb n i = 0) : bl n = 0 := by
  have a := lb_val n hn
  rw [hz 0 (by omega), hz 1 (by omega), hz 2 (by omega), hz 3 (by omega)] at a
  have : n = 0 := by unfold val at a; omega
  subst this; rfl
theorem dn_zero {n : Nat} {j : Nat} (hj : j ≤ 4) (h : ∀ p ∈ dn j, lb n p.1 = 0) : ∀ i, 4 - j ≤ i → i < 4 → lb n i = 0 := by
  intro i h1 h2
  exact h ⟨i, h2⟩ (by simp only [dn, List.mem_map, List.mem_range]; exact ⟨3 - i, by omega, by ext; simp; omega⟩)
theorem dn_last {ini : List K4} {last : K4} {k : Nat} (hk : k ≤ 4) (h : dn k = ini ++ [last]) : ∃ j, k = j + 1 ∧ ini = dn j ∧ last.1 = 3 - j := by
  cases k with
  | zero => simp [dn] at h
  | succ j =>
    rw [dn_succ] at h
    obtain ⟨h1, h2⟩ := List.append_inj' h rfl
    simp at h2
    exact ⟨j, rfl, h1.symm, by rw [← h2]⟩
theorem lb_cells {w : World} {b N : Nat} {t : TypeId} (h : Bk w b (A4 (lb N 0) (lb N 1) (lb N 2) (lb N 3)) t) (j : Nat) (hj : j < 4) : w.cell? ⟨b, j, none⟩ = some (.int .u64 (lb N j)) := by
  rw [h.cell]
  have : j = 0 ∨ j = 1 ∨ j = 2 ∨ j = 3 := by omega
  rcases this with rfl | rfl | rfl | rfl <;> rfl
set_option maxRecDepth 100000 in
set_option maxHeartbeats 2000000 in
theorem bits (N : Nat) (hN : N < M256) (w : World) :
    Calls Try.prog 98 #[V N] w fun e W' => e = .returned (.int .i64 (bl N)) ∧ Below w.heap.size w W' := by
  have HN : Hid (N < M256) := hN
  clear hN
  refine (callsIn_wide (n := 6)).1 ?_
  refine callsIn_of_wp_marks Try.func98 rfl trivial ?_ rfl
  simp only [Try.ntmps98, List.size_toArray, List.length_cons, List.length_nil, Nat.reduceAdd, Nat.reduceSub, Array.replicate_succ, Array.replicate_zero, List.push_toArray, List.append_toArray, List.nil_append, List.cons_append]
  gi_wp2_with (refine ⟨trivial, ?_⟩; gi_at_call 50; refine (back_in _ _ trivial rfl _ _ _ _).mono ?_; rintro e w' ⟨rfl, rfl⟩)
  have bA := Bk.new w (A4 (lb N 0) (lb N 1) (lb N 2) (lb N 3)) 26
  have bR := Boxed.new (w.alloc (.cells (A4 (lb N 0) (lb N 1) (lb N 2) (lb N 3)) 26)) 3 (.int .i64 0)
  have bN := Bk.new ((w.alloc (.cells (A4 (lb N 0) (lb N 1) (lb N 2) (lb N 3)) 26)).alloc (.cells #[.int .i64 0] 3)) #[.slice (some ⟨w.heap.size, 0, none⟩) 4 4] 27
  rw [World.size_alloc] at bR
  rw [World.size_alloc, World.size_alloc] at bN
  have hB0 : Below w.heap.size w (((w.alloc (.cells (A4 (lb N 0) (lb N 1) (lb N 2) (lb N 3)) 26)).alloc (.cells #[.int .i64 0] 3)).alloc (.cells #[.slice (some ⟨w.heap.size, 0, none⟩) 4 4] 27)) := (((Below.refl _ w).alloc (Nat.le_refl _) _).alloc (by simp) _).alloc (by simp; omega) _
  refine wpIn_rangeFunc_ownG rfl (by omega) (gf := 79) (lb := #[.pointer (some ⟨w.heap.size + 1 + 1, 0, none⟩)]) rfl trivial (enters_of Try.func79 (by kernel_rfl) rfl)
    (back_stops _ _ trivial rfl (by omega) (w.heap.size + 1 + 1) (w.heap.size + 3) w.heap.size N _ (by omega) (by omega) (by simp) (bN.cell 0) (fun j hj => lb_cells ((bA.alloc _).alloc _) j hj)) belowK_t (belowK_b (by simp)) (Below.refl _ _) (fun _ => rfl)
    (fun pre W => ((∀ p ∈ pre, lb N p.1 = 0) ∧ W.cell? ⟨w.heap.size + 1, 0, none⟩ = some (.int .i64 0) ∧ W.frozen? ⟨w.heap.size + 1, 0, none⟩ = false) ∧ Below w.heap.size w W)
    (fun c pre W => (c = .ret ∧ ∃ ini last, pre = ini ++ [last] ∧ (∀ p ∈ ini, lb N p.1 = 0) ∧ lb N last.1 ≠ 0 ∧ W.cell? ⟨w.heap.size + 1, 0, none⟩ = some (.int .i64 (64 * (last.1 : Int) + (Lib.bitLen (lb N last.1).toNat : Int)))) ∧ Below w.heap.size w W)
    (OwnFrom.and (Own.from (fun s A B row hs hg hr => ⟨hs.1, cell_kept hs.2.1 hg hr, (frozen_kept hs.2.1 hg hr).trans hs.2.2⟩) _) (ownFrom_below (Nat.le_refl _) (by simp; omega)))
    (fun c => OwnFrom.and (Own.from (fun s A B row hs hg hr => by obtain ⟨hc, ini, last, e1, e2, e3, e4⟩ := hs; exact ⟨hc, ini, last, e1, e2, e3, cell_kept e4 hg hr⟩) _) (ownFrom_below (Nat.le_refl _) (by simp; omega)))
    ⟨⟨by simp, (bR.alloc _).cell, (bR.alloc _).frozen⟩, hB0⟩
    (fun x => { tmps := #[V N, .pointer (some ⟨w.heap.size, 0, none⟩), .pointer (some ⟨w.heap.size + 1, 0, none⟩), .int .i64 (x.1 : Int), .int .u64 (lb N x.1), .slice (some ⟨w.heap.size, 0, none⟩) 4 4, .func (.func 79) #[] #[.pointer (some ⟨w.heap.size + 1 + 1, 0, none⟩)], .int .i64 (x.1 : Int), .int .u64 (lb N x.1), undef, undef, undef, undef, undef, undef, undef], defers := [] }) ?assign ?body ?done ?stop
  case assign =>
    intro l x W K hK
    gi_wp2
    exact hK
  case body =>
    rintro l pre x W ⟨⟨hp, hcr, hfr⟩, hB⟩ _
    have hx4 := x.2
    have hbd := bitLen_le64 _ (lb_bd N x.1)
    by_cases hz : lb N x.1 = 0
    · have hzb : (lb N x.1 != 0) = false := by simp [hz]
      have HZ : Hid (lb N x.1 = 0) := hz
      clear hz
      gi_wp2
      exact ⟨KeepsFrom.refl _ _, Below.refl _ _, ⟨fun p hp' => (List.mem_append.1 hp').elim (hp p) (fun e => by simp at e; subst e; exact HZ.out), hcr, hfr⟩, hB⟩
    · have hzb : (lb N x.1 != 0) = true := by simp [hz]
      have HZ : Hid (¬ lb N x.1 = 0) := hz
      clear hz
      gi_wp2_with (refine ⟨trivial, ?_⟩; gi_at_call 116; refine (CallsIn.inRound l (callsIn_wide.2 (len64 (lb N x.1) _ (lb_bd _ _).1 (lb_ub _ _)))).mono ?_; rintro e w' ⟨rfl, rfl⟩)
      exact ⟨(KeepsOthers.setCell _ _ _).from _, ⟨rfl, pre, x, rfl, hp, HZ.out, World.cell?_setCell_same' _ _ _ (by rw [hcr]; rfl)⟩, hB.setCell (p := ⟨w.heap.size + 1, 0, none⟩) (by simp) _⟩
  case done =>
    rintro D ys W hD rfl ⟨⟨hne, hcr, hfr⟩, hB⟩ hK
    gi_wp2
    have hK' := (KeepsOthers.setCell W ⟨w.heap.size + 1, 0, none⟩ (.int .i64 0)).same D _ hK rfl
    refine ⟨by simp, .inl ⟨_, _, rfl, run_takeDeferred hK', ?_⟩⟩
    have hc5 := cell_kept (World.cell?_setCell_same' W ⟨w.heap.size + 1, 0, none⟩ (.int .i64 0) (by rw [hcr]; rfl)) (grownBy_putObj' _ D (.deferred none)) (fun r e => by cases e; exact ⟨_, hK', rfl⟩)
    refine ⟨.int .i64 0, ?_, by rw [bl_none N HN.out (fun i hi => dn_zero (Nat.le_refl 4) hne i (by omega) hi)]; rfl, (hB.setCell (p := ⟨w.heap.size + 1, 0, none⟩) (by simp) _).trans (belowK_b (w := w) (Nat.le_refl _) _ D _ _ (by simp at hD; omega) hK' rfl rfl)⟩
    simp [results, Try.f98, go_sem, hc5]
  case stop =>
    rintro D c pre W hD ⟨k, hk, rfl⟩ ⟨⟨rfl, ini, last, e1, e2, e3, e4⟩, hB⟩ hK
    gi_wp2
    refine ⟨by simp, .inl ⟨_, _, rfl, run_takeDeferred hK, ?_⟩⟩
    have hc5 := cell_kept e4 (grownBy_putObj' _ D (.deferred none)) (fun r e => by cases e; exact ⟨_, hK, rfl⟩)
    obtain ⟨j, rfl, rfl, hl⟩ := dn_last hk e1
    have hfin := bl_first N HN.out last.1 last.2 (fun i h1 h2 => dn_zero (by omega) e2 i (by omega) h2) e3
    have hfin' : 64 * (last.1 : Int) + (Lib.bitLen (lb N last.1).toNat : Int) = (bl N : Int) := by omega
    rw [hfin'] at hc5
    refine ⟨.int .i64 (bl N), ?_, rfl, hB.trans (belowK_b (w := w) (Nat.le_refl _) W D _ _ (by simp at hD; omega) hK rfl rfl)⟩
    simp [results, Try.f98, go_sem, hc5]
end Go.Proofs.Ytapjonmgjccpbaa
end
section
set_option linter.unusedSimpArgs false
set_option linter.unusedVariables false
namespace Go.Proofs.Ytapjonmgjccpbaa
open Go.RowKit

/-! A number's bytes. -/
def by8 (n i : Nat) : Int := ((n / 2 ^ (8 * i) % 256 : Nat) : Int)
def tlen (n : Nat) : Nat := (bl n + 7) / 8
def tnums (n : Nat) : List Int := (List.range (tlen n)).map fun p => by8 n (tlen n - 1 - p)
def tpart (n k : Nat) : List Int := (List.range (tlen n)).map fun p => if tlen n - 1 - p < k then by8 n (tlen n - 1 - p) else 0
theorem tlen_le (n : Nat) (h : n < M256) : tlen n ≤ 32 := by
  have : bl n ≤ 256 := (bl_iff n 256).2 (by unfold M256 at h; simpa using h)
  unfold tlen; omega
theorem info5 : (Try.prog.info? 5).map (fun i => (i.zero, i.size, i.bytes)) = some (some (.int .u8 0), 1, 1) := by kernel_rfl
def tarr (n k : Nat) : Array Value := ((tpart n k).map (Value.int .u8)).toArray
theorem tarr_zero (n : Nat) : tarr n 0 = madeCells #[.int .u8 0] (tlen n) := by
  apply Array.ext
  · simp [tarr, tpart, madeCells]
  · intro i h1 h2
    simp [tarr, tpart, madeCells, Nat.mod_one]
theorem tpart_get (n k p : Nat) (hp : p < tlen n) : (tpart n k)[p]? = some (if tlen n - 1 - p < k then by8 n (tlen n - 1 - p) else 0) := by
  simp [tpart, hp]
theorem tarr_get (n k p : Nat) (hp : p < tlen n) : (tarr n k)[p]? = some (.int .u8 (if tlen n - 1 - p < k then by8 n (tlen n - 1 - p) else 0)) := by
  simp only [tarr, List.getElem?_toArray, List.getElem?_map, tpart_get n k p hp, Option.map_some]
theorem tarr_set (n k : Nat) (hk : k < tlen n) : (tarr n k).setIfInBounds (tlen n - 1 - k) (.int .u8 (by8 n k)) = tarr n (k + 1) := by
  apply Array.ext_getElem?
  intro i
  rw [Array.getElem?_setIfInBounds]
  have hs : (tarr n k).size = tlen n := by simp [tarr, tpart]
  have hs' : (tarr n (k + 1)).size = tlen n := by simp [tarr, tpart]
  by_cases hi : i < tlen n
  · rw [tarr_get n (k + 1) i hi]
    split
    · next e =>
      subst e
      rw [if_pos (by omega)]
      have e1 : tlen n - 1 - (tlen n - 1 - k) = k := by omega
      rw [e1, if_pos (by omega)]
    · next e =>
      rw [tarr_get n k i hi]
      congr 2
      by_cases c : tlen n - 1 - i < k
      · rw [if_pos c, if_pos (by omega)]
      · rw [if_neg c, if_neg (by omega)]
  · rw [Array.getElem?_eq_none (by omega)]
    have hn' : (tarr n (k + 1))[i]? = none := Array.getElem?_eq_none (by omega)
    rw [hn']
    split
    · next e => rw [if_neg (by omega)]
    · rfl
theorem tpart_end (n : Nat) : tpart n (tlen n) = tnums n := by
  unfold tpart tnums
  apply List.map_congr_left
  intro p hp
  rw [List.mem_range] at hp
  rw [if_pos (by omega)]
theorem tnums_length (n : Nat) : (tnums n).length = tlen n := by simp [tnums]
theorem tnums_cell (n i : Nat) (hi : i < tlen n) : (tarr n (tlen n))[i]? = some (.int .u8 ((tnums n).getD i 0)) := by
  rw [tarr_get n _ i hi, if_pos (by omega)]
  simp [tnums, List.getD, hi]
theorem by8_eq (n k : Nat) (hk : k < 32) : lb n (k / 8) / 2 ^ (8 * (k % 8)) % 256 = by8 n k := by
  unfold lb by8
  have e : 8 * k = 64 * (k / 8) + 8 * (k % 8) := by omega
  rw [e, Nat.pow_add, ← Nat.div_div_eq_div_mul]
  generalize n / 2 ^ (64 * (k / 8)) = m
  have h8 : k % 8 < 8 := Nat.mod_lt _ (by omega)
  generalize k % 8 = r at h8
  have : r = 0 ∨ r = 1 ∨ r = 2 ∨ r = 3 ∨ r = 4 ∨ r = 5 ∨ r = 6 ∨ r = 7 := by omega
  rcases this with rfl | rfl | rfl | rfl | rfl | rfl | rfl | rfl <;> simp only [Nat.reduceMul, Nat.reducePow, Int.reducePow, Nat.mul_zero, Nat.pow_zero, Int.pow_zero, Nat.div_one] <;> omega
set_option maxHeartbeats 1000000 in
theorem text (n : Nat) (hn : n < M256) (w : World) :
    Calls Try.prog 82 #[V n] w fun e w' => e = .returned (.string (strOfNums (tnums n))) ∧ Below w.heap.size w w' := by
  have HN : Hid (n < M256) := hn
  have hL := tlen_le n hn
  have hbl : bl n ≤ 256 := (bl_iff n 256).2 (by unfold M256 at hn; simpa using hn)
  clear hn
  have hmk := fun w => run_make_row' (P := Try.prog) 51 5 (.int .u8 0) 1 Try.underlying51 info5 rfl .i64 .i64 (tlen n) (by omega) (by omega) w
  have hdiv : ((bl n : Int) + 7) / 8 = (tlen n : Int) := by unfold tlen; omega
  go_enter Try.func82, Try.ntmps82
  go_wp2_with (go_at_call 98; refine (bits n HN.out _).mono ?_; rintro e w1 ⟨rfl, hb1⟩)
  clear hmk hdiv
  have hsz := hb1.size
  simp only [World.size_alloc] at hsz hb1
  have hA : Bk w1 w.heap.size (A4 (lb n 0) (lb n 1) (lb n 2) (lb n 3)) 26 := (Bk.new _ _ _).below hb1 (by omega)
  have hb0 : Below w.heap.size w w1 := ((Below.refl _ _).alloc (Nat.le_refl _) _).trans (hb1.mono (by omega))
  clear hb1
  go_loopw [12] (fun i wr => ∃ k : Nat, k ≤ tlen n ∧ i = .int .i64 k ∧ Bk wr w.heap.size (A4 (lb n 0) (lb n 1) (lb n 2) (lb n 3)) 26 ∧ Bk wr w1.heap.size (tarr n k) 5 ∧ Below w.heap.size w wr) (fun i _ => tlen n - (intOf i).toNat)
  case atStart =>
    exact ⟨0, by omega, rfl, hA.alloc _, by rw [tarr_zero]; exact Bk.new _ _ _, hb0.alloc (by omega) _⟩
  case round =>
    clear hA hb0
    obtain ⟨k, hk, rfl, ha, hx, hbl0⟩ := hrel
    by_cases hlt : k < tlen n
    · have hak := lb_cells ha (k / 8) (by omega)
      have hxk := (hx.cell (tlen n - 1 - k)).trans (tarr_get n k (tlen n - 1 - k) (by omega))
      have hxf := hx.frozen (tlen n - 1 - k)
      have st := tarr_set n k hlt
      rw [← by8_eq n k (by omega)] at st
      go_wp2
      go_roundw
      case rel => exact ⟨k + 1, by omega, by go_num, ha.other (by simp; omega) _, hx.set _ _ st, hbl0.setCell (by simp; omega) _⟩
      case measure => simp [intOf]; omega
    · obtain rfl : k = tlen n := by omega
      have hcv := run_convert_bytes_arg (P := Try.prog) wr 51 5 Try.underlying51 Try.underlying5 w1.heap.size 0 (tlen n) (tlen n) (tnums n) (tnums_length n) (fun i hi => by rw [Nat.zero_add, hx.cell]; exact tnums_cell n i hi) 9 Try.underlying9
      go_wp2
      go_ret
      exact ⟨rfl, hbl0⟩
end Go.Proofs.Ytapjonmgjccpbaa
end
section
set_option linter.unusedSimpArgs false
set_option linter.unusedVariables false
namespace Go.Proofs.Ytapjonmgjccpbaa
open Go.RowKit

theorem lb_small (n : Nat) (h : n < 18446744073709551616) : lb n 0 = n ∧ lb n 1 = 0 ∧ lb n 2 = 0 ∧ lb n 3 = 0 := by
  unfold lb
  simp only [Nat.mul_zero, Nat.pow_zero, Nat.div_one, Nat.reduceMul, Nat.reducePow]
  omega
theorem V_small (n : Nat) (h : n < 18446744073709551616) : V n = .agg (A4 n 0 0 0) := by
  obtain ⟨h0, h1, h2, h3⟩ := lb_small n h
  rw [V, h0, h1, h2, h3]
end Go.Proofs.Ytapjonmgjccpbaa
end
section

end
section
set_option linter.unusedSimpArgs false
set_option linter.unusedVariables false
namespace Go.Proofs.Ytapjonmgjccpbaa
open Go.RowKit

/-! Which number some bytes are. -/
def takeV (l : List UInt8) : Nat := l.foldl (fun a b => a * 256 + b.toNat) 0
theorem foldl_take (l : List UInt8) (a : Nat) : l.foldl (fun a b => a * 256 + b.toNat) a = a * 2 ^ (8 * l.length) + takeV l := by
  induction l generalizing a with
  | nil => simp [takeV]
  | cons b t ih =>
    unfold takeV
    rw [List.foldl_cons, List.foldl_cons, ih, ih]
    simp only [Nat.zero_mul, Nat.zero_add, List.length_cons, Nat.mul_add, Nat.pow_add, Nat.add_mul, Nat.mul_one]
    have : a * 256 * 2 ^ (8 * t.length) = a * (2 ^ (8 * t.length) * 2 ^ 8) := by rw [Nat.mul_assoc, Nat.mul_comm 256]
    omega
theorem takeV_cons (b : UInt8) (t : List UInt8) : takeV (b :: t) = b.toNat * 2 ^ (8 * t.length) + takeV t := by
  have := foldl_take t b.toNat
  unfold takeV
  rw [List.foldl_cons]
  simp only [Nat.zero_mul, Nat.zero_add]
  exact this
theorem takeV_snoc (t : List UInt8) (b : UInt8) : takeV (t ++ [b]) = takeV t * 256 + b.toNat := by
  simp [takeV]
theorem takeV_lt (l : List UInt8) : takeV l < 2 ^ (8 * l.length) := by
  induction l with
  | nil => simp [takeV]
  | cons b t ih =>
    rw [takeV_cons, List.length_cons, Nat.mul_add, Nat.pow_add]
    have hb := b.toNat_lt
    have : (b.toNat + 1) * 2 ^ (8 * t.length) ≤ 256 * 2 ^ (8 * t.length) := Nat.mul_le_mul_right _ (by omega)
    rw [Nat.add_mul] at this
    omega
theorem takeV_M (l : List UInt8) (h : l.length ≤ 32) : takeV l < M256 := by
  have h1 := takeV_lt l
  have h2 : (2 : Nat) ^ (8 * l.length) ≤ 2 ^ 256 := Nat.pow_le_pow_right (by omega) (by omega)
  have h3 : (2 : Nat) ^ 256 = M256 := by decide
  omega
/-- A byte into bits that are 0. -/
theorem or_add (a c r : Nat) (hc : c < 256) (ha : a / 2 ^ (8 * r) % 256 = 0) : a ||| c * 2 ^ (8 * r) = a + c * 2 ^ (8 * r) := by
  have hp := Nat.two_pow_pos (8 * r)
  have h1 : a = 2 ^ (8 * r + 8) * (a / 2 ^ (8 * r + 8)) + a % 2 ^ (8 * r) := by
    have e1 : a / 2 ^ (8 * r) = 256 * (a / 2 ^ (8 * r) / 256) := by omega
    have e2 : a / 2 ^ (8 * r) / 256 = a / 2 ^ (8 * r + 8) := by rw [Nat.div_div_eq_div_mul, Nat.pow_add]
    have e3 := Nat.div_add_mod a (2 ^ (8 * r))
    rw [e1, e2, ← Nat.mul_assoc] at e3
    have e4 : (2 : Nat) ^ (8 * r + 8) = 2 ^ (8 * r) * 256 := by rw [Nat.pow_add]
    rw [← e4] at e3
    exact e3.symm
  have hlo : a % 2 ^ (8 * r) < 2 ^ (8 * r) := Nat.mod_lt _ hp
  generalize a / 2 ^ (8 * r + 8) = hi at h1
  generalize a % 2 ^ (8 * r) = lo at h1 hlo
  subst h1
  have hlo2 : lo < 2 ^ (8 * r + 8) := by rw [Nat.pow_add]; omega
  have h2 : 2 ^ (8 * r) * c + lo < 2 ^ (8 * r + 8) := by
    rw [Nat.pow_add]
    have : 2 ^ (8 * r) * (c + 1) ≤ 2 ^ (8 * r) * 2 ^ 8 := Nat.mul_le_mul_left _ (by omega)
    rw [Nat.mul_add] at this
    omega
  rw [Nat.two_pow_add_eq_or_of_lt hlo2, Nat.or_assoc, Nat.or_comm lo, Nat.mul_comm c, ← Nat.two_pow_add_eq_or_of_lt hlo, ← Nat.two_pow_add_eq_or_of_lt h2, ← Nat.two_pow_add_eq_or_of_lt hlo2]
  omega
theorem by8_low (m k : Nat) (h : m < 2 ^ (8 * k)) : by8 m k = 0 := by
  unfold by8
  rw [Nat.div_eq_of_lt h]; rfl
theorem by8_high (t k : Nat) : by8 (t * 2 ^ (8 * (k + 1))) k = 0 := by
  unfold by8
  rw [Nat.mul_add, Nat.pow_add]
  have : t * (2 ^ (8 * k) * 2 ^ (8 * 1)) / 2 ^ (8 * k) = t * 2 ^ (8 * 1) := by
    rw [Nat.mul_comm (2 ^ (8 * k)), ← Nat.mul_assoc]
    exact Nat.mul_div_cancel _ (Nat.two_pow_pos _)
  rw [this]
  omega
/-- A limb, with a byte more. -/
theorem limb_byte (m c k : Nat) (hm : m + c * 2 ^ (8 * k) < M256) (hk : k < 32) (hc : c < 256) (h0 : by8 m k = 0) :
    (A4 (lb m 0) (lb m 1) (lb m 2) (lb m 3)).setIfInBounds (k / 8) (.int .u64 (lb m (k / 8) + c * 2 ^ (8 * (k % 8)))) = A4 (lb (m + c * 2 ^ (8 * k)) 0) (lb (m + c * 2 ^ (8 * k)) 1) (lb (m + c * 2 ^ (8 * k)) 2) (lb (m + c * 2 ^ (8 * k)) 3) := by
  have h1 := by8_eq m k hk
  rw [h0] at h1
  have hb := lb_bd m (k / 8)
  have hmM : m < M256 := by omega
  have hv := lb_val m hmM
  have hl := lb_lim m
  have ek : 8 * k = 64 * (k / 8) + 8 * (k % 8) := by omega
  have hr : k % 8 < 8 := Nat.mod_lt _ (by omega)
  have hq : k / 8 = 0 ∨ k / 8 = 1 ∨ k / 8 = 2 ∨ k / 8 = 3 := by omega
  rw [ek, Nat.pow_add]
  generalize k % 8 = r at *
  generalize k / 8 = q at *
  have hr8 : r = 0 ∨ r = 1 ∨ r = 2 ∨ r = 3 ∨ r = 4 ∨ r = 5 ∨ r = 6 ∨ r = 7 := by omega
  have hlt : lb m q + c * 2 ^ (8 * r) < 18446744073709551616 := by
    rcases hr8 with rfl | rfl | rfl | rfl | rfl | rfl | rfl | rfl <;> simp only [Nat.reduceMul, Int.reducePow, Nat.mul_zero, Int.pow_zero] at h1 ⊢ <;> omega
  have hnn : 0 ≤ (c : Int) * 2 ^ (8 * r) := Int.mul_nonneg (by omega) (Int.le_of_lt (Int.pow_pos (by omega)))
  have hcast : ((c * 2 ^ (8 * r) : Nat) : Int) = (c : Int) * 2 ^ (8 * r) := by push_cast; rfl
  generalize hy : (c : Int) * 2 ^ (8 * r) = y at *
  generalize hyn : c * 2 ^ (8 * r) = yn at *
  have key : ∀ x0 x1 x2 x3 : Int, Lim x0 x1 x2 x3 → val x0 x1 x2 x3 = ((m + c * (2 ^ (64 * q) * 2 ^ (8 * r)) : Nat) : Int) → A4 x0 x1 x2 x3 = A4 (lb (m + c * (2 ^ (64 * q) * 2 ^ (8 * r))) 0) (lb (m + c * (2 ^ (64 * q) * 2 ^ (8 * r))) 1) (lb (m + c * (2 ^ (64 * q) * 2 ^ (8 * r))) 2) (lb (m + c * (2 ^ (64 * q) * 2 ^ (8 * r))) 3) := by
    intro x0 x1 x2 x3 h5 h6
    obtain ⟨e0, e1, e2, e3⟩ := lb_of _ _ _ _ _ h5 h6
    rw [← e0, ← e1, ← e2, ← e3]
  have hmul : c * (2 ^ (64 * q) * 2 ^ (8 * r)) = 2 ^ (64 * q) * yn := by rw [← hyn, Nat.mul_left_comm]
  rcases hq with rfl | rfl | rfl | rfl
  · refine Eq.trans ?_ (key (lb m 0 + y) (lb m 1) (lb m 2) (lb m 3) ?_ ?_)
    · rfl
    · unfold Lim at *; omega
    · rw [hmul]; unfold val at *; simp only [Nat.mul_zero, Nat.pow_zero]; omega
  · refine Eq.trans ?_ (key (lb m 0) (lb m 1 + y) (lb m 2) (lb m 3) ?_ ?_)
    · rfl
    · unfold Lim at *; omega
    · rw [hmul]; unfold val at *; simp only [Nat.reduceMul, Nat.reducePow]; omega
  · refine Eq.trans ?_ (key (lb m 0) (lb m 1) (lb m 2 + y) (lb m 3) ?_ ?_)
    · rfl
    · unfold Lim at *; omega
    · rw [hmul]; unfold val at *; simp only [Nat.reduceMul, Nat.reducePow]; omega
  · refine Eq.trans ?_ (key (lb m 0) (lb m 1) (lb m 2) (lb m 3 + y) ?_ ?_)
    · rfl
    · unfold Lim at *; omega
    · rw [hmul]; unfold val at *; simp only [Nat.reduceMul, Nat.reducePow]; omega
end Go.Proofs.Ytapjonmgjccpbaa

set_option linter.unusedSimpArgs false
set_option linter.unusedVariables false
namespace Go.Proofs.Ytapjonmgjccpbaa
open Go.RowKit

theorem or_byte (m c k : Nat) (hk : k < 32) (hc : c < 256) (h0 : by8 m k = 0) : Go.bits BinOp.or IntKind.u64 (lb m (k / 8)) (IntKind.u64.wrap (IntKind.u64.wrap (c : Int) * 2 ^ (8 * (k % 8)))) = lb m (k / 8) + c * 2 ^ (8 * (k % 8)) := by
  have h1 := by8_eq m k hk
  rw [h0] at h1
  have hb := lb_bd m (k / 8)
  obtain ⟨a, ha⟩ := Int.eq_ofNat_of_zero_le hb.1
  rw [ha] at h1 hb ⊢
  have hr : k % 8 < 8 := Nat.mod_lt _ (by omega)
  generalize k % 8 = r at *
  have e1 : IntKind.u64.wrap (c : Int) = c := by rw [IntKind.wrap_u64]; omega
  have e2 : (c : Int) * 2 ^ (8 * r) = ((c * 2 ^ (8 * r) : Nat) : Int) := by push_cast; rfl
  have h3 : a / 2 ^ (8 * r) % 256 = 0 := by
    have h7 : ((a / 2 ^ (8 * r) % 256 : Nat) : Int) = 0 := by rw [Int.natCast_emod, Int.natCast_ediv, Int.natCast_pow]; exact h1
    omega
  have h4 : c * 2 ^ (8 * r) < 18446744073709551616 := by
    have h5 : (2 : Nat) ^ (8 * r) ≤ 2 ^ 56 := Nat.pow_le_pow_right (by omega) (by omega)
    have h6 : c * 2 ^ (8 * r) ≤ 255 * 2 ^ 56 := Nat.mul_le_mul (by omega) h5
    omega
  rw [e1, e2]
  generalize hy : c * 2 ^ (8 * r) = y at *
  have e3 : IntKind.u64.wrap (y : Int) = y := by rw [IntKind.wrap_u64]; omega
  rw [e3, bits_or_u64_nat a y (by omega) h4, ← hy, or_add a c r hc h3]
  push_cast
  rfl
/-- One byte more from the end on. -/
theorem drop_step (s : ByteArray) (k : Nat) (h : k < s.size) : takeV (s.data.toList.drop (s.size - (k + 1))) = takeV (s.data.toList.drop (s.size - k)) + s[s.size - 1 - k].toNat * 2 ^ (8 * k) := by
  have e : s.size - (k + 1) = s.size - 1 - k := by omega
  rw [e, List.drop_eq_getElem_cons (by rw [data_len]; omega), takeV_cons]
  have e2 : s.size - 1 - k + 1 = s.size - k := by omega
  have e3 : (s.data.toList.drop (s.size - k)).length = k := by rw [List.length_drop, data_len]; omega
  rw [e2, e3, Nat.add_comm]
  rfl
theorem drop_lt (s : ByteArray) (k : Nat) (h : k ≤ s.size) : takeV (s.data.toList.drop (s.size - k)) < 2 ^ (8 * k) := by
  have := takeV_lt (s.data.toList.drop (s.size - k))
  rw [List.length_drop, data_len, show s.size - (s.size - k) = k by omega] at this
  exact this
theorem ne_of_size (s : ByteArray) (hp : 0 < s.size) : ¬ s.toList = [] := by
  intro h
  rw [ByteArray.toList_eq] at h
  have := congrArg List.length h
  simp at this
  rw [this] at hp
  simp at hp
theorem takeV_sM (s : ByteArray) (h : s.size ≤ 32) : takeV s.data.toList < M256 := takeV_M _ (by rw [data_len]; exact h)
end Go.Proofs.Ytapjonmgjccpbaa
end

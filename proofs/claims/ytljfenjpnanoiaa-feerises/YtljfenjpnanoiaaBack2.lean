import Derived.Test.YtljfenjpnanoiaaBack
set_option linter.unusedSimpArgs false
set_option linter.unusedVariables false
namespace Go.Proofs.Ytljfenjpnanoiaa
open Go.RowKit Go.Shelf
attribute [local go_sem] Oper.semAt_some

/-- What a round must keep for slices.Backward: the limbs, and the slice's own variable. -/
def Keep2 (b Bs : Nat) (W W' : World) : Prop := (∀ o, W'.cell? ⟨b, o, none⟩ = W.cell? ⟨b, o, none⟩) ∧ W'.cell? ⟨Bs, 0, none⟩ = W.cell? ⟨Bs, 0, none⟩
theorem Keep2.refl (b Bs : Nat) (W : World) : Keep2 b Bs W W := ⟨fun _ => rfl, rfl⟩
theorem Keep2.trans {b Bs : Nat} {A B C : World} (h : Keep2 b Bs A B) (k : Keep2 b Bs B C) : Keep2 b Bs A C := ⟨fun o => (k.1 o).trans (h.1 o), k.2.trans h.2⟩
theorem Keep2.set {b Bs : Nat} {A B : World} (h : Keep2 b Bs A B) {a : Addr} (h1 : b ≠ a.block) (h2 : Bs ≠ a.block) (u : Value) : Keep2 b Bs A (B.setCell a u) :=
  ⟨fun o => (World.cell?_of_block (Below.heap_setCell B a u b h1)).trans (h.1 o), (World.cell?_of_block (Below.heap_setCell B a u Bs h2)).trans h.2⟩
theorem keep2_b {b Bs : Nat} {w : World} (h1 : b < w.heap.size) (h2 : Bs < w.heap.size) (W : World) (l : Nat) (o o' : Obj) (hl : w.heap.size ≤ l) (h : W.heap[l]? = some o) (hc : o.isCells = false) (hw : o.isWalk = false) : Keep2 b Bs W (W.putObj l o') := by
  have hb := belowK_b (n₀ := w.heap.size) (w := w) (Nat.le_refl _) W l o o' hl h hc hw
  exact ⟨fun i => hb.cell (p := ⟨b, i, none⟩) h1, hb.cell (p := ⟨Bs, 0, none⟩) h2⟩
set_option maxRecDepth 100000 in
set_option maxHeartbeats 2000000 in
theorem back1k_in (F : Fence) (n : Nat) (h48 : F.fn 47) (hro : F.round = none) (hn : 1 ≤ n) (l Bs b N : Nat) (J Jx : List K4 → World → Prop)
    (hY : ∀ pre x W, J pre W → pre.length < 4 → YieldAt F (n - 1) Try.prog l #[.int .i64 (x.1 : Int), .int .u64 (lb N x.1)] W fun e W' =>
      (e = .returned (.bool true) ∧ J (pre ++ [x]) W' ∧ Keep2 b Bs W W') ∨ (e = .returned (.bool false) ∧ Jx (pre ++ [x]) W'))
    (W : World) (hBs : W.cell? ⟨Bs, 0, none⟩ = some (.slice (some ⟨b, 0, none⟩) 4 4)) (hc : ∀ j, j < 4 → W.cell? ⟨b, j, none⟩ = some (.int .u64 (lb N j))) (h0 : J [] W) :
    CallsIn F n Try.prog 47 #[.func (.yield l) #[] #[], .pointer (some ⟨Bs, 0, none⟩)] W fun e W' => (∃ v, e = .returned v) ∧
      ((∃ ys, ys = dn 4 ∧ J ys W') ∨ (∃ pre, (∃ k, k ≤ 4 ∧ pre = dn k) ∧ Jx pre W')) := by
  refine callsIn_of_wp Try.func47 rfl h48 ?_ hro
  simp only [Try.ntmps47, List.size_toArray, List.length_cons, List.length_nil, Nat.reduceAdd, Nat.reduceSub, Array.replicate_succ, Array.replicate_zero, List.push_toArray, List.append_toArray, List.nil_append, List.cons_append]
  gi_wp2
  gi_loopw [3] (fun i wr => ∃ j : Nat, j ≤ 4 ∧ i = .int .i64 (3 - (j : Int)) ∧ J (dn j) wr ∧ Keep2 b Bs W wr)
    (fun i _ => (intOf i + 1).toNat)
  case atStart => exact ⟨0, Nat.zero_le _, rfl, h0, Keep2.refl _ _ _⟩
  case round =>
    obtain ⟨j, hj, rfl, hJs, hnx⟩ := hrel
    have hBx := hnx.2.trans hBs
    have hj' : j = 4 ∨ j = 0 ∨ j = 1 ∨ j = 2 ∨ j = 3 := by omega
    rcases hj' with rfl | rfl | rfl | rfl | rfl
    · gi_wp2
      go_end0
      exact ⟨⟨_, rfl⟩, .inl ⟨_, rfl, hJs⟩⟩
    · have hcx := (hnx.1 3).trans (hc 3 (by omega))
      obtain ⟨fn, tmps, assign, body, hy, hR⟩ := hY _ (⟨3, by omega⟩ : K4) wr hJs (by rw [dn_length]; omega)
      dsimp only at hy
      push_cast at hy
      gi_wp2
      refine hR.mono ?_
      rintro e W3 (⟨rfl, hJ3, hk3⟩ | ⟨rfl, hJx3⟩)
      · gi_wp2
        go_roundw
        case rel => exact ⟨1, by omega, by simp, by rw [dn_succ]; exact hJ3, hnx.trans hk3⟩
        case measure => simp [intOf]
      · gi_wp2
        refine bodyPost_ret (results_none rfl _ _ _) rfl ?_
        exact ⟨⟨_, rfl⟩, .inr ⟨_, ⟨1, by omega, (dn_succ _).symm⟩, hJx3⟩⟩
    · have hcx := (hnx.1 2).trans (hc 2 (by omega))
      obtain ⟨fn, tmps, assign, body, hy, hR⟩ := hY _ (⟨2, by omega⟩ : K4) wr hJs (by rw [dn_length]; omega)
      dsimp only at hy
      push_cast at hy
      gi_wp2
      refine hR.mono ?_
      rintro e W3 (⟨rfl, hJ3, hk3⟩ | ⟨rfl, hJx3⟩)
      · gi_wp2
        go_roundw
        case rel => exact ⟨2, by omega, by simp, by rw [dn_succ]; exact hJ3, hnx.trans hk3⟩
        case measure => simp [intOf]
      · gi_wp2
        refine bodyPost_ret (results_none rfl _ _ _) rfl ?_
        exact ⟨⟨_, rfl⟩, .inr ⟨_, ⟨2, by omega, (dn_succ _).symm⟩, hJx3⟩⟩
    · have hcx := (hnx.1 1).trans (hc 1 (by omega))
      obtain ⟨fn, tmps, assign, body, hy, hR⟩ := hY _ (⟨1, by omega⟩ : K4) wr hJs (by rw [dn_length]; omega)
      dsimp only at hy
      push_cast at hy
      gi_wp2
      refine hR.mono ?_
      rintro e W3 (⟨rfl, hJ3, hk3⟩ | ⟨rfl, hJx3⟩)
      · gi_wp2
        go_roundw
        case rel => exact ⟨3, by omega, by simp, by rw [dn_succ]; exact hJ3, hnx.trans hk3⟩
        case measure => simp [intOf]
      · gi_wp2
        refine bodyPost_ret (results_none rfl _ _ _) rfl ?_
        exact ⟨⟨_, rfl⟩, .inr ⟨_, ⟨3, by omega, (dn_succ _).symm⟩, hJx3⟩⟩
    · have hcx := (hnx.1 0).trans (hc 0 (by omega))
      obtain ⟨fn, tmps, assign, body, hy, hR⟩ := hY _ (⟨0, by omega⟩ : K4) wr hJs (by rw [dn_length]; omega)
      dsimp only at hy
      push_cast at hy
      gi_wp2
      refine hR.mono ?_
      rintro e W3 (⟨rfl, hJ3, hk3⟩ | ⟨rfl, hJx3⟩)
      · gi_wp2
        go_roundw
        case rel => exact ⟨4, by omega, by simp, by rw [dn_succ]; exact hJ3, hnx.trans hk3⟩
        case measure => simp [intOf]
      · gi_wp2
        refine bodyPost_ret (results_none rfl _ _ _) rfl ?_
        exact ⟨⟨_, rfl⟩, .inr ⟨_, ⟨4, by omega, (dn_succ _).symm⟩, hJx3⟩⟩
/-- What it hands back is a sequence that can be stopped. -/
theorem backk_stops (F : Fence) (n : Nat) (h48 : F.fn 47) (hro : F.round = none) (hn : 1 ≤ n) (Bs b N : Nat) (w : World) (hb : b < w.heap.size) (hBl : Bs < w.heap.size)
    (hBs : w.cell? ⟨Bs, 0, none⟩ = some (.slice (some ⟨b, 0, none⟩) 4 4)) (hc : ∀ j, j < 4 → w.cell? ⟨b, j, none⟩ = some (.int .u64 (lb N j))) :
    SeqStopsK F n Try.prog 47 #[.pointer (some ⟨Bs, 0, none⟩)] (fun x : K4 => #[Value.int .i64 (x.1 : Int), Value.int .u64 (lb N x.1)]) (Keep2 b Bs) (fun ys => ys = dn 4)
      (fun pre => ∃ k, k ≤ 4 ∧ pre = dn k) 4 w := fun l J Jx W hW _ _ hY h0 => by
  have hBs' := (hW.cell (p := ⟨Bs, 0, none⟩) (by show Bs < _; omega)).trans hBs
  exact back1k_in F n h48 hro hn l Bs b N J Jx hY W hBs' (fun j hj => (hW.cell (p := ⟨b, j, none⟩) (by show b < _; omega)).trans (hc j hj)) h0
end Go.Proofs.Ytljfenjpnanoiaa

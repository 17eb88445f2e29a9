import Derived.Test.YtljfenjpnanoiaaFakeN
import Derived.Test.YtljfenjpnanoiaaFake
set_option linter.unusedSimpArgs false
set_option linter.unusedVariables false
namespace Go.Proofs.Ytljfenjpnanoiaa
open Go.RowKit

theorem num2_any (e : Int) (w : World) : Calls Try.prog 25 #[.int .i64 e] w fun r w' => r = .returned (.int .i64 e) ∧ w' = w := by
  go_enter Try.func25, Try.ntmps25
  go_wp2
  go_ret
  exact ⟨rfl, rfl⟩
/-- Does a number lie between 0 and another one? -/
def inB (n m : Int) : Bool := decide (0 ≤ n) && decide (n ≤ m)
set_option maxRecDepth 100000 in
set_option maxHeartbeats 1000000 in
theorem blob_no (x : Int) (h : x < 0 ∨ 1099511627776 < x) (w : World) : Calls Try.prog 24 #[.int .i64 x] w fun e w' => e = .returned (.tuple #[.agg (A4 0 0 0 0), .int .i64 1]) ∧ Below w.heap.size w w' := by
  have key : Calls Try.prog 24 #[.int .i64 x] w fun e w' => e = .returned (.tuple #[.agg (A4 0 0 0 0), .int .i64 1]) ∧ w' = w.alloc (.cells (A4 0 0 0 0) 25) := by
    rcases h with h | h
    · go_enter Try.func24, Try.ntmps24
      go_wp2
      refine bodyPost_ret (v := .tuple #[.agg (A4 0 0 0 0), .int .i64 1]) ?_ rfl ⟨rfl, rfl⟩
      simp [results, Try.results24, go_sem]
    · have h0 : ¬ x < 0 := by omega
      go_enter Try.func24, Try.ntmps24
      go_wp2
      refine bodyPost_ret (v := .tuple #[.agg (A4 0 0 0 0), .int .i64 1]) ?_ rfl ⟨rfl, rfl⟩
      simp [results, Try.results24, go_sem]
  refine key.mono fun e w' h => ⟨h.1, ?_⟩
  rw [h.2]; exact (Below.refl _ _).alloc (Nat.le_refl _) _
set_option maxRecDepth 100000 in
set_option maxHeartbeats 1000000 in
theorem blob (x : Nat) (h : x ≤ 1099511627776) (w : World) : Calls Try.prog 24 #[.int .i64 (x : Int)] w fun e w' => (∃ v, e = .returned (.tuple #[V v, .int .i64 0]) ∧ BlobS x v) ∧ Below w.heap.size w w' := by
  have h0 : ¬ (x : Int) < 0 := by omega
  have h1 : ¬ 1099511627776 < (x : Int) := by omega
  have hw : IntKind.u64.wrap (x : Int) = x := by rw [IntKind.wrap_u64]; omega
  have hfk : ∀ w, Calls Try.prog 40 #[.agg (A4 1 0 0 0), .agg (A4 (x : Int) 0 0 0), .agg (A4 3338477 0 0 0)] w fun e w' => (∃ r y, e = .returned (.tuple #[V r, .int .i64 y]) ∧ FkS 1 x 3338477 r y) ∧ Below w.heap.size w w' := fun w => by
    have := fake 1 x 3338477 (by decide) (by unfold M256; omega) (by decide) (by decide) w
    rw [V_small 1 (by omega), V_small x (by omega), V_small 3338477 (by omega)] at this
    exact this
  have HMX : Hid (V (M256 - 1) = .agg (A4 18446744073709551615 18446744073709551615 18446744073709551615 18446744073709551615)) := V_max
  clear h
  go_enter Try.func24, Try.ntmps24
  go_upto_region 4 with (go_at_call 40; refine (hfk _).mono ?_; rintro e w1 ⟨⟨r, y, rfl, hF⟩, hb1⟩)
  have HF : Hid (FkS 1 x 3338477 r y) := hF
  have hy := hF.lt.2
  clear hF
  have bR := ((Bk.new w (A4 0 0 0 0) 25).below hb1 (by simp)).alloc (.cells (A4 (lb (r) 0) (lb (r) 1) (lb (r) 2) (lb (r) 3)) 25)
  have bV := Bk.new w1 (A4 (lb (r) 0) (lb (r) 1) (lb (r) 2) (lb (r) 3)) 25
  have hB1 := (((Below.refl _ w).alloc (Nat.le_refl _) (.cells (A4 0 0 0 0) 25)).trans (hb1.mono (by simp))).alloc (by have := hb1.size; simp at this; omega) (.cells (A4 (lb (r) 0) (lb (r) 1) (lb (r) 2) (lb (r) 3)) 25)
  have hg : w.heap.size < w1.heap.size := by have := hb1.size; simp at this; omega
  obtain ⟨Y, hY⟩ : ∃ Y, Y = w1.heap.size := ⟨_, rfl⟩
  rw [← hY] at bV hg ⊢
  clear hY hb1
  generalize w1.alloc _ = w2 at *
  have r0 := bR.cell 0
  have rf0 := bR.frozen 0
  have r1 := bR.cell 1
  have rf1 := bR.frozen 1
  have r2 := bR.cell 2
  have rf2 := bR.frozen 2
  have r3 := bR.cell 3
  have rf3 := bR.frozen 3
  simp only [List.getElem?_toArray, List.getElem?_cons_zero, List.getElem?_cons_succ] at r0 r1 r2 r3
  have v0 := bV.cell 0
  have vf0 := bV.frozen 0
  have v1 := bV.cell 1
  have vf1 := bV.frozen 1
  have v2 := bV.cell 2
  have vf2 := bV.frozen 2
  have v3 := bV.cell 3
  have vf3 := bV.frozen 3
  simp only [List.getElem?_toArray, List.getElem?_cons_zero, List.getElem?_cons_succ] at v0 v1 v2 v3
  rcases hy with rfl | rfl
  · go_wp2
    have kR := set4_Bk bR (.int .u64 (lb (r) 0)) (.int .u64 (lb (r) 1)) (.int .u64 (lb (r) 2)) (.int .u64 (lb (r) 3))
    have hBr := set4_below hB1 (b := w.heap.size) (Nat.le_refl _) (.int .u64 (lb (r) 0)) (.int .u64 (lb (r) 1)) (.int .u64 (lb (r) 2)) (.int .u64 (lb (r) 3))
    generalize World.setCell _ _ _ = W9 at kR hBr ⊢
    have u0 := kR.cell 0
    have uf0 := kR.frozen 0
    have u1 := kR.cell 1
    have uf1 := kR.frozen 1
    have u2 := kR.cell 2
    have uf2 := kR.frozen 2
    have u3 := kR.cell 3
    have uf3 := kR.frozen 3
    simp only [List.getElem?_toArray, List.getElem?_cons_zero, List.getElem?_cons_succ] at u0 u1 u2 u3
    refine bodyPost_ret (v := .tuple #[V r, .int .i64 0]) ?_ rfl ⟨⟨r, rfl, r, 0, HF.out, by simp⟩, hBr⟩
    simp [results, Try.results24, go_sem, u0, u1, u2, u3]
  · go_wp2
    have kR := set4_Bk bR (.int .u64 18446744073709551615) (.int .u64 18446744073709551615) (.int .u64 18446744073709551615) (.int .u64 18446744073709551615)
    have hBr := set4_below hB1 (b := w.heap.size) (Nat.le_refl _) (.int .u64 18446744073709551615) (.int .u64 18446744073709551615) (.int .u64 18446744073709551615) (.int .u64 18446744073709551615)
    generalize World.setCell _ _ _ = W9 at kR hBr ⊢
    have u0 := kR.cell 0
    have uf0 := kR.frozen 0
    have u1 := kR.cell 1
    have uf1 := kR.frozen 1
    have u2 := kR.cell 2
    have uf2 := kR.frozen 2
    have u3 := kR.cell 3
    have uf3 := kR.frozen 3
    simp only [List.getElem?_toArray, List.getElem?_cons_zero, List.getElem?_cons_succ] at u0 u1 u2 u3
    refine bodyPost_ret (v := .tuple #[V (M256 - 1), .int .i64 0]) ?_ rfl ⟨⟨_, rfl, r, 8, HF.out, by simp⟩, hBr⟩
    rw [HMX.out]
    simp [results, Try.results24, go_sem, u0, u1, u2, u3]
set_option maxRecDepth 100000 in
set_option maxHeartbeats 1000000 in
theorem wakes2 (w : World) : Calls Try.prog 27 #[] w fun e w' => e = .returned (.bool true) ∧ Below w.heap.size w w' := by
  have hbl : ∀ w, Calls Try.prog 24 #[.int .i64 0] w fun e w' => e = .returned (.tuple #[.agg (A4 1 0 0 0), .int .i64 0]) ∧ Below w.heap.size w w' := fun w => by
    refine (blob 0 (by omega) w).mono ?_
    rintro e w' ⟨⟨v, rfl, hv⟩, hb⟩
    obtain rfl := hv.one blob_zero
    exact ⟨by rw [V_small 1 (by omega)]; rfl, hb⟩
  have he : ∀ w, (binOp .eql 25 (.agg (A4 1 0 0 0)) (.agg (A4 1 0 0 0))).run Try.prog w = .ok (.bool true) w := fun w => by rw [eql26, eq4_same]
  go_enter Try.func27, Try.ntmps27
  go_wp2_with (first | (go_at_call 24; refine (hbl _).mono ?_; rintro e w1 ⟨rfl, hb1⟩) | (go_at_call 25; refine (num2_any _ _).mono ?_; rintro e w2 ⟨rfl, rfl⟩))
  go_ret
  exact ⟨rfl, hb1.alloc hb1.size _⟩
end Go.Proofs.Ytljfenjpnanoiaa

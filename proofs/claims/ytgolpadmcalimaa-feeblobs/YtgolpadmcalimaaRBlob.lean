import Derived.Test.YtgolpadmcalimaaRFake
import Derived.Test.YtgolpadmcalimaaAll
set_option linter.unusedSimpArgs false
set_option linter.unusedVariables false
namespace Go.Proofs.Ytgolpadmcalimaa
open Go.RowKit

set_option maxRecDepth 100000 in
set_option maxHeartbeats 1000000 in
theorem rblob (x : Nat) (h : x ≤ 1099511627776) (w : World) : Calls Try.prog 18 #[.int .i64 (x : Int)] w fun e w' => (∃ v, e = .returned (V v) ∧ BlobS x v) ∧ Below w.heap.size w w' := by
  have hfk : ∀ w, Calls Try.prog 13 #[.agg (A4 1 0 0 0), .agg (A4 (x : Int) 0 0 0), .agg (A4 3338477 0 0 0)] w fun e w' => (∃ r y, e = .returned (.tuple #[V r, .int .i64 y]) ∧ FkS 1 x 3338477 r y) ∧ Below w.heap.size w w' := fun w => by
    have := rfake 1 x 3338477 (by decide) (by unfold M256; omega) (by decide) (by decide) w
    rw [V_small 1 (by omega), V_small x (by omega), V_small 3338477 (by omega)] at this
    exact this
  have ho1 : ∀ w, Calls Try.prog 36 #[.int .i64 1] w fun e w' => e = .returned (.agg (A4 1 0 0 0)) ∧ Below w.heap.size w w' := fun w => rof 1 (by omega) w
  have ho3 : ∀ w, Calls Try.prog 36 #[.int .i64 3338477] w fun e w' => e = .returned (.agg (A4 3338477 0 0 0)) ∧ Below w.heap.size w w' := fun w => rof 3338477 (by omega) w
  have ho2 := fun w => rof x (by omega) w
  have HMX : Hid (V (M256 - 1) = .agg (A4 18446744073709551615 18446744073709551615 18446744073709551615 18446744073709551615)) := V_max
  clear h
  go_enter Try.func18, Try.ntmps18
  go_wp2_with fail
  refine (ho1 _).mono ?_
  rintro e w1 ⟨rfl, hb1⟩
  go_wp2_with fail
  refine (ho2 _).mono ?_
  rintro e w2 ⟨rfl, hb2⟩
  go_wp2_with fail
  refine (ho3 _).mono ?_
  rintro e w3 ⟨rfl, hb3⟩
  go_upto_region 2 with (go_at_call 13; refine (hfk _).mono ?_; rintro e w4 ⟨⟨r, y, rfl, hF⟩, hb4⟩)
  have HF : Hid (FkS 1 x 3338477 r y) := hF
  have hy := hF.lt.2
  clear hF
  have s1 := hb1.size
  have s2 := hb2.size
  have s3 := hb3.size
  have s4 := hb4.size
  simp only [World.size_alloc] at s1
  have bR := (((((Bk.new w (A4 0 0 0 0) 25).below hb1 (by simp)).below hb2 (by omega)).below hb3 (by omega)).below hb4 (by omega)).alloc (.cells (A4 (lb (r) 0) (lb (r) 1) (lb (r) 2) (lb (r) 3)) 25)
  have bV := Bk.new w4 (A4 (lb (r) 0) (lb (r) 1) (lb (r) 2) (lb (r) 3)) 25
  have hB4 := ((((((Below.refl _ w).alloc (Nat.le_refl _) (.cells (A4 0 0 0 0) 25)).trans (hb1.mono (by simp))).trans (hb2.mono (by omega))).trans (hb3.mono (by omega))).trans (hb4.mono (by omega))).alloc (by omega) (.cells (A4 (lb (r) 0) (lb (r) 1) (lb (r) 2) (lb (r) 3)) 25)
  have hg : w.heap.size < w4.heap.size := by omega
  obtain ⟨Y, hY⟩ : ∃ Y, Y = w4.heap.size := ⟨_, rfl⟩
  rw [← hY] at bV hg ⊢
  clear hY hb1 hb2 hb3 hb4 s1 s2 s3 s4
  generalize w4.alloc _ = w5 at *
  have r0 := bR.cell 0
  have rf0 := bR.frozen 0
  have r1 := bR.cell 1
  have rf1 := bR.frozen 1
  have r2 := bR.cell 2
  have rf2 := bR.frozen 2
  have r3 := bR.cell 3
  have rf3 := bR.frozen 3
  simp only [List.getElem?_toArray, List.getElem?_cons_zero, List.getElem?_cons_succ] at r0 r1 r2 r3
  have v0 := bV.cell 0
  have vf0 := bV.frozen 0
  have v1 := bV.cell 1
  have vf1 := bV.frozen 1
  have v2 := bV.cell 2
  have vf2 := bV.frozen 2
  have v3 := bV.cell 3
  have vf3 := bV.frozen 3
  simp only [List.getElem?_toArray, List.getElem?_cons_zero, List.getElem?_cons_succ] at v0 v1 v2 v3
  rcases hy with rfl | rfl
  · go_wp2
    have kR := set4_Bk bR (.int .u64 (lb (r) 0)) (.int .u64 (lb (r) 1)) (.int .u64 (lb (r) 2)) (.int .u64 (lb (r) 3))
    have hBr := set4_below hB4 (b := w.heap.size) (Nat.le_refl _) (.int .u64 (lb (r) 0)) (.int .u64 (lb (r) 1)) (.int .u64 (lb (r) 2)) (.int .u64 (lb (r) 3))
    generalize World.setCell _ _ _ = W9 at kR hBr ⊢
    have u0 := kR.cell 0
    have uf0 := kR.frozen 0
    have u1 := kR.cell 1
    have uf1 := kR.frozen 1
    have u2 := kR.cell 2
    have uf2 := kR.frozen 2
    have u3 := kR.cell 3
    have uf3 := kR.frozen 3
    simp only [List.getElem?_toArray, List.getElem?_cons_zero, List.getElem?_cons_succ] at u0 u1 u2 u3
    refine bodyPost_ret (v := V r) ?_ rfl ⟨⟨r, rfl, r, 0, HF.out, by simp⟩, hBr⟩
    simp [results, Try.results18, go_sem, u0, u1, u2, u3]
  · have lR := bR.lt
    go_wp2_with (go_at_call 37; refine (most_any _).mono ?_; rintro e w6 ⟨rfl, rfl⟩)
    have kR := (set4_Bk bR (.int .u64 18446744073709551615) (.int .u64 18446744073709551615) (.int .u64 18446744073709551615) (.int .u64 18446744073709551615)).alloc (.cells (A4 18446744073709551615 18446744073709551615 18446744073709551615 18446744073709551615) 25)
    have hBr := (set4_below hB4 (b := w.heap.size) (Nat.le_refl _) (.int .u64 18446744073709551615) (.int .u64 18446744073709551615) (.int .u64 18446744073709551615) (.int .u64 18446744073709551615)).alloc (by simp; omega) (.cells (A4 18446744073709551615 18446744073709551615 18446744073709551615 18446744073709551615) 25)
    generalize World.alloc _ _ = W9 at kR hBr ⊢
    have u0 := kR.cell 0
    have uf0 := kR.frozen 0
    have u1 := kR.cell 1
    have uf1 := kR.frozen 1
    have u2 := kR.cell 2
    have uf2 := kR.frozen 2
    have u3 := kR.cell 3
    have uf3 := kR.frozen 3
    simp only [List.getElem?_toArray, List.getElem?_cons_zero, List.getElem?_cons_succ] at u0 u1 u2 u3
    refine bodyPost_ret (v := V (M256 - 1)) ?_ rfl ⟨⟨_, rfl, r, 8, HF.out, by simp⟩, hBr⟩
    rw [HMX.out]
    simp [results, Try.results18, go_sem, u0, u1, u2, u3]
end Go.Proofs.Ytgolpadmcalimaa

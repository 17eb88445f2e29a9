import Derived.Test.YtgolpadmcalimaaFakeN
import Derived.Test.YtgolpadmcalimaaRDiv
import Derived.Test.YtgolpadmcalimaaRMul
import Derived.Test.YtgolpadmcalimaaRAdd
import Derived.Test.YtgolpadmcalimaaEql
import Derived.Test.YtgolpadmcalimaaBlk
import Derived.Test.YtgolpadmcalimaaWakes
import Derived.Deep.RegionWith
import Derived.Deep.DeepCutAuto
import Derived.Deep.CutBlock
import Derived.Deep.RegionHeld3
set_option linter.unusedSimpArgs false
set_option linter.unusedVariables false
namespace Go.Proofs.Ytgolpadmcalimaa
open Go.RowKit

theorem rof (n : Nat) (h : n ≤ 9223372036854775807) (w : World) : Calls Try.prog 36 #[.int .i64 (n : Int)] w fun e w' => e = .returned (.agg (A4 (n : Int) 0 0 0)) ∧ Below w.heap.size w w' := by
  have hw : IntKind.u64.wrap (n : Int) = n := by rw [IntKind.wrap_u64]; omega
  go_enter Try.func36, Try.ntmps36
  go_wp2
  refine bodyPost_ret (v := .agg (A4 (n : Int) 0 0 0)) ?_ rfl ⟨rfl, (Below.refl _ _).alloc (Nat.le_refl _) _⟩
  simp [results, Try.results36, go_sem]
/-- What the page's own series holds. -/
structure RS (w W : World) (f n d : Nat) : Prop where
  bF : Bk W w.heap.size (A4 (lb (f) 0) (lb (f) 1) (lb (f) 2) (lb (f) 3)) 25
  bN : Bk W (w.heap.size + 1) (A4 (lb (n) 0) (lb (n) 1) (lb (n) 2) (lb (n) 3)) 25
  bD : Bk W (w.heap.size + 1 + 1) (A4 (lb (d) 0) (lb (d) 1) (lb (d) 2) (lb (d) 3)) 25
  bR : Bk W (w.heap.size + 1 + 1 + 1) (A4 0 0 0 0) 25
  bZ : Bk W (w.heap.size + 1 + 1 + 1 + 1) (A4 0 0 0 0) 25
  hB : Below w.heap.size w W
theorem RS.below {w A B : World} {f n d : Nat} (h : RS w A f n d) (hb : Below A.heap.size A B) : RS w B f n d :=
  ⟨h.bF.below hb h.bF.lt, h.bN.below hb h.bN.lt, h.bD.below hb h.bD.lt, h.bR.below hb h.bR.lt, h.bZ.below hb h.bZ.lt, h.hB.trans (hb.mono h.hB.size)⟩
theorem RS.alloc {w A : World} {f n d : Nat} (h : RS w A f n d) (o : Obj) : RS w (A.alloc o) f n d := h.below ((Below.refl _ A).alloc (Nat.le_refl _) o)
theorem RS.set4 {w A : World} {f n d b : Nat} (h : RS w A f n d) (hb : w.heap.size + 1 + 1 + 1 + 1 < b) (u0 u1 u2 u3 : Value) : RS w ((((A.setCell ⟨b, 0, none⟩ u0).setCell ⟨b, 1, none⟩ u1).setCell ⟨b, 2, none⟩ u2).setCell ⟨b, 3, none⟩ u3) f n d :=
  ⟨set4_other h.bF (by omega) _ _ _ _, set4_other h.bN (by omega) _ _ _ _, set4_other h.bD (by omega) _ _ _ _, set4_other h.bR (by omega) _ _ _ _, set4_other h.bZ (by omega) _ _ _ _, set4_below h.hB (by omega) _ _ _ _⟩
theorem RS.lt {w A : World} {f n d : Nat} (h : RS w A f n d) : w.heap.size + 1 + 1 + 1 + 1 < A.heap.size := h.bZ.lt
def One4 (b n : Nat) (w' : World) : Prop := w'.cell? ⟨b, 0, none⟩ = some (.int .u64 (lb n 0)) ∧ w'.cell? ⟨b, 1, none⟩ = some (.int .u64 (lb n 1)) ∧ w'.cell? ⟨b, 2, none⟩ = some (.int .u64 (lb n 2)) ∧ w'.cell? ⟨b, 3, none⟩ = some (.int .u64 (lb n 3))
theorem One4.of {b n : Nat} {w : World} (h : Bk w b (A4 (lb (n) 0) (lb (n) 1) (lb (n) 2) (lb (n) 3)) 25) : One4 b n w := ⟨h.cell 0, h.cell 1, h.cell 2, h.cell 3⟩
theorem One4.below {b n : Nat} {w w' : World} (h : One4 b n w) (hb : Below w.heap.size w w') : One4 b n w' := by
  obtain ⟨h0, h1, h2, h3⟩ := h
  exact ⟨below_at hb (cell_lt h0) h0, below_at hb (cell_lt h1) h1, below_at hb (cell_lt h2) h2, below_at hb (cell_lt h3) h3⟩
theorem One4.drew {b n : Nat} {w : World} (h : One4 b n w) : One4 b n w.drew := h
theorem One4.alloc {b n : Nat} {w : World} (h : One4 b n w) (x : Obj) : One4 b n (w.alloc x) := h.below ((Below.refl _ w).alloc (Nat.le_refl _) x)
theorem One4.set {b n : Nat} {w : World} (h : One4 b n w) {a : Addr} (ha : b ≠ a.block) (u : Value) : One4 b n (w.setCell a u) := by
  have e : ∀ i, (w.setCell a u).cell? ⟨b, i, none⟩ = w.cell? ⟨b, i, none⟩ := fun i => World.cell?_of_block (Below.heap_setCell w a u b ha)
  unfold One4; simp only [e]; exact h
set_option maxRecDepth 100000 in
set_option maxHeartbeats 4000000 in
theorem rfake (f n d : Nat) (hf : f < M256) (hn : n < M256) (hd : d < M256) (hd0 : 0 < d) (w : World) :
    Calls Try.prog 13 #[V f, V n, V d] w fun e w' => (∃ r x, e = .returned (.tuple #[V r, .int .i64 x]) ∧ FkS f n d r x) ∧ Below w.heap.size w w' := by
  have Hf : Hid (f < M256) := hf
  have Hn : Hid (n < M256) := hn
  have Hd : Hid (d < M256) := hd
  have H0 : Hid (0 < d) := hd0
  have hne : ∀ w, (binOp .eql 25 (V d) (.agg (A4 0 0 0 0))).run Try.prog w = .ok (.bool false) w := fun w => by rw [eql26_0 d hd, decide_eq_false (by omega)]
  have hmul := fun w => rmul f d hf hd w
  clear hf hn hd hd0
  go_enter Try.func13, Try.ntmps13
  go_upto_region 2 with fail
  have hR : RS w (((((w.alloc (.cells (A4 (lb (f) 0) (lb (f) 1) (lb (f) 2) (lb (f) 3)) 25)).alloc (.cells (A4 (lb (n) 0) (lb (n) 1) (lb (n) 2) (lb (n) 3)) 25)).alloc (.cells (A4 (lb (d) 0) (lb (d) 1) (lb (d) 2) (lb (d) 3)) 25)).alloc (.cells (A4 0 0 0 0) 25)).alloc (.cells (A4 0 0 0 0) 25)) f n d := ⟨((((Bk.new _ _ _).alloc _).alloc _).alloc _).alloc _, (((Bk.new' _ _ _ (by simp)).alloc _).alloc _).alloc _, ((Bk.new' _ _ _ (by simp)).alloc _).alloc _, (Bk.new' _ _ _ (by simp)).alloc _, Bk.new' _ _ _ (by simp), (((((Below.refl _ w).alloc (Nat.le_refl _) _).alloc (by simp) _).alloc (by simp; omega) _).alloc (by simp; omega) _).alloc (by simp; omega) _⟩
  generalize (((((w.alloc (.cells (A4 (lb (f) 0) (lb (f) 1) (lb (f) 2) (lb (f) 3)) 25)).alloc (.cells (A4 (lb (n) 0) (lb (n) 1) (lb (n) 2) (lb (n) 3)) 25)).alloc (.cells (A4 (lb (d) 0) (lb (d) 1) (lb (d) 2) (lb (d) 3)) 25)).alloc (.cells (A4 0 0 0 0) 25)).alloc (.cells (A4 0 0 0 0) 25)) = w5 at *
  have f0 := hR.bF.cell 0
  have ff0 := hR.bF.frozen 0
  have f1 := hR.bF.cell 1
  have ff1 := hR.bF.frozen 1
  have f2 := hR.bF.cell 2
  have ff2 := hR.bF.frozen 2
  have f3 := hR.bF.cell 3
  have ff3 := hR.bF.frozen 3
  simp only [List.getElem?_toArray, List.getElem?_cons_zero, List.getElem?_cons_succ] at f0 f1 f2 f3
  have d0 := hR.bD.cell 0
  have df0 := hR.bD.frozen 0
  have d1 := hR.bD.cell 1
  have df1 := hR.bD.frozen 1
  have d2 := hR.bD.cell 2
  have df2 := hR.bD.frozen 2
  have d3 := hR.bD.cell 3
  have df3 := hR.bD.frozen 3
  simp only [List.getElem?_toArray, List.getElem?_cons_zero, List.getElem?_cons_succ] at d0 d1 d2 d3
  have z0 := hR.bZ.cell 0
  have zf0 := hR.bZ.frozen 0
  have z1 := hR.bZ.cell 1
  have zf1 := hR.bZ.frozen 1
  have z2 := hR.bZ.cell 2
  have zf2 := hR.bZ.frozen 2
  have z3 := hR.bZ.cell 3
  have zf3 := hR.bZ.frozen 3
  simp only [List.getElem?_toArray, List.getElem?_cons_zero, List.getElem?_cons_succ] at z0 z1 z2 z3
  go_upto_region 5 with (go_at_call 34; refine (hmul _).mono ?_; rintro e w6 ⟨rfl, hb6⟩)
  have hR6 := (hR.below hb6).alloc (.cells (A4 (lb (mulV f d) 0) (lb (mulV f d) 1) (lb (mulV f d) 2) (lb (mulV f d) 3)) 25)
  have bA := Bk.new w6 (A4 (lb (mulV f d) 0) (lb (mulV f d) 1) (lb (mulV f d) 2) (lb (mulV f d) 3)) 25
  have hA0 : w.heap.size + 1 + 1 + 1 + 1 < w6.heap.size := (hR.below hb6).lt
  obtain ⟨A, hA⟩ : ∃ A, A = w6.heap.size := ⟨_, rfl⟩
  rw [← hA] at bA hA0 ⊢
  clear hA hb6 hR f0 f1 f2 f3 ff0 ff1 ff2 ff3 d0 d1 d2 d3 df0 df1 df2 df3 z0 z1 z2 z3 zf0 zf1 zf2 zf3
  generalize w6.alloc _ = w7 at *
  have hR := hR6
  have lR := hR.bR.lt
  have z0 := hR.bZ.cell 0
  have zf0 := hR.bZ.frozen 0
  have z1 := hR.bZ.cell 1
  have zf1 := hR.bZ.frozen 1
  have z2 := hR.bZ.cell 2
  have zf2 := hR.bZ.frozen 2
  have z3 := hR.bZ.cell 3
  have zf3 := hR.bZ.frozen 3
  simp only [List.getElem?_toArray, List.getElem?_cons_zero, List.getElem?_cons_succ] at z0 z1 z2 z3
  have r0 := hR.bR.cell 0
  have rf0 := hR.bR.frozen 0
  have r1 := hR.bR.cell 1
  have rf1 := hR.bR.frozen 1
  have r2 := hR.bR.cell 2
  have rf2 := hR.bR.frozen 2
  have r3 := hR.bR.cell 3
  have rf3 := hR.bR.frozen 3
  simp only [List.getElem?_toArray, List.getElem?_cons_zero, List.getElem?_cons_succ] at r0 r1 r2 r3
  by_cases hov : f * d < M256
  · have hok : mulOk f d = true := by simp [mulOk, hov]
    have hT0 := tm_zero f n d hov
    have HV : Hid (mulV f d = (tm f n d 0).1 ∧ (tm f n d 0).2 = 0) := by rw [hT0]; exact ⟨if_pos hov, rfl⟩
    rw [hok]
    rw [HV.out.1] at bA
    clear hok hov hT0 hmul
    go_upto_region 8 with fail
    have bA8 := bA.alloc (.cells (A4 0 0 0 0) 25)
    have bO8 := Bk.new w7 (A4 0 0 0 0) 25
    have hR8 := hR.alloc (.cells (A4 0 0 0 0) 25)
    have hAO : A < w7.heap.size := bA.lt
    obtain ⟨O, hO⟩ : ∃ O, O = w7.heap.size := ⟨_, rfl⟩
    rw [← hO] at bO8 hAO ⊢
    clear hO hR hR6 bA z0 z1 z2 z3 zf0 zf1 zf2 zf3 r0 r1 r2 r3 rf0 rf1 rf2 rf3 lR
    generalize w7.alloc _ = w8 at *
    go_wp2_with fail
    go_loopw [10, 12] (fun ok i wr => ∃ k : Nat, k ≤ 4096 ∧ ok = .bool true ∧ i = .int .i64 ((k + 1 : Nat) : Int) ∧ Alive f n d k ∧ (tm f n d k).2 = 0 ∧ sm f n d k < M256 ∧ RS w wr f n d ∧ Bk wr A (A4 (lb ((tm f n d k).1) 0) (lb ((tm f n d k).1) 1) (lb ((tm f n d k).1) 2) (lb ((tm f n d k).1) 3)) 25 ∧ Bk wr O (A4 (lb (sm f n d k) 0) (lb (sm f n d k) 1) (lb (sm f n d k) 2) (lb (sm f n d k) 3)) 25) (fun _ i _ => (4100 - intOf i).toNat)
    case atStart => exact ⟨0, by omega, rfl, rfl, fun j hj => absurd hj (by omega), HV.out.2, by show sumL [] < M256; decide, hR8, bA8, by simpa only [show sm f n d 0 = 0 from rfl, lb_zero] using bO8⟩
    case round =>
      clear hR8 bA8 bO8
      obtain ⟨k, hk, rfl, rfl, hal, hte, hsm, hR, bA, bO⟩ := hrel
      have HAl : Hid (Alive f n d k) := hal
      have HTE : Hid ((tm f n d k).2 = 0) := hte
      have HSM : Hid (sm f n d k < M256) := hsm
      have hterm : (tm f n d k).1 < M256 := tm_lt f n d k
      have lO := bO.lt
      have lR := hR.bR.lt
      clear hal hte hsm
      have a0 := bA.cell 0
      have af0 := bA.frozen 0
      have a1 := bA.cell 1
      have af1 := bA.frozen 1
      have a2 := bA.cell 2
      have af2 := bA.frozen 2
      have a3 := bA.cell 3
      have af3 := bA.frozen 3
      simp only [List.getElem?_toArray, List.getElem?_cons_zero, List.getElem?_cons_succ] at a0 a1 a2 a3
      have z0 := hR.bZ.cell 0
      have zf0 := hR.bZ.frozen 0
      have z1 := hR.bZ.cell 1
      have zf1 := hR.bZ.frozen 1
      have z2 := hR.bZ.cell 2
      have zf2 := hR.bZ.frozen 2
      have z3 := hR.bZ.cell 3
      have zf3 := hR.bZ.frozen 3
      simp only [List.getElem?_toArray, List.getElem?_cons_zero, List.getElem?_cons_succ] at z0 z1 z2 z3
      have r0 := hR.bR.cell 0
      have rf0 := hR.bR.frozen 0
      have r1 := hR.bR.cell 1
      have rf1 := hR.bR.frozen 1
      have r2 := hR.bR.cell 2
      have rf2 := hR.bR.frozen 2
      have r3 := hR.bR.cell 3
      have rf3 := hR.bR.frozen 3
      simp only [List.getElem?_toArray, List.getElem?_cons_zero, List.getElem?_cons_succ] at r0 r1 r2 r3
      by_cases ht : (tm f n d k).1 = 0
      · -- the end
        have hneq : ∀ w, (binOp .neq 25 (V (tm f n d k).1) (.agg (A4 0 0 0 0))).run Try.prog w = .ok (.bool false) w := fun w => by rw [neq26_0 _ hterm, ht]; rfl
        have HF : Hid (FkS f n d (sm f n d k / d) 0) := .inr ⟨rfl, k, ⟨HAl.out, HTE.out, ht, HSM.out⟩, rfl⟩
        have hdv := fun w => rdiv (sm f n d k) d HSM.out Hd.out H0.out w
        generalize sm f n d k / d = q at *
        generalize sm f n d k % d = t2 at *
        have HD : Hid (∀ w, Calls Try.prog 28 #[V (sm f n d k), V d] w fun e w' => e = .returned (.tuple #[V q, V t2]) ∧ Below w.heap.size w w') := hdv
        clear ht hterm hdv
        have o0 := bO.cell 0
        have of0 := bO.frozen 0
        have o1 := bO.cell 1
        have of1 := bO.frozen 1
        have o2 := bO.cell 2
        have of2 := bO.frozen 2
        have o3 := bO.cell 3
        have of3 := bO.frozen 3
        simp only [List.getElem?_toArray, List.getElem?_cons_zero, List.getElem?_cons_succ] at o0 o1 o2 o3
        have d0 := hR.bD.cell 0
        have df0 := hR.bD.frozen 0
        have d1 := hR.bD.cell 1
        have df1 := hR.bD.frozen 1
        have d2 := hR.bD.cell 2
        have df2 := hR.bD.frozen 2
        have d3 := hR.bD.cell 3
        have df3 := hR.bD.frozen 3
        simp only [List.getElem?_toArray, List.getElem?_cons_zero, List.getElem?_cons_succ] at d0 d1 d2 d3
        go_wp2_with (go_at_call 28; refine (HD.out _).mono ?_; rintro e w9 ⟨rfl, hb9⟩; have bR9 := hR.bR.below hb9 lR; have l9 := bR9.lt; have l9' : w.heap.size + 1 + 1 + 1 < w9.heap.size + 1 := (by omega); have y0 := bR9.cell 0; have yf0 := bR9.frozen 0; have y1 := bR9.cell 1; have yf1 := bR9.frozen 1; have y2 := bR9.cell 2; have yf2 := bR9.frozen 2; have y3 := bR9.cell 3; have yf3 := bR9.frozen 3; simp only [List.getElem?_toArray, List.getElem?_cons_zero, List.getElem?_cons_succ] at y0 y1 y2 y3)
        have kR := ((set4_Bk bR9 (.int .u64 (lb (q) 0)) (.int .u64 (lb (q) 1)) (.int .u64 (lb (q) 2)) (.int .u64 (lb (q) 3))).alloc (.cells (A4 (lb (q) 0) (lb (q) 1) (lb (q) 2) (lb (q) 3)) 25)).alloc (.cells (A4 (lb (t2) 0) (lb (t2) 1) (lb (t2) 2) (lb (t2) 3)) 25)
        have hBr := ((set4_below (hR.hB.trans (hb9.mono hR.hB.size)) (b := w.heap.size + 1 + 1 + 1) (by omega) (.int .u64 (lb (q) 0)) (.int .u64 (lb (q) 1)) (.int .u64 (lb (q) 2)) (.int .u64 (lb (q) 3))).alloc (by simp; omega) (.cells (A4 (lb (q) 0) (lb (q) 1) (lb (q) 2) (lb (q) 3)) 25)).alloc (by simp; omega) (.cells (A4 (lb (t2) 0) (lb (t2) 1) (lb (t2) 2) (lb (t2) 3)) 25)
        generalize World.alloc _ _ = W9 at kR hBr ⊢
        have u0 := kR.cell 0
        have uf0 := kR.frozen 0
        have u1 := kR.cell 1
        have uf1 := kR.frozen 1
        have u2 := kR.cell 2
        have uf2 := kR.frozen 2
        have u3 := kR.cell 3
        have uf3 := kR.frozen 3
        simp only [List.getElem?_toArray, List.getElem?_cons_zero, List.getElem?_cons_succ] at u0 u1 u2 u3
        refine bodyPost_ret (v := .tuple #[V q, .int .i64 0]) ?_ rfl ⟨⟨q, 0, rfl, HF.out⟩, hBr⟩
        simp [results, Try.results13, go_sem, u0, u1, u2, u3]
      · have hneq : ∀ w, (binOp .neq 25 (V (tm f n d k).1) (.agg (A4 0 0 0 0))).run Try.prog w = .ok (.bool true) w := fun w => by rw [neq26_0 _ hterm, decide_eq_false ht]; rfl
        have HT : Hid ((tm f n d k).1 ≠ 0) := ht
        have HA1 : Hid (Alive f n d (k + 1)) := alive_succ HAl.out HTE.out ht
        have HTm : Hid ((tm f n d k).1 < M256) := hterm
        clear ht hterm
        by_cases hk6 : k = 4096
        · have HOv : Hid (FkOver f n d) := ⟨k + 1, HA1.out, .inl (by rw [hk6]; exact tm_end f n d)⟩
          subst hk6
          have hgt : 4096 < ((4096 + 1 : Nat) : Int) := by omega
          go_wp2
          have kR := set4_Bk hR.bR (.int .u64 0) (.int .u64 0) (.int .u64 0) (.int .u64 0)
          have hBr := set4_below hR.hB (b := w.heap.size + 1 + 1 + 1) (by omega) (.int .u64 0) (.int .u64 0) (.int .u64 0) (.int .u64 0)
          generalize World.setCell _ _ _ = W9 at kR hBr ⊢
          have u0 := kR.cell 0
          have uf0 := kR.frozen 0
          have u1 := kR.cell 1
          have uf1 := kR.frozen 1
          have u2 := kR.cell 2
          have uf2 := kR.frozen 2
          have u3 := kR.cell 3
          have uf3 := kR.frozen 3
          simp only [List.getElem?_toArray, List.getElem?_cons_zero, List.getElem?_cons_succ] at u0 u1 u2 u3
          refine bodyPost_ret (v := .tuple #[V 0, .int .i64 8]) ?_ rfl ⟨⟨0, 8, rfl, .inl ⟨rfl, rfl, HOv.out⟩⟩, hBr⟩
          rw [V_zero]
          simp [results, Try.results13, go_sem, u0, u1, u2, u3]
        · have hgt : ¬ 4096 < ((k + 1 : Nat) : Int) := by omega
          have hadd := fun w => radd (sm f n d k) (tm f n d k).1 HSM.out HTm.out w
          by_cases hov : sm f n d k + (tm f n d k).1 < M256
          · rw [show addV (sm f n d k) (tm f n d k).1 = sm f n d (k + 1) from (if_pos hov).trans (sm_succ f n d k).symm, show addOk (sm f n d k) (tm f n d k).1 = true from decide_eq_true hov] at hadd
            have HS1 : Hid (sm f n d (k + 1) < M256) := by rw [sm_succ]; exact hov
            have HAD : Hid (∀ w, Calls Try.prog 35 #[V (sm f n d k), V (tm f n d k).1] w fun e w' => e = .returned (.tuple #[V (sm f n d (k + 1)), .bool true]) ∧ Below w.heap.size w w') := hadd
            clear hov hadd
            have o0 := bO.cell 0
            have of0 := bO.frozen 0
            have o1 := bO.cell 1
            have of1 := bO.frozen 1
            have o2 := bO.cell 2
            have of2 := bO.frozen 2
            have o3 := bO.cell 3
            have of3 := bO.frozen 3
            simp only [List.getElem?_toArray, List.getElem?_cons_zero, List.getElem?_cons_succ] at o0 o1 o2 o3
            go_upto_region 16 with (go_at_call 35; refine (HAD.out _).mono ?_; rintro e w3 ⟨rfl, hb3⟩; have bO3 := bO.below hb3 lO; have lO3 := bO3.lt; have p0 := bO3.cell 0; have pf0 := bO3.frozen 0; have p1 := bO3.cell 1; have pf1 := bO3.frozen 1; have p2 := bO3.cell 2; have pf2 := bO3.frozen 2; have p3 := bO3.cell 3; have pf3 := bO3.frozen 3; simp only [List.getElem?_toArray, List.getElem?_cons_zero, List.getElem?_cons_succ] at p0 p1 p2 p3)
            have hR4 := (hR.below hb3).set4 (b := O) (by omega) (.int .u64 (lb (sm f n d (k + 1)) 0)) (.int .u64 (lb (sm f n d (k + 1)) 1)) (.int .u64 (lb (sm f n d (k + 1)) 2)) (.int .u64 (lb (sm f n d (k + 1)) 3))
            have bA4 := set4_other (bA.below hb3 bA.lt) (c := O) (by omega) (.int .u64 (lb (sm f n d (k + 1)) 0)) (.int .u64 (lb (sm f n d (k + 1)) 1)) (.int .u64 (lb (sm f n d (k + 1)) 2)) (.int .u64 (lb (sm f n d (k + 1)) 3))
            have bO4 := set4_Bk bO3 (.int .u64 (lb (sm f n d (k + 1)) 0)) (.int .u64 (lb (sm f n d (k + 1)) 1)) (.int .u64 (lb (sm f n d (k + 1)) 2)) (.int .u64 (lb (sm f n d (k + 1)) 3))
            clear hR bA bO lO lR a0 a1 a2 a3 af0 af1 af2 af3 z0 z1 z2 z3 zf0 zf1 zf2 zf3 r0 r1 r2 r3 rf0 rf1 rf2 rf3 o0 o1 o2 o3 of0 of1 of2 of3 p0 p1 p2 p3 pf0 pf1 pf2 pf3 lO3 bO3 hb3
            generalize World.setCell _ _ _ = w4 at hR4 bA4 bO4 ⊢
            have hR := hR4
            have lR := hR.bR.lt
            have hmx := fun w => rmul (tm f n d k).1 n HTm.out Hn.out w
            have hmy : ∀ w, Calls Try.prog 34 #[V d, .agg (A4 ((k : Int) + 1) 0 0 0)] w fun e w' => e = .returned (.tuple #[V (mulV d (k + 1)), .bool (mulOk d (k + 1))]) ∧ Below w.heap.size w w' := fun w => by
              have := rmul d (k + 1) Hd.out (by unfold M256; omega) w
              rw [← V_one (k + 1) (by omega), show ((k + 1 : Nat) : Int) = (k : Int) + 1 by omega] at this
              exact this
            have HMY : Hid (∀ w, Calls Try.prog 34 #[V d, .agg (A4 ((k : Int) + 1) 0 0 0)] w fun e w' => e = .returned (.tuple #[V (mulV d (k + 1)), .bool (mulOk d (k + 1))]) ∧ Below w.heap.size w w') := hmy
            have hof : ∀ w, Calls Try.prog 36 #[.int .i64 ((k : Int) + 1)] w fun e w' => e = .returned (.agg (A4 ((k : Int) + 1) 0 0 0)) ∧ Below w.heap.size w w' := fun w => by
              have := rof (k + 1) (by omega) w
              rw [show ((k + 1 : Nat) : Int) = (k : Int) + 1 by omega] at this
              exact this
            have HOF : Hid (∀ w, Calls Try.prog 36 #[.int .i64 ((k : Int) + 1)] w fun e w' => e = .returned (.agg (A4 ((k : Int) + 1) 0 0 0)) ∧ Below w.heap.size w w') := hof
            have HMX : Hid (∀ w, Calls Try.prog 34 #[V (tm f n d k).1, V n] w fun e w' => e = .returned (.tuple #[V (mulV (tm f n d k).1 n), .bool (mulOk (tm f n d k).1 n)]) ∧ Below w.heap.size w w') := hmx
            clear hmx hmy hof hR4
            have hOk : Hid (ntOk (tm f n d k).1 n d (k + 1) = (mulOk d (k + 1) && mulOk (tm f n d k).1 n)) := by
              show ntOk _ _ _ _ = _
              simp only [ntOk, mulOk]
              rw [decide_eq_true (by omega : k + 1 ≤ 4096), Bool.true_and]
            have a0 := bA4.cell 0
            have af0 := bA4.frozen 0
            have a1 := bA4.cell 1
            have af1 := bA4.frozen 1
            have a2 := bA4.cell 2
            have af2 := bA4.frozen 2
            have a3 := bA4.cell 3
            have af3 := bA4.frozen 3
            simp only [List.getElem?_toArray, List.getElem?_cons_zero, List.getElem?_cons_succ] at a0 a1 a2 a3
            have n0 := hR.bN.cell 0
            have nf0 := hR.bN.frozen 0
            have n1 := hR.bN.cell 1
            have nf1 := hR.bN.frozen 1
            have n2 := hR.bN.cell 2
            have nf2 := hR.bN.frozen 2
            have n3 := hR.bN.cell 3
            have nf3 := hR.bN.frozen 3
            simp only [List.getElem?_toArray, List.getElem?_cons_zero, List.getElem?_cons_succ] at n0 n1 n2 n3
            go_upto_region 17 with (go_at_call 34; refine (HMX.out _).mono ?_; rintro e w6 ⟨rfl, hb6⟩)
            obtain ⟨x, hx⟩ : ∃ x, x = mulV (tm f n d k).1 n := ⟨_, rfl⟩
            have HX : Hid (x = mulV (tm f n d k).1 n) := hx
            rw [← hx]
            clear hx
            have hR6 := (hR.below hb6).alloc (.cells (A4 (lb (x) 0) (lb (x) 1) (lb (x) 2) (lb (x) 3)) 25)
            have bA6 := (bA4.below hb6 bA4.lt).alloc (.cells (A4 (lb (x) 0) (lb (x) 1) (lb (x) 2) (lb (x) 3)) 25)
            have bO6 := (bO4.below hb6 bO4.lt).alloc (.cells (A4 (lb (x) 0) (lb (x) 1) (lb (x) 2) (lb (x) 3)) 25)
            have bX6 := Bk.new w6 (A4 (lb (x) 0) (lb (x) 1) (lb (x) 2) (lb (x) 3)) 25
            have hX0 : O < w6.heap.size := by have := bO4.lt; have := hb6.size; omega
            obtain ⟨X, hX⟩ : ∃ X, X = w6.heap.size := ⟨_, rfl⟩
            rw [← hX] at bX6 hX0 ⊢
            clear hX hb6 hR bA4 bO4 a0 a1 a2 a3 af0 af1 af2 af3 n0 n1 n2 n3 nf0 nf1 nf2 nf3 lR
            generalize w6.alloc _ = wa at *
            go_cut [15, 16] (fun p q wx => ∃ B, p = .pointer (some ⟨B, 0, none⟩) ∧ Bk wx B (A4 (lb (mulV d (k + 1)) 0) (lb (mulV d (k + 1)) 1) (lb (mulV d (k + 1)) 2) (lb (mulV d (k + 1)) 3)) 25 ∧ q = .bool (mulOk d (k + 1)) ∧ Below wa.heap.size wa wx)
            case first =>
              have hT : One4 (w.heap.size + 1 + 1) d wa := One4.of hR6.bD
              have bw : Below wa.heap.size wa wa := Below.refl _ _
              have hbD := hR6.bD.lt
              go_region_held3 (fun w' => w'.cell? ⟨w.heap.size + 1 + 1, 0, none⟩ = some (.int .u64 (lb d 0)) ∧ w'.cell? ⟨w.heap.size + 1 + 1, 1, none⟩ = some (.int .u64 (lb d 1)) ∧ w'.cell? ⟨w.heap.size + 1 + 1, 2, none⟩ = some (.int .u64 (lb d 2)) ∧ w'.cell? ⟨w.heap.size + 1 + 1, 3, none⟩ = some (.int .u64 (lb d 3))) ((show One4 (w.heap.size + 1 + 1) d _; repeat (first | with_reducible exact hT | with_reducible refine One4.drew ?_ | with_reducible refine One4.alloc ?_ _ | with_reducible refine One4.set ?_ (by simp <;> omega) _))) (first | (go_at_call 36; refine (HOF.out _).mono ?_; rintro e w2 ⟨rfl, hb2⟩; have hT := One4.below (b := w.heap.size + 1 + 1) (n := d) (by repeat (first | with_reducible exact hT | with_reducible refine One4.drew ?_ | with_reducible refine One4.alloc ?_ _)) hb2; have hsz2 := hb2.size; (try simp only [World.size_alloc, World.size_drew] at hsz2 hb2); have bw : Below wa.heap.size wa w2 := Below.trans (by repeat (first | with_reducible exact bw | with_reducible refine Below.drew ?_ | with_reducible refine Below.alloc ?_ (by first | omega | (simp <;> omega)) _)) (hb2.mono (by have := bw.size; first | omega | (simp <;> omega))); try (have hz := Bk.below (b := wa.heap.size) (vs := A4 0 0 0 0) (t := 25) (by first | with_reducible exact (Bk.new wa _ _).drew | with_reducible exact Bk.new wa _ _) hb2 (by omega); have lz := hz.lt; have z0 := hz.cell 0; have zf0 := hz.frozen 0; have z1 := hz.cell 1; have zf1 := hz.frozen 1; have z2 := hz.cell 2; have zf2 := hz.frozen 2; have z3 := hz.cell 3; have zf3 := hz.frozen 3; simp only [List.getElem?_toArray, List.getElem?_cons_zero, List.getElem?_cons_succ] at z0 z1 z2 z3)) | (go_at_call 34; refine (HMY.out _).mono ?_; rintro e w3 ⟨rfl, hb3⟩; have hT := One4.below (b := w.heap.size + 1 + 1) (n := d) (by repeat (first | with_reducible exact hT | with_reducible refine One4.drew ?_ | with_reducible refine One4.alloc ?_ _)) hb3; have hsz3 := hb3.size; (try simp only [World.size_alloc, World.size_drew] at hsz3 hb3); have bw : Below wa.heap.size wa w3 := Below.trans (by repeat (first | with_reducible exact bw | with_reducible refine Below.drew ?_ | with_reducible refine Below.alloc ?_ (by first | omega | (simp <;> omega)) _)) (hb3.mono (by have := bw.size; first | omega | (simp <;> omega))); (first | (have hz := Bk.below hz hb3 lz; have lz := hz.lt; have z0 := hz.cell 0; have zf0 := hz.frozen 0; have z1 := hz.cell 1; have zf1 := hz.frozen 1; have z2 := hz.cell 2; have zf2 := hz.frozen 2; have z3 := hz.cell 3; have zf3 := hz.frozen 3; simp only [List.getElem?_toArray, List.getElem?_cons_zero, List.getElem?_cons_succ] at z0 z1 z2 z3) | (try (have hz := Bk.below (b := w2.heap.size) (vs := A4 0 0 0 0) (t := 25) (by first | with_reducible exact (Bk.new w2 _ _).drew | with_reducible exact Bk.new w2 _ _) hb3 (by omega); have lz := hz.lt; have z0 := hz.cell 0; have zf0 := hz.frozen 0; have z1 := hz.cell 1; have zf1 := hz.frozen 1; have z2 := hz.cell 2; have zf2 := hz.frozen 2; have z3 := hz.cell 3; have zf3 := hz.frozen 3; simp only [List.getElem?_toArray, List.getElem?_cons_zero, List.getElem?_cons_succ] at z0 z1 z2 z3)))))
              all_goals
                go_wp2_with fail
                go_meet
                refine ⟨_, rfl, ?_, rfl, ?_⟩
                · repeat (first | with_reducible exact hz | with_reducible exact Bk.new _ _ _ | with_reducible exact Bk.new' _ _ _ (by simp) | with_reducible refine set4_Bk (x0 := .int .u64 0) (x1 := .int .u64 0) (x2 := .int .u64 0) (x3 := .int .u64 0) ?_ _ _ _ _ | with_reducible refine set4_other ?_ (by omega) _ _ _ _ | with_reducible refine Bk.alloc ?_ _)
                · repeat (first | with_reducible exact bw | with_reducible refine set4_below ?_ (by omega) _ _ _ _ | with_reducible refine Below.alloc ?_ (by first | omega | (simp <;> omega)) _)
            case rest =>
              obtain ⟨B, rfl, bB, rfl, hbx⟩ := hcut
              have hR := hR6.below hbx
              have bA := bA6.below hbx bA6.lt
              have bO := bO6.below hbx bO6.lt
              have bX := bX6.below hbx bX6.lt
              clear hR6 bA6 bO6 bX6 hbx
              have lR := hR.bR.lt
              have lA := bA.lt
              have HB : Hid (A < O) := hAO
              cases hox : mulOk (tm f n d k).1 n
              · have HOv : Hid (FkOver f n d) := ⟨k + 1, HA1.out, .inl (by show ntE _ _ _ _ = 8; exact if_neg (by rw [hOk.out, hox]; simp))⟩
                clear hox
                have z0 := hR.bZ.cell 0
                have zf0 := hR.bZ.frozen 0
                have z1 := hR.bZ.cell 1
                have zf1 := hR.bZ.frozen 1
                have z2 := hR.bZ.cell 2
                have zf2 := hR.bZ.frozen 2
                have z3 := hR.bZ.cell 3
                have zf3 := hR.bZ.frozen 3
                simp only [List.getElem?_toArray, List.getElem?_cons_zero, List.getElem?_cons_succ] at z0 z1 z2 z3
                have r0 := hR.bR.cell 0
                have rf0 := hR.bR.frozen 0
                have r1 := hR.bR.cell 1
                have rf1 := hR.bR.frozen 1
                have r2 := hR.bR.cell 2
                have rf2 := hR.bR.frozen 2
                have r3 := hR.bR.cell 3
                have rf3 := hR.bR.frozen 3
                simp only [List.getElem?_toArray, List.getElem?_cons_zero, List.getElem?_cons_succ] at r0 r1 r2 r3
                go_wp2
                have kR := set4_Bk hR.bR (.int .u64 0) (.int .u64 0) (.int .u64 0) (.int .u64 0)
                have hBr := set4_below hR.hB (b := w.heap.size + 1 + 1 + 1) (by omega) (.int .u64 0) (.int .u64 0) (.int .u64 0) (.int .u64 0)
                generalize World.setCell _ _ _ = W9 at kR hBr ⊢
                have u0 := kR.cell 0
                have uf0 := kR.frozen 0
                have u1 := kR.cell 1
                have uf1 := kR.frozen 1
                have u2 := kR.cell 2
                have uf2 := kR.frozen 2
                have u3 := kR.cell 3
                have uf3 := kR.frozen 3
                simp only [List.getElem?_toArray, List.getElem?_cons_zero, List.getElem?_cons_succ] at u0 u1 u2 u3
                refine bodyPost_ret (v := .tuple #[V 0, .int .i64 8]) ?_ rfl ⟨⟨0, 8, rfl, .inl ⟨rfl, rfl, HOv.out⟩⟩, hBr⟩
                rw [V_zero]
                simp [results, Try.results13, go_sem, u0, u1, u2, u3]
              · cases hoy : mulOk d (k + 1)
                · have HOv : Hid (FkOver f n d) := ⟨k + 1, HA1.out, .inl (by show ntE _ _ _ _ = 8; exact if_neg (by rw [hOk.out, hoy]; simp))⟩
                  clear hox hoy
                  have z0 := hR.bZ.cell 0
                  have zf0 := hR.bZ.frozen 0
                  have z1 := hR.bZ.cell 1
                  have zf1 := hR.bZ.frozen 1
                  have z2 := hR.bZ.cell 2
                  have zf2 := hR.bZ.frozen 2
                  have z3 := hR.bZ.cell 3
                  have zf3 := hR.bZ.frozen 3
                  simp only [List.getElem?_toArray, List.getElem?_cons_zero, List.getElem?_cons_succ] at z0 z1 z2 z3
                  have r0 := hR.bR.cell 0
                  have rf0 := hR.bR.frozen 0
                  have r1 := hR.bR.cell 1
                  have rf1 := hR.bR.frozen 1
                  have r2 := hR.bR.cell 2
                  have rf2 := hR.bR.frozen 2
                  have r3 := hR.bR.cell 3
                  have rf3 := hR.bR.frozen 3
                  simp only [List.getElem?_toArray, List.getElem?_cons_zero, List.getElem?_cons_succ] at r0 r1 r2 r3
                  go_wp2
                  have kR := set4_Bk hR.bR (.int .u64 0) (.int .u64 0) (.int .u64 0) (.int .u64 0)
                  have hBr := set4_below hR.hB (b := w.heap.size + 1 + 1 + 1) (by omega) (.int .u64 0) (.int .u64 0) (.int .u64 0) (.int .u64 0)
                  generalize World.setCell _ _ _ = W9 at kR hBr ⊢
                  have u0 := kR.cell 0
                  have uf0 := kR.frozen 0
                  have u1 := kR.cell 1
                  have uf1 := kR.frozen 1
                  have u2 := kR.cell 2
                  have uf2 := kR.frozen 2
                  have u3 := kR.cell 3
                  have uf3 := kR.frozen 3
                  simp only [List.getElem?_toArray, List.getElem?_cons_zero, List.getElem?_cons_succ] at u0 u1 u2 u3
                  refine bodyPost_ret (v := .tuple #[V 0, .int .i64 8]) ?_ rfl ⟨⟨0, 8, rfl, .inl ⟨rfl, rfl, HOv.out⟩⟩, hBr⟩
                  rw [V_zero]
                  simp [results, Try.results13, go_sem, u0, u1, u2, u3]
                · have ok : ntOk (tm f n d k).1 n d (k + 1) = true := by rw [hOk.out, hox, hoy]; rfl
                  have hxl : (tm f n d k).1 * n < M256 := by simpa [mulOk] using hox
                  have hyl : d * (k + 1) < M256 := by simpa [mulOk] using hoy
                  have HT1 : Hid ((tm f n d (k + 1)).2 = 0) := by show ntE _ _ _ _ = 0; exact if_pos ok
                  have hdv := fun w => rdiv ((tm f n d k).1 * n) (d * (k + 1)) hxl hyl (Nat.mul_pos H0.out (by omega)) w
                  rw [show (tm f n d k).1 * n / (d * (k + 1)) = (tm f n d (k + 1)).1 by show _ = ntV _ _ _ _; exact (if_pos ok).symm] at hdv
                  have ex : x = (tm f n d k).1 * n := HX.out.trans (if_pos hxl)
                  have ey : mulV d (k + 1) = d * (k + 1) := if_pos hyl
                  rw [← ex, ← ey] at hdv
                  have HDV : Hid (∀ w, Calls Try.prog 28 #[V x, V (mulV d (k + 1))] w fun e w' => e = .returned (.tuple #[V (tm f n d (k + 1)).1, V (x % mulV d (k + 1))]) ∧ Below w.heap.size w w') := hdv
                  clear hdv ex ey hxl hyl ok hox hoy
                  have x0 := bX.cell 0
                  have xf0 := bX.frozen 0
                  have x1 := bX.cell 1
                  have xf1 := bX.frozen 1
                  have x2 := bX.cell 2
                  have xf2 := bX.frozen 2
                  have x3 := bX.cell 3
                  have xf3 := bX.frozen 3
                  simp only [List.getElem?_toArray, List.getElem?_cons_zero, List.getElem?_cons_succ] at x0 x1 x2 x3
                  have y0 := bB.cell 0
                  have yf0 := bB.frozen 0
                  have y1 := bB.cell 1
                  have yf1 := bB.frozen 1
                  have y2 := bB.cell 2
                  have yf2 := bB.frozen 2
                  have y3 := bB.cell 3
                  have yf3 := bB.frozen 3
                  simp only [List.getElem?_toArray, List.getElem?_cons_zero, List.getElem?_cons_succ] at y0 y1 y2 y3
                  go_wp2_with (go_at_call 28; refine (HDV.out _).mono ?_; rintro e w9 ⟨rfl, hb9⟩; have bA9 := bA.below hb9 lA; have l9 := bA9.lt; have p0 := bA9.cell 0; have pf0 := bA9.frozen 0; have p1 := bA9.cell 1; have pf1 := bA9.frozen 1; have p2 := bA9.cell 2; have pf2 := bA9.frozen 2; have p3 := bA9.cell 3; have pf3 := bA9.frozen 3; simp only [List.getElem?_toArray, List.getElem?_cons_zero, List.getElem?_cons_succ] at p0 p1 p2 p3)
                  go_roundw
                  case rel => exact ⟨k + 1, by omega, rfl, by go_num, HA1.out, HT1.out, HS1.out, (hR.below hb9).set4 (by omega) _ _ _ _, set4_Bk bA9 _ _ _ _, set4_other (bO.below hb9 bO.lt) (by have := HB.out; omega) _ _ _ _⟩
                  case measure => simp [intOf]; omega
          · rw [show addV (sm f n d k) (tm f n d k).1 = 0 from if_neg hov, show addOk (sm f n d k) (tm f n d k).1 = false from decide_eq_false hov] at hadd
            have HOv : Hid (FkOver f n d) := ⟨k, HAl.out, .inr ⟨HTE.out, HT.out, by rw [sm_succ]; omega⟩⟩
            have HAD : Hid (∀ w, Calls Try.prog 35 #[V (sm f n d k), V (tm f n d k).1] w fun e w' => e = .returned (.tuple #[V 0, .bool false]) ∧ Below w.heap.size w w') := hadd
            clear hov hadd
            have o0 := bO.cell 0
            have of0 := bO.frozen 0
            have o1 := bO.cell 1
            have of1 := bO.frozen 1
            have o2 := bO.cell 2
            have of2 := bO.frozen 2
            have o3 := bO.cell 3
            have of3 := bO.frozen 3
            simp only [List.getElem?_toArray, List.getElem?_cons_zero, List.getElem?_cons_succ] at o0 o1 o2 o3
            go_upto_region 14 with (go_at_call 35; refine (HAD.out _).mono ?_; rintro e w3 ⟨rfl, hb3⟩; have bO3 := bO.below hb3 lO; have lO3 := bO3.lt; have p0 := bO3.cell 0; have pf0 := bO3.frozen 0; have p1 := bO3.cell 1; have pf1 := bO3.frozen 1; have p2 := bO3.cell 2; have pf2 := bO3.frozen 2; have p3 := bO3.cell 3; have pf3 := bO3.frozen 3; simp only [List.getElem?_toArray, List.getElem?_cons_zero, List.getElem?_cons_succ] at p0 p1 p2 p3)
            have hR4 := (hR.below hb3).set4 (b := O) (by omega) (.int .u64 (lb (0) 0)) (.int .u64 (lb (0) 1)) (.int .u64 (lb (0) 2)) (.int .u64 (lb (0) 3))
            clear hR
            generalize World.setCell _ _ _ = w4 at hR4 ⊢
            have hR := hR4
            have lR := hR.bR.lt
            have z0 := hR.bZ.cell 0
            have zf0 := hR.bZ.frozen 0
            have z1 := hR.bZ.cell 1
            have zf1 := hR.bZ.frozen 1
            have z2 := hR.bZ.cell 2
            have zf2 := hR.bZ.frozen 2
            have z3 := hR.bZ.cell 3
            have zf3 := hR.bZ.frozen 3
            simp only [List.getElem?_toArray, List.getElem?_cons_zero, List.getElem?_cons_succ] at z0 z1 z2 z3
            have r0 := hR.bR.cell 0
            have rf0 := hR.bR.frozen 0
            have r1 := hR.bR.cell 1
            have rf1 := hR.bR.frozen 1
            have r2 := hR.bR.cell 2
            have rf2 := hR.bR.frozen 2
            have r3 := hR.bR.cell 3
            have rf3 := hR.bR.frozen 3
            simp only [List.getElem?_toArray, List.getElem?_cons_zero, List.getElem?_cons_succ] at r0 r1 r2 r3
            go_wp2
            have kR := set4_Bk hR.bR (.int .u64 0) (.int .u64 0) (.int .u64 0) (.int .u64 0)
            have hBr := set4_below hR.hB (b := w.heap.size + 1 + 1 + 1) (by omega) (.int .u64 0) (.int .u64 0) (.int .u64 0) (.int .u64 0)
            generalize World.setCell _ _ _ = W9 at kR hBr ⊢
            have u0 := kR.cell 0
            have uf0 := kR.frozen 0
            have u1 := kR.cell 1
            have uf1 := kR.frozen 1
            have u2 := kR.cell 2
            have uf2 := kR.frozen 2
            have u3 := kR.cell 3
            have uf3 := kR.frozen 3
            simp only [List.getElem?_toArray, List.getElem?_cons_zero, List.getElem?_cons_succ] at u0 u1 u2 u3
            refine bodyPost_ret (v := .tuple #[V 0, .int .i64 8]) ?_ rfl ⟨⟨0, 8, rfl, .inl ⟨rfl, rfl, HOv.out⟩⟩, hBr⟩
            rw [V_zero]
            simp [results, Try.results13, go_sem, u0, u1, u2, u3]
  · have hok : mulOk f d = false := by simp [mulOk, hov]
    have HOv : Hid (FkOver f n d) := ⟨0, fun j hj => absurd hj (by omega), .inl (by show mulOkE f d = 8; exact if_neg hov)⟩
    rw [hok]
    clear hok hov hmul
    go_wp2
    have kR := set4_Bk hR.bR (.int .u64 0) (.int .u64 0) (.int .u64 0) (.int .u64 0)
    have hBr := set4_below hR.hB (b := w.heap.size + 1 + 1 + 1) (by omega) (.int .u64 0) (.int .u64 0) (.int .u64 0) (.int .u64 0)
    generalize World.setCell _ _ _ = W9 at kR hBr ⊢
    have u0 := kR.cell 0
    have uf0 := kR.frozen 0
    have u1 := kR.cell 1
    have uf1 := kR.frozen 1
    have u2 := kR.cell 2
    have uf2 := kR.frozen 2
    have u3 := kR.cell 3
    have uf3 := kR.frozen 3
    simp only [List.getElem?_toArray, List.getElem?_cons_zero, List.getElem?_cons_succ] at u0 u1 u2 u3
    refine bodyPost_ret (v := .tuple #[V 0, .int .i64 8]) ?_ rfl ⟨⟨0, 8, rfl, .inl ⟨rfl, rfl, HOv.out⟩⟩, hBr⟩
    rw [V_zero]
    simp [results, Try.results13, go_sem, u0, u1, u2, u3]
end Go.Proofs.Ytgolpadmcalimaa

import Derived.Test.YtljfenjpnanoiaaFakeN
import Derived.Test.YtljfenjpnanoiaaTerms
import Derived.Test.YtljfenjpnanoiaaAdd
import Derived.Test.YtljfenjpnanoiaaHalf
import Derived.Scope
set_option linter.unusedSimpArgs false
set_option linter.unusedVariables false
namespace Go.Proofs.Ytljfenjpnanoiaa
open Go.RowKit Go.Shelf
attribute [local go_sem] Oper.semAt_some

theorem terms_any (f n d : Nat) (w : World) : Calls Try.prog 49 #[V f, V n, V d] w fun e w' => e = .returned (.func (.func 52) #[] #[.pointer (some ⟨w.heap.size, 0, none⟩), .pointer (some ⟨w.heap.size + 1 + 1, 0, none⟩), .pointer (some ⟨w.heap.size + 1, 0, none⟩)]) ∧ w' = ((w.alloc (.cells (A4 (lb (f) 0) (lb (f) 1) (lb (f) 2) (lb (f) 3)) 25)).alloc (.cells (A4 (lb (n) 0) (lb (n) 1) (lb (n) 2) (lb (n) 3)) 25)).alloc (.cells (A4 (lb (d) 0) (lb (d) 1) (lb (d) 2) (lb (d) 3)) 25) := by
  go_enter Try.func49, Try.ntmps49
  go_wp2
  go_ret
  exact ⟨rfl, rfl⟩
/-- What holds ahead of a round, and behind the one that breaks off. -/
structure FI (w W : World) (d : Nat) (pre : List (Nat × Int)) : Prop where
  bD : Bk W (w.heap.size + 1 + 1) (A4 (lb (d) 0) (lb (d) 1) (lb (d) 2) (lb (d) 3)) 25
  bR : Bk W (w.heap.size + 1 + 1 + 1) (A4 0 0 0 0) 25
  bO : Bk W (w.heap.size + 1 + 1 + 1 + 1) (A4 (lb (sumL pre) 0) (lb (sumL pre) 1) (lb (sumL pre) 2) (lb (sumL pre) 3)) 25
  bE : Bk W (w.heap.size + 1 + 1 + 1 + 1 + 1) #[.int .i64 0] 26
  hs : sumL pre < M256
  he : ∀ x ∈ pre, x.2 = 0
  hB : Below w.heap.size w W
theorem FI.below {w A B : World} {d k : Nat} {pre : List (Nat × Int)} (h : FI w A d pre) (hb : Below k A B) (hk : w.heap.size + 1 + 1 + 1 + 1 + 1 < k) : FI w B d pre :=
  ⟨h.bD.below hb (by omega), h.bR.below hb (by omega), h.bO.below hb (by omega), h.bE.below hb (by omega), h.hs, h.he, h.hB.trans (hb.mono (by omega))⟩
structure FX (w W : World) (pre : List (Nat × Int)) : Prop where
  bR : Bk W (w.heap.size + 1 + 1 + 1) (A4 0 0 0 0) 25
  hx : ∃ ini x e, pre = ini ++ [x] ∧ Bk W (w.heap.size + 1 + 1 + 1 + 1 + 1) #[.int .i64 e] 26 ∧ ((x.2 ≠ 0 ∧ e = x.2) ∨ (x.2 = 0 ∧ e = 8 ∧ M256 ≤ sumL pre))
  hB : Below w.heap.size w W
theorem FX.below {w A B : World} {k : Nat} {pre : List (Nat × Int)} (h : FX w A pre) (hb : Below k A B) (hk : w.heap.size + 1 + 1 + 1 + 1 + 1 < k) : FX w B pre := by
  obtain ⟨h1, ⟨ini, x, e, h2, h3, h4⟩, h5⟩ := h
  exact ⟨h1.below hb (by omega), ⟨ini, x, e, h2, h3.below hb (by omega), h4⟩, h5.trans (hb.mono (by omega))⟩
theorem snoc_inj {a b : List (Nat × Int)} {x y : Nat × Int} (h : a ++ [x] = b ++ [y]) : x = y := by
  have := congrArg List.getLast? h
  simpa using this
theorem FX.over {w W : World} {f n d : Nat} {pre : List (Nat × Int)} (h : FX w W pre) (ht : TP f n d pre) : FkOver f n d ∧ Bk W (w.heap.size + 1 + 1 + 1 + 1 + 1) #[.int .i64 8] 26 := by
  obtain ⟨_, ⟨ini, x, e, h2, h3, h4⟩, _⟩ := h
  obtain ⟨k, ha, hk⟩ := ht
  rcases hk with ⟨k1, k2, k3⟩ | ⟨k1, k3⟩
  · have hx : x = ((tm f n d k).1, 0) := by rw [ys_succ] at k3; exact snoc_inj (h2.symm.trans k3)
    rcases h4 with ⟨q1, _⟩ | ⟨_, q2, q3⟩
    · rw [hx] at q1; exact absurd rfl q1
    · subst q2; exact ⟨⟨k, ha, .inr ⟨k1, k2, by unfold sm; rw [← k3]; exact q3⟩⟩, h3⟩
  · have hx : x = (0, 8) := snoc_inj (h2.symm.trans k3)
    refine ⟨⟨k, ha, .inl k1⟩, ?_⟩
    rcases h4 with ⟨_, q2⟩ | ⟨q1, _⟩
    · rw [hx] at q2; subst q2; exact h3
    · rw [hx] at q1; simp at q1
theorem FI.fin {w W : World} {f n d : Nat} {pre : List (Nat × Int)} (h : FI w W d pre) (ht : TS f n d pre) : FkS f n d (sumL pre / d) 0 := by
  obtain ⟨k, ha, hk⟩ := ht
  rcases hk with ⟨k1, k2, k3⟩ | ⟨k1, k3⟩
  · subst k3; exact .inr ⟨rfl, k, ⟨ha, k1, k2, h.hs⟩, rfl⟩
  · have := h.he (0, 8) (by rw [k3]; simp)
    simp at this
set_option maxRecDepth 100000 in
set_option maxHeartbeats 1000000 in
theorem fake_none (f n : Nat) (w : World) : Calls Try.prog 40 #[V f, V n, V 0] w fun e w' => e = .returned (.tuple #[V 0, .int .i64 1]) ∧ Below w.heap.size w w' := by
  have HV : Hid (V 0 = .agg (A4 0 0 0 0)) := V_zero
  have hne : ∀ w, (binOp .eql 25 (.agg (A4 0 0 0 0)) (.agg (A4 0 0 0 0))).run Try.prog w = .ok (.bool true) w := fun w => by rw [eql26, eq4_same]
  rw [V_zero]
  refine (callsIn_wide (n := 6)).1 ?_
  refine callsIn_of_wp_marks Try.func40 rfl trivial ?_ rfl
  simp only [Try.ntmps40, List.size_toArray, List.length_cons, List.length_nil, Nat.reduceAdd, Nat.reduceSub, Array.replicate_succ, Array.replicate_zero, List.push_toArray, List.append_toArray, List.nil_append, List.cons_append]
  gi_wp2
  refine wpIn_wide.2 (wp_scope_straight ((wpIn_wide (n := 6)).1 ?_))
  gi_wp2
  have kR : Bk ((((w.alloc (.cells (A4 (lb (f) 0) (lb (f) 1) (lb (f) 2) (lb (f) 3)) 25)).alloc (.cells (A4 (lb (n) 0) (lb (n) 1) (lb (n) 2) (lb (n) 3)) 25)).alloc (.cells (A4 0 0 0 0) 25)).alloc (.cells (A4 0 0 0 0) 25)) (w.heap.size + 1 + 1 + 1) (A4 0 0 0 0) 25 := Bk.new' _ _ _ (by simp)
  have hBr : Below w.heap.size w ((((w.alloc (.cells (A4 (lb (f) 0) (lb (f) 1) (lb (f) 2) (lb (f) 3)) 25)).alloc (.cells (A4 (lb (n) 0) (lb (n) 1) (lb (n) 2) (lb (n) 3)) 25)).alloc (.cells (A4 0 0 0 0) 25)).alloc (.cells (A4 0 0 0 0) 25)) := ((((Below.refl _ w).alloc (Nat.le_refl _) _).alloc (by simp) _).alloc (by simp; omega) _).alloc (by simp; omega) _
  generalize World.alloc _ _ = W9 at kR hBr ⊢
  have u0 := kR.cell 0
  have uf0 := kR.frozen 0
  have u1 := kR.cell 1
  have uf1 := kR.frozen 1
  have u2 := kR.cell 2
  have uf2 := kR.frozen 2
  have u3 := kR.cell 3
  have uf3 := kR.frozen 3
  simp only [List.getElem?_toArray, List.getElem?_cons_zero, List.getElem?_cons_succ] at u0 u1 u2 u3
  simp only [Exit.noGoto]
  refine ⟨.tuple #[.agg (A4 0 0 0 0), .int .i64 1], ?_, rfl, hBr⟩
  simp [results, Try.f40, go_sem, u0, u1, u2, u3]
set_option maxRecDepth 100000 in
set_option maxHeartbeats 2000000 in
theorem fake (f n d : Nat) (hf : f < M256) (hn : n < M256) (hd : d < M256) (hd0 : 0 < d) (w : World) :
    Calls Try.prog 40 #[V f, V n, V d] w fun e w' => (∃ r x, e = .returned (.tuple #[V r, .int .i64 x]) ∧ FkS f n d r x) ∧ Below w.heap.size w w' := by
  have Hf : Hid (f < M256) := hf
  have Hn : Hid (n < M256) := hn
  have Hd : Hid (d < M256) := hd
  have H0 : Hid (0 < d) := hd0
  have hne : ∀ w, (binOp .eql 25 (V d) (.agg (A4 0 0 0 0))).run Try.prog w = .ok (.bool false) w := fun w => by rw [eql26_0 d hd, decide_eq_false (by omega)]
  clear hf hn hd hd0
  refine (callsIn_wide (n := 6)).1 ?_
  refine callsIn_of_wp_marks Try.func40 rfl trivial ?_ rfl
  simp only [Try.ntmps40, List.size_toArray, List.length_cons, List.length_nil, Nat.reduceAdd, Nat.reduceSub, Array.replicate_succ, Array.replicate_zero, List.push_toArray, List.append_toArray, List.nil_append, List.cons_append]
  gi_wp2
  refine wpIn_wide.2 (wp_scope_straight ((wpIn_wide (n := 6)).1 ?_))
  gi_wp2
  refine wpIn_label ?_
  gi_wp2_with (refine ⟨trivial, ?_⟩; gi_at_call 49; refine (callsIn_wide.2 (terms_any f n d _)).mono ?_; rintro e w' ⟨rfl, rfl⟩)
  have bF : Bk (((((((((w.alloc (.cells (A4 (lb (f) 0) (lb (f) 1) (lb (f) 2) (lb (f) 3)) 25)).alloc (.cells (A4 (lb (n) 0) (lb (n) 1) (lb (n) 2) (lb (n) 3)) 25)).alloc (.cells (A4 (lb (d) 0) (lb (d) 1) (lb (d) 2) (lb (d) 3)) 25)).alloc (.cells (A4 0 0 0 0) 25)).alloc (.cells (A4 0 0 0 0) 25)).alloc (.cells #[.int .i64 0] 26)).alloc (.cells (A4 (lb (f) 0) (lb (f) 1) (lb (f) 2) (lb (f) 3)) 25)).alloc (.cells (A4 (lb (n) 0) (lb (n) 1) (lb (n) 2) (lb (n) 3)) 25)).alloc (.cells (A4 (lb (d) 0) (lb (d) 1) (lb (d) 2) (lb (d) 3)) 25)) (w.heap.size + 1 + 1 + 1 + 1 + 1 + 1) (A4 (lb (f) 0) (lb (f) 1) (lb (f) 2) (lb (f) 3)) 25 := ((Bk.new' _ _ _ (by simp)).alloc _).alloc _
  have bN : Bk (((((((((w.alloc (.cells (A4 (lb (f) 0) (lb (f) 1) (lb (f) 2) (lb (f) 3)) 25)).alloc (.cells (A4 (lb (n) 0) (lb (n) 1) (lb (n) 2) (lb (n) 3)) 25)).alloc (.cells (A4 (lb (d) 0) (lb (d) 1) (lb (d) 2) (lb (d) 3)) 25)).alloc (.cells (A4 0 0 0 0) 25)).alloc (.cells (A4 0 0 0 0) 25)).alloc (.cells #[.int .i64 0] 26)).alloc (.cells (A4 (lb (f) 0) (lb (f) 1) (lb (f) 2) (lb (f) 3)) 25)).alloc (.cells (A4 (lb (n) 0) (lb (n) 1) (lb (n) 2) (lb (n) 3)) 25)).alloc (.cells (A4 (lb (d) 0) (lb (d) 1) (lb (d) 2) (lb (d) 3)) 25)) (w.heap.size + 1 + 1 + 1 + 1 + 1 + 1 + 1) (A4 (lb (n) 0) (lb (n) 1) (lb (n) 2) (lb (n) 3)) 25 := (Bk.new' _ _ _ (by simp)).alloc _
  have bD : Bk (((((((((w.alloc (.cells (A4 (lb (f) 0) (lb (f) 1) (lb (f) 2) (lb (f) 3)) 25)).alloc (.cells (A4 (lb (n) 0) (lb (n) 1) (lb (n) 2) (lb (n) 3)) 25)).alloc (.cells (A4 (lb (d) 0) (lb (d) 1) (lb (d) 2) (lb (d) 3)) 25)).alloc (.cells (A4 0 0 0 0) 25)).alloc (.cells (A4 0 0 0 0) 25)).alloc (.cells #[.int .i64 0] 26)).alloc (.cells (A4 (lb (f) 0) (lb (f) 1) (lb (f) 2) (lb (f) 3)) 25)).alloc (.cells (A4 (lb (n) 0) (lb (n) 1) (lb (n) 2) (lb (n) 3)) 25)).alloc (.cells (A4 (lb (d) 0) (lb (d) 1) (lb (d) 2) (lb (d) 3)) 25)) (w.heap.size + 1 + 1 + 1 + 1 + 1 + 1 + 1 + 1) (A4 (lb (d) 0) (lb (d) 1) (lb (d) 2) (lb (d) 3)) 25 := Bk.new' _ _ _ (by simp)
  have h0 : FI w (((((((((w.alloc (.cells (A4 (lb (f) 0) (lb (f) 1) (lb (f) 2) (lb (f) 3)) 25)).alloc (.cells (A4 (lb (n) 0) (lb (n) 1) (lb (n) 2) (lb (n) 3)) 25)).alloc (.cells (A4 (lb (d) 0) (lb (d) 1) (lb (d) 2) (lb (d) 3)) 25)).alloc (.cells (A4 0 0 0 0) 25)).alloc (.cells (A4 0 0 0 0) 25)).alloc (.cells #[.int .i64 0] 26)).alloc (.cells (A4 (lb (f) 0) (lb (f) 1) (lb (f) 2) (lb (f) 3)) 25)).alloc (.cells (A4 (lb (n) 0) (lb (n) 1) (lb (n) 2) (lb (n) 3)) 25)).alloc (.cells (A4 (lb (d) 0) (lb (d) 1) (lb (d) 2) (lb (d) 3)) 25)) d [] := ⟨((((((Bk.new' _ _ _ (by simp)).alloc _).alloc _).alloc _).alloc _).alloc _).alloc _, (((((Bk.new' _ _ _ (by simp)).alloc _).alloc _).alloc _).alloc _).alloc _, by simpa only [sumL, List.map_nil, List.sum_nil, lb_zero] using ((((Bk.new' _ _ _ (by simp)).alloc _).alloc _).alloc _).alloc _, (((Bk.new' _ _ _ (by simp)).alloc _).alloc _).alloc _, by decide, by simp, (((((((((Below.refl _ w).alloc (Nat.le_refl _) _).alloc (by simp) _).alloc (by simp; omega) _).alloc (by simp; omega) _).alloc (by simp; omega) _).alloc (by simp; omega) _).alloc (by simp; omega) _).alloc (by simp; omega) _).alloc (by simp; omega) _⟩
  have hz9 : (((((((((w.alloc (.cells (A4 (lb (f) 0) (lb (f) 1) (lb (f) 2) (lb (f) 3)) 25)).alloc (.cells (A4 (lb (n) 0) (lb (n) 1) (lb (n) 2) (lb (n) 3)) 25)).alloc (.cells (A4 (lb (d) 0) (lb (d) 1) (lb (d) 2) (lb (d) 3)) 25)).alloc (.cells (A4 0 0 0 0) 25)).alloc (.cells (A4 0 0 0 0) 25)).alloc (.cells #[.int .i64 0] 26)).alloc (.cells (A4 (lb (f) 0) (lb (f) 1) (lb (f) 2) (lb (f) 3)) 25)).alloc (.cells (A4 (lb (n) 0) (lb (n) 1) (lb (n) 2) (lb (n) 3)) 25)).alloc (.cells (A4 (lb (d) 0) (lb (d) 1) (lb (d) 2) (lb (d) 3)) 25)).heap.size = w.heap.size + 9 := by simp
  generalize (((((((((w.alloc (.cells (A4 (lb (f) 0) (lb (f) 1) (lb (f) 2) (lb (f) 3)) 25)).alloc (.cells (A4 (lb (n) 0) (lb (n) 1) (lb (n) 2) (lb (n) 3)) 25)).alloc (.cells (A4 (lb (d) 0) (lb (d) 1) (lb (d) 2) (lb (d) 3)) 25)).alloc (.cells (A4 0 0 0 0) 25)).alloc (.cells (A4 0 0 0 0) 25)).alloc (.cells #[.int .i64 0] 26)).alloc (.cells (A4 (lb (f) 0) (lb (f) 1) (lb (f) 2) (lb (f) 3)) 25)).alloc (.cells (A4 (lb (n) 0) (lb (n) 1) (lb (n) 2) (lb (n) 3)) 25)).alloc (.cells (A4 (lb (d) 0) (lb (d) 1) (lb (d) 2) (lb (d) 3)) 25)) = w9 at *
  refine wpIn_rangeB rfl (by omega) (gf := 52) (lb := #[.pointer (some ⟨w.heap.size + 1 + 1 + 1 + 1 + 1 + 1, 0, none⟩), .pointer (some ⟨w.heap.size + 1 + 1 + 1 + 1 + 1 + 1 + 1 + 1, 0, none⟩), .pointer (some ⟨w.heap.size + 1 + 1 + 1 + 1 + 1 + 1 + 1, 0, none⟩)]) rfl trivial (enters_of Try.func52 (by kernel_rfl) rfl)
    (terms_seq _ f n d (w.heap.size + 1 + 1 + 1 + 1 + 1 + 1) (w.heap.size + 1 + 1 + 1 + 1 + 1 + 1 + 1) (w.heap.size + 1 + 1 + 1 + 1 + 1 + 1 + 1 + 1) (w.heap.size + 1 + 1 + 1 + 1) (w.heap.size + 1 + 1 + 1 + 1 + 1) (by omega) Hf.out Hn.out Hd.out H0.out w9 bF bN bD (by omega) (by omega) ⟨by omega, by omega⟩ ⟨by omega, by omega⟩ ⟨by omega, by omega⟩) KpX.trans (fun W l o o' _ h hc => kpx_put W l o o' h hc) (Below.refl _ _) (fun _ => rfl)
    (fun pre W => FI w W d pre) (fun c pre W => c = .exit 0 ∧ FX w W pre) (fun s A B h hb => h.below hb (by omega)) (fun c s A B h hb => ⟨h.1, h.2.below hb (by omega)⟩) h0
    (fun x a' W => ∃ T, a' = { tmps := #[V f, V n, V d, .pointer (some ⟨w.heap.size, 0, none⟩), .pointer (some ⟨w.heap.size + 1, 0, none⟩), .pointer (some ⟨w.heap.size + 1 + 1, 0, none⟩), .pointer (some ⟨w.heap.size + 1 + 1 + 1, 0, none⟩), .int .i64 0, .pointer (some ⟨w.heap.size + 1 + 1 + 1 + 1, 0, none⟩), .pointer (some ⟨w.heap.size + 1 + 1 + 1 + 1 + 1, 0, none⟩), .pointer (some ⟨T, 0, none⟩), .int .i64 x.2, undef, undef, undef, undef, V d, .agg (A4 0 0 0 0), .bool false, undef, V f, V n, V d, .func (.func 52) #[] #[.pointer (some ⟨w.heap.size + 1 + 1 + 1 + 1 + 1 + 1, 0, none⟩), .pointer (some ⟨w.heap.size + 1 + 1 + 1 + 1 + 1 + 1 + 1 + 1, 0, none⟩), .pointer (some ⟨w.heap.size + 1 + 1 + 1 + 1 + 1 + 1 + 1, 0, none⟩)], V x.1, .int .i64 x.2, undef, undef, undef, undef, undef, undef, undef, undef, undef, undef, undef, undef, undef, undef, undef, undef, undef, undef, undef, undef, undef, undef, undef, undef, undef, undef, undef, undef], defers := [] } ∧ w.heap.size + 1 + 1 + 1 + 1 + 1 < T ∧ Bk W T (A4 (lb (x.1) 0) (lb (x.1) 1) (lb (x.1) 2) (lb (x.1) 3)) 25)
    (fun x a' A l o o' _ h hc hx => by
      obtain ⟨T, h1, h2, h3⟩ := hx
      exact ⟨T, h1, h2, bk_put h3 h hc⟩) ?assign ?body ?done ?stop
  case assign =>
    intro l pre x W K hi hK
    simp only [tenc]
    gi_wp2
    exact hK _ _ ((KeepsOthers.alloc _ _).from _) (fun b vs t _ _ hb => hb.alloc _) (hi.below ((Below.refl _ _).alloc (Nat.le_refl _) _) (by have := hi.bE.lt; omega)) ⟨W.heap.size, rfl, hi.bE.lt, Bk.new _ _ _⟩
  case body =>
    rintro l pre x a' W hi ⟨T, rfl, hT, bT⟩
    have hlt : x.1 % M256 < M256 := Nat.mod_lt _ (by decide)
    have hVm := V_mod x.1
    have hsum := sumL_snoc pre x
    obtain ⟨t, ht⟩ : ∃ t, t = x.1 % M256 := ⟨_, rfl⟩
    rw [← ht] at hlt hVm hsum
    obtain ⟨q0, q1, q2, q3⟩ : lb x.1 0 = lb t 0 ∧ lb x.1 1 = lb t 1 ∧ lb x.1 2 = lb t 2 ∧ lb x.1 3 = lb t 3 := by simpa [V] using hVm
    rw [q0, q1, q2, q3] at bT
    have hadd := fun w => add (sumL pre) t hi.hs hlt w
    have HA : Hid (∀ w, Calls Try.prog 18 #[V (sumL pre), V t] w fun e w' => e = .returned (.tuple #[V (addV (sumL pre) t), .int .i64 (addOkE (sumL pre) t)]) ∧ Below w.heap.size w w') := hadd
    have HI : Hid (FI w W d pre) := hi
    have HS : Hid (sumL (pre ++ [x]) = sumL pre + t) := hsum
    have lT := bT.lt
    have o0 := hi.bO.cell 0
    have of0 := hi.bO.frozen 0
    have o1 := hi.bO.cell 1
    have of1 := hi.bO.frozen 1
    have o2 := hi.bO.cell 2
    have of2 := hi.bO.frozen 2
    have o3 := hi.bO.cell 3
    have of3 := hi.bO.frozen 3
    simp only [List.getElem?_toArray, List.getElem?_cons_zero, List.getElem?_cons_succ] at o0 o1 o2 o3
    have t0 := bT.cell 0
    have tf0 := bT.frozen 0
    have t1 := bT.cell 1
    have tf1 := bT.frozen 1
    have t2 := bT.cell 2
    have tf2 := bT.frozen 2
    have t3 := bT.cell 3
    have tf3 := bT.frozen 3
    simp only [List.getElem?_toArray, List.getElem?_cons_zero, List.getElem?_cons_succ] at t0 t1 t2 t3
    have e0 := hi.bE.cell 0
    have ef := hi.bE.frozen 0
    simp only [List.getElem?_toArray, List.getElem?_cons_zero] at e0
    clear hVm hsum q0 q1 q2 q3 ht hadd hlt
    by_cases hx2 : x.2 = 0
    · by_cases hov : sumL pre + t < M256
      · have hE : addOkE (sumL pre) t = 0 := if_pos hov
        have hV : addV (sumL pre) t = sumL pre + t := if_pos hov
        simp only [hE, hV] at HA
        have HOv : Hid (sumL pre + t < M256) := hov
        have HX : Hid (x.2 = 0) := hx2
        rw [hx2]
        clear hE hV hov hx2 hi
        gi_wp2_with (refine ⟨trivial, ?_⟩; gi_at_call 18; refine (CallsIn.inRound l (callsIn_wide.2 (HA.out _))).mono ?_; rintro e w2 ⟨rfl, hb2⟩; have bO2 := HI.out.bO.below hb2 HI.out.bO.lt; have lO2 := bO2.lt; have p0 := bO2.cell 0; have pf0 := bO2.frozen 0; have p1 := bO2.cell 1; have pf1 := bO2.frozen 1; have p2 := bO2.cell 2; have pf2 := bO2.frozen 2; have p3 := bO2.cell 3; have pf3 := bO2.frozen 3; simp only [List.getElem?_toArray, List.getElem?_cons_zero, List.getElem?_cons_succ] at p0 p1 p2 p3)
        have hb3 := hb2.mono HI.out.hB.size
        refine ⟨((((((kf_below hb2).trans ((KeepsOthers.setCell _ _ _).from _)).trans ((KeepsOthers.setCell _ _ _).from _)).trans ((KeepsOthers.setCell _ _ _).from _)).trans ((KeepsOthers.setCell _ _ _).from _)).trans ((KeepsOthers.alloc _ _).from _)), fun b vs t' h1 h2 hb => (set4_other (hb.below hb2 hb.lt) h1 _ _ _ _).alloc _, ?_⟩
        refine ⟨(set4_other (HI.out.bD.below hb2 HI.out.bD.lt) (by omega) _ _ _ _).alloc _, (set4_other (HI.out.bR.below hb2 HI.out.bR.lt) (by omega) _ _ _ _).alloc _, ?_, (set4_other (HI.out.bE.below hb2 HI.out.bE.lt) (by omega) _ _ _ _).alloc _, by rw [HS.out]; exact HOv.out, ?_, (set4_below (HI.out.hB.trans hb3) (by omega) _ _ _ _).alloc (by simp; have := HI.out.hB.size; have := hb2.size; omega) _⟩
        · rw [HS.out]; exact (set4_Bk bO2 _ _ _ _).alloc _
        · intro y hy
          rcases List.mem_append.1 hy with h | h
          · exact HI.out.he y h
          · simp at h; rw [h]; exact HX.out
      · have hE : addOkE (sumL pre) t = 8 := if_neg hov
        simp only [hE] at HA
        have HOv : Hid (M256 ≤ sumL (pre ++ [x])) := by rw [HS.out]; exact Nat.le_of_not_lt hov
        have HX : Hid (x.2 = 0) := hx2
        rw [hx2]
        clear hE hov hx2 hi
        gi_wp2_with (refine ⟨trivial, ?_⟩; gi_at_call 18; refine (CallsIn.inRound l (callsIn_wide.2 (HA.out _))).mono ?_; rintro e w2 ⟨rfl, hb2⟩; have bE2 := HI.out.bE.below hb2 HI.out.bE.lt; have lE2 := bE2.lt; have y0 := bE2.cell 0; have yf0 := bE2.frozen 0; simp only [List.getElem?_toArray, List.getElem?_cons_zero] at y0)
        refine ⟨((kf_below hb2).trans ((KeepsOthers.setCell _ _ _).from _)).trans ((KeepsOthers.alloc _ _).from _), rfl, ⟨((HI.out.bR.below hb2 HI.out.bR.lt).other (by simp) _).alloc _, ⟨pre, x, _, rfl, ((HI.out.bE.below hb2 HI.out.bE.lt).set 0 _ rfl).alloc _, .inr ⟨HX.out, rfl, HOv.out⟩⟩, ((HI.out.hB.trans (hb2.mono HI.out.hB.size)).setCell (by simp; omega) _).alloc (by simp; have := HI.out.hB.size; have := hb2.size; omega) _⟩⟩
    · have hxb : (x.2 != 0) = true := by rw [bne_iff_ne]; exact hx2
      have HX : Hid (x.2 ≠ 0) := hx2
      clear hx2 hi
      focus
        gi_wp2_with (refine ⟨trivial, ?_⟩; gi_at_call 18; refine (CallsIn.inRound l (callsIn_wide.2 (HA.out _))).mono ?_; rintro e w2 ⟨rfl, hb2⟩; have bE2 := HI.out.bE.below hb2 HI.out.bE.lt; have lE2 := bE2.lt; have y0 := bE2.cell 0; have yf0 := bE2.frozen 0; simp only [List.getElem?_toArray, List.getElem?_cons_zero] at y0)
        refine ⟨((kf_below hb2).trans ((KeepsOthers.setCell _ _ _).from _)).trans ((KeepsOthers.alloc _ _).from _), rfl, ⟨((HI.out.bR.below hb2 HI.out.bR.lt).other (by simp) _).alloc _, ⟨pre, x, _, rfl, ((HI.out.bE.below hb2 HI.out.bE.lt).set 0 _ rfl).alloc _, .inl ⟨HX.out, rfl⟩⟩, ((HI.out.hB.trans (hb2.mono HI.out.hB.size)).setCell (by simp; omega) _).alloc (by simp; have := HI.out.hB.size; have := hb2.size; omega) _⟩⟩
  case done =>
    rintro D xs W hD hS hi hK
    have HF : Hid (FkS f n d (sumL xs / d) 0) := hi.fin hS
    have hdv : ∀ w, Calls Try.prog 17 #[V (sumL xs), V d] w fun e w' => e = .returned (.tuple #[V (sumL xs / d), V (divR (sumL xs) d), .int .i64 0]) ∧ Below w.heap.size w w' := fun w => by
      have := div (sumL xs) d hi.hs Hd.out w
      rw [show divE d = 0 from if_neg (Nat.ne_of_gt H0.out)] at this
      exact this
    generalize divR (sumL xs) d = t2 at *
    generalize sumL xs / d = q at *
    have HD : Hid (∀ w, Calls Try.prog 17 #[V (sumL xs), V d] w fun e w' => e = .returned (.tuple #[V q, V t2, .int .i64 0]) ∧ Below w.heap.size w w') := hdv
    have HI : Hid (FI w W d xs) := hi
    have o0 := hi.bO.cell 0
    have of0 := hi.bO.frozen 0
    have o1 := hi.bO.cell 1
    have of1 := hi.bO.frozen 1
    have o2 := hi.bO.cell 2
    have of2 := hi.bO.frozen 2
    have o3 := hi.bO.cell 3
    have of3 := hi.bO.frozen 3
    simp only [List.getElem?_toArray, List.getElem?_cons_zero, List.getElem?_cons_succ] at o0 o1 o2 o3
    have d0 := hi.bD.cell 0
    have df0 := hi.bD.frozen 0
    have d1 := hi.bD.cell 1
    have df1 := hi.bD.frozen 1
    have d2 := hi.bD.cell 2
    have df2 := hi.bD.frozen 2
    have d3 := hi.bD.cell 3
    have df3 := hi.bD.frozen 3
    simp only [List.getElem?_toArray, List.getElem?_cons_zero, List.getElem?_cons_succ] at d0 d1 d2 d3
    have e0 := hi.bE.cell 0
    simp only [List.getElem?_toArray, List.getElem?_cons_zero] at e0
    clear hdv hi hS
    gi_wp2_with (refine ⟨trivial, ?_⟩; gi_at_call 17; refine (callsIn_wide.2 (HD.out _)).mono ?_; rintro e w2 ⟨rfl, hb2⟩; have bO2 := HI.out.bO.below hb2 HI.out.bO.lt; have bR2 := HI.out.bR.below hb2 HI.out.bR.lt; have lO2 := bO2.lt; have lR2 := bR2.lt; have p0 := bO2.cell 0; have pf0 := bO2.frozen 0; have p1 := bO2.cell 1; have pf1 := bO2.frozen 1; have p2 := bO2.cell 2; have pf2 := bO2.frozen 2; have p3 := bO2.cell 3; have pf3 := bO2.frozen 3; simp only [List.getElem?_toArray, List.getElem?_cons_zero, List.getElem?_cons_succ] at p0 p1 p2 p3; have r0 := bR2.cell 0; have rf0 := bR2.frozen 0; have r1 := bR2.cell 1; have rf1 := bR2.frozen 1; have r2 := bR2.cell 2; have rf2 := bR2.frozen 2; have r3 := bR2.cell 3; have rf3 := bR2.frozen 3; simp only [List.getElem?_toArray, List.getElem?_cons_zero, List.getElem?_cons_succ] at r0 r1 r2 r3)
    have kR := (set4_Bk (set4_other bR2 (c := w.heap.size + 1 + 1 + 1 + 1) (by omega) (.int .u64 (lb (q) 0)) (.int .u64 (lb (q) 1)) (.int .u64 (lb (q) 2)) (.int .u64 (lb (q) 3))) (.int .u64 (lb (q) 0)) (.int .u64 (lb (q) 1)) (.int .u64 (lb (q) 2)) (.int .u64 (lb (q) 3))).alloc (.cells (A4 (lb (t2) 0) (lb (t2) 1) (lb (t2) 2) (lb (t2) 3)) 25)
    have hBr := (set4_below (set4_below (HI.out.hB.trans (hb2.mono HI.out.hB.size)) (b := w.heap.size + 1 + 1 + 1 + 1) (by omega) (.int .u64 (lb (q) 0)) (.int .u64 (lb (q) 1)) (.int .u64 (lb (q) 2)) (.int .u64 (lb (q) 3))) (b := w.heap.size + 1 + 1 + 1) (by omega) (.int .u64 (lb (q) 0)) (.int .u64 (lb (q) 1)) (.int .u64 (lb (q) 2)) (.int .u64 (lb (q) 3))).alloc (by simp; have := HI.out.hB.size; have := hb2.size; omega) (.cells (A4 (lb (t2) 0) (lb (t2) 1) (lb (t2) 2) (lb (t2) 3)) 25)
    have hDl : D < W.heap.size := (Array.getElem?_eq_some_iff.1 hK).1
    have hK2 := (hb2.block D hDl).trans hK
    have hK8 := setDef (setDef (setDef (setDef (setDef (setDef (setDef (setDef hK2 rfl ⟨w.heap.size + 1 + 1 + 1 + 1, 0, none⟩ (.int .u64 (lb q 0))) rfl ⟨w.heap.size + 1 + 1 + 1 + 1, 1, none⟩ (.int .u64 (lb q 1))) rfl ⟨w.heap.size + 1 + 1 + 1 + 1, 2, none⟩ (.int .u64 (lb q 2))) rfl ⟨w.heap.size + 1 + 1 + 1 + 1, 3, none⟩ (.int .u64 (lb q 3))) rfl ⟨w.heap.size + 1 + 1 + 1, 0, none⟩ (.int .u64 (lb q 0))) rfl ⟨w.heap.size + 1 + 1 + 1, 1, none⟩ (.int .u64 (lb q 1))) rfl ⟨w.heap.size + 1 + 1 + 1, 2, none⟩ (.int .u64 (lb q 2))) rfl ⟨w.heap.size + 1 + 1 + 1, 3, none⟩ (.int .u64 (lb q 3))
    have hK9 := (Below.heap_alloc _ (.cells (A4 (lb (t2) 0) (lb (t2) 1) (lb (t2) 2) (lb (t2) 3)) 25) D (Array.getElem?_eq_some_iff.1 hK8).1).trans hK8
    clear hK8
    generalize World.alloc _ _ = W9 at kR hBr hK9 ⊢
    simp only [Exit.noGoto]
    refine ⟨by simp, .inl ⟨_, _, rfl, run_takeDeferred hK9, ?_⟩⟩
    have kP := bk_put (x' := .deferred none) kR hK9 rfl
    have u0 := kP.cell 0
    have uf0 := kP.frozen 0
    have u1 := kP.cell 1
    have uf1 := kP.frozen 1
    have u2 := kP.cell 2
    have uf2 := kP.frozen 2
    have u3 := kP.cell 3
    have uf3 := kP.frozen 3
    simp only [List.getElem?_toArray, List.getElem?_cons_zero, List.getElem?_cons_succ] at u0 u1 u2 u3
    refine ⟨.tuple #[V q, .int .i64 0], ?_, ⟨q, 0, rfl, HF.out⟩, hBr.trans (below_put _ _ (by omega))⟩
    simp [results, Try.f40, go_sem, u0, u1, u2, u3]
  case stop =>
    rintro D c pre W hD hP ⟨rfl, hx⟩ hK
    obtain ⟨hov, bE⟩ := hx.over hP
    have HO : Hid (FkOver f n d) := hov
    have bR := hx.bR
    have HB : Hid (Below w.heap.size w W) := hx.hB
    have lR := bR.lt
    have r0 := bR.cell 0
    have rf0 := bR.frozen 0
    have r1 := bR.cell 1
    have rf1 := bR.frozen 1
    have r2 := bR.cell 2
    have rf2 := bR.frozen 2
    have r3 := bR.cell 3
    have rf3 := bR.frozen 3
    simp only [List.getElem?_toArray, List.getElem?_cons_zero, List.getElem?_cons_succ] at r0 r1 r2 r3
    have e0 := bE.cell 0
    simp only [List.getElem?_toArray, List.getElem?_cons_zero] at e0
    clear hov hx hP
    gi_wp2
    gi_region
    gi_wp2
    have kR := set4_Bk bR (.int .u64 0) (.int .u64 0) (.int .u64 0) (.int .u64 0)
    have hBr := set4_below HB.out (b := w.heap.size + 1 + 1 + 1) (by omega) (.int .u64 0) (.int .u64 0) (.int .u64 0) (.int .u64 0)
    have hK9 := setDef (setDef (setDef (setDef hK rfl ⟨w.heap.size + 1 + 1 + 1, 0, none⟩ (.int .u64 0)) rfl ⟨w.heap.size + 1 + 1 + 1, 1, none⟩ (.int .u64 0)) rfl ⟨w.heap.size + 1 + 1 + 1, 2, none⟩ (.int .u64 0)) rfl ⟨w.heap.size + 1 + 1 + 1, 3, none⟩ (.int .u64 0)
    generalize World.setCell _ _ _ = W8 at kR hBr hK9 ⊢
    have hK9 : W8.drew.heap[D]? = some (Obj.deferred (some [])) := hK9
    have kR := kR.drew
    have hBr := hBr.drew
    generalize W8.drew = W9 at kR hBr hK9 ⊢
    simp only [Exit.noGoto]
    refine ⟨by simp, .inl ⟨_, _, rfl, run_takeDeferred hK9, ?_⟩⟩
    have kP := bk_put (x' := .deferred none) kR hK9 rfl
    have u0 := kP.cell 0
    have uf0 := kP.frozen 0
    have u1 := kP.cell 1
    have uf1 := kP.frozen 1
    have u2 := kP.cell 2
    have uf2 := kP.frozen 2
    have u3 := kP.cell 3
    have uf3 := kP.frozen 3
    simp only [List.getElem?_toArray, List.getElem?_cons_zero, List.getElem?_cons_succ] at u0 u1 u2 u3
    refine ⟨.tuple #[V 0, .int .i64 8], ?_, ⟨0, 8, rfl, .inl ⟨rfl, rfl, HO.out⟩⟩, hBr.trans (below_put _ _ (by omega))⟩
    rw [V_zero]
    simp [results, Try.f40, go_sem, u0, u1, u2, u3]
end Go.Proofs.Ytljfenjpnanoiaa

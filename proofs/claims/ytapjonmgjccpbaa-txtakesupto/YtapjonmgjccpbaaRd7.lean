import Derived.Test.YtapjonmgjccpbaaJ9
set_option linter.unusedSimpArgs false
set_option linter.unusedVariables false
set_option maxRecDepth 100000
namespace Go.Proofs.Ytapjonmgjccpbaa
open Go.RowKit Go.Shelf
attribute [local go_sem] Oper.semAt_some

/-! tx.read. -/
set_option maxHeartbeats 4000000 in
theorem read7 (n : Nat) (a : IT) (ad : Option Addr) (l c : Nat) (w : World) (hr : Rd w (n + 1 + 1) a.items (.slice ad l c)) (hw : a.wt ≤ 1048576) :
    Calls Try.prog 38 #[.agg #[.bool a.list, .string a.text, .slice ad l c]] w fun e w' => (∃ t u v, e = .returned (.tuple #[.agg (txc t u v), .bool (a.list && okT a.items)]) ∧ (∃ x y z, u = .slice x y z) ∧ (∃ x y z, v = .slice x y z) ∧ ((a.list && okT a.items) = true → t = rdT a.items ∧ OT w' w.heap.size t u v)) ∧ Below w.heap.size w w' := by
  have HE : Hid (∀ W, Below w.heap.size w W → Calls Try.prog 66 #[.agg #[.bool a.list, .string a.text, .slice ad l c]] W (EaQ (n + 1 + 1) a W)) := fun W hW => each4 (n + 1 + 1) a ad l c W (hr.below hW) (by omega)
  have HY : Hid (IT.wts (ysOf a) ≤ 1048576) := by
    show _ ≤ _
    obtain ⟨L, t, xs⟩ := a
    have hw : 1 + t.size + IT.wts xs ≤ 1048576 := hw
    cases L
    · simp [ysOf, IT.list, IT.wts]
    · show IT.wts xs ≤ _; omega
  clear hr hw
  obtain ⟨X, hX⟩ : ∃ X, X = w.heap.size := ⟨_, rfl⟩
  refine (callsIn_wide (n := 6)).1 ?_
  refine callsIn_of_wp_marks Try.func38 rfl trivial ?_ rfl
  simp only [Try.ntmps38, List.size_toArray, List.length_cons, List.length_nil, Nat.reduceAdd, Nat.reduceSub, Array.replicate_succ, Array.replicate_zero, List.push_toArray, List.append_toArray, List.nil_append, List.cons_append]
  gi_wp2
  refine wpIn_wide.2 (wp_scope_straight ((wpIn_wide (n := 6)).1 ?_))
  gi_wp2
  refine wpIn_label ?_
  rw [← hX]
  obtain ⟨wr, hwr⟩ : ∃ wr, wr = (((w.alloc (.cells #[.bool a.list, .string a.text, .slice ad l c] 70)).alloc (.cells #[.int .i64 0, .int .i64 0, .int .u64 0, .int .u64 0, .int .u64 0, .int .u64 0, .int .u64 0, .int .u64 0, .int .u64 0, .int .u64 0, .int .u64 0, .int .u64 0, .int .u64 0, .int .u64 0, .int .u64 0, .int .u64 0, .int .u64 0, .int .u64 0, .int .i64 0, .slice none 0 0, .slice none 0 0] 30)).alloc (.cells #[.bool a.list] 4)).alloc (.cells #[.int .i64 0] 3) := ⟨_, rfl⟩
  rw [← hwr]
  have HX : Hid (X = w.heap.size) := hX
  have bA : Bk wr X #[.bool a.list, .string a.text, .slice ad l c] 70 := by rw [hwr, hX]; exact (((Bk.new _ _ _).alloc _).alloc _).alloc _
  have bT : Bk wr (X + 1) #[.int .i64 0, .int .i64 0, .int .u64 0, .int .u64 0, .int .u64 0, .int .u64 0, .int .u64 0, .int .u64 0, .int .u64 0, .int .u64 0, .int .u64 0, .int .u64 0, .int .u64 0, .int .u64 0, .int .u64 0, .int .u64 0, .int .u64 0, .int .u64 0, .int .i64 0, .slice none 0 0, .slice none 0 0] 30 := by rw [hwr, hX]; exact ((Bk.new' _ _ _ (by simp)).alloc _).alloc _
  have bO : Bk wr (X + 1 + 1) #[.bool a.list] 4 := by rw [hwr, hX]; exact (Bk.new' _ _ _ (by simp)).alloc _
  have bK : Bk wr (X + 1 + 1 + 1) #[.int .i64 0] 3 := by rw [hwr, hX]; exact Bk.new' _ _ _ (by simp)
  have hB : Below w.heap.size w wr := by rw [hwr]; exact ((((Below.refl _ _).alloc (Nat.le_refl _) _).alloc (by simp) _).alloc (by simp; omega) _).alloc (by simp; omega) _
  have HZ : Hid (wr.heap.size = X + 4) := by show _ = _; rw [hwr, hX]; simp
  clear hwr hX
  obtain ⟨x0, x1, x2⟩ := box_cells bA
  gi_wp2_with (refine ⟨trivial, ?_⟩; gi_at_call 66; refine (callsIn_wide.2 (HE.out _ hB)).mono ?_; rintro e w9 ⟨rfl, ⟨ad', l', c', bI, hrI⟩, hb9⟩)
  rw [HZ.out] at bI hrI hb9 ⊢
  generalize hys : ysOf a = ys at *
  have HYs : Hid (ysOf a = ys) := hys
  clear hys
  obtain ⟨N, hNe⟩ : ∃ N, N = w9.heap.size := ⟨_, rfl⟩
  have lI := bI.lt
  have hrI : RdP w9 (fun b => X + 4 + 2 ≤ b ∧ b < N) (n + 1 + 1) ys (.slice ad' l' c') := by
    have h1 := hrI.lt
    rw [← hNe] at h1
    exact h1
  have hl' : l' = ys.length := by
    obtain ⟨_, _, _, _, e2, -, -⟩ := hrI.at
    injection e2 with _ e2 _
  subst hl'
  have hr0 : txc (rdT (([] : List EX).map EX.it)) (.slice none 0 0) (.slice none 0 0) = #[.int .i64 0, .int .i64 0, .int .u64 0, .int .u64 0, .int .u64 0, .int .u64 0, .int .u64 0, .int .u64 0, .int .u64 0, .int .u64 0, .int .u64 0, .int .u64 0, .int .u64 0, .int .u64 0, .int .u64 0, .int .u64 0, .int .u64 0, .int .u64 0, .int .i64 0, .slice none 0 0, .slice none 0 0] := by
    show txc (rdT []) _ _ = _
    rw [rdT_nil]
    simp [lb_zero]
  have h0 : RI w w9 X N a.list [] := ⟨⟨.slice none 0 0, .slice none 0 0, by rw [hr0]; exact bT.below hb9 (by omega), Or.nil _ _ _ _, Or.nil _ _ _ _⟩, bO.below hb9 (by omega), bK.below hb9 (by omega), by simp, fun i hi => by simp at hi, hB.trans (hb9.mono (by have := HX.out; omega)), by omega⟩
  have HN : Hid (X + 4 + 2 ≤ N ∧ w.heap.size = X) := ⟨by rw [hNe]; omega, HX.out.symm⟩
  have hNX : X + 4 + 2 ≤ N := HN.out.1
  have HWt : Hid (∀ x ∈ ys, x.wt ≤ 1048576) := fun x hx => by
    obtain ⟨i, hi, rfl⟩ := List.getElem_of_mem hx
    have := wts_mem hi
    have h2 := HY.out
    omega
  have HLs : Hid (0 < ys.length → a.list = true) := fun h => by
    rw [← HYs.out, ysOf] at h
    by_cases hl : a.list = true
    · exact hl
    · rw [if_neg hl] at h; simp at h
  clear bA bT bO bK hB hb9 x0 x1 x2 lI HE HZ HX hr0
  refine wpIn_rangeA rfl (by omega) (gf := 96) (lb := #[.pointer (some ⟨X + 4 + 1, 0, none⟩)]) rfl trivial (enters_of Try.func96 rfl rfl)
    (each1_seqR _ (n + 1) ys (X + 4 + 1) (X + 4 + 2) N ad' c' (by omega) w9 bI hrI (by omega) HY.out) KpR.trans (fun W l o o' _ h hc b vs t _ _ hb => bk_put hb h hc) (Below.refl _ _) (fun _ => rfl)
    (fun pre W => RI w W X N a.list pre) (fun c pre W => c = .exit 0 ∧ RX w W X N pre) (fun s A B h hb => h.below hb) (fun c s A B h hb => ⟨h.1, h.2.below hb⟩) (fun s A l o o' hl h hc hi => hi.put (by have := HN.out.2; omega) h hc) (fun c s A l o o' hl h hc hi => ⟨hi.1, hi.2.put (by have := HN.out.2; omega) h hc⟩) h0
    (fun x a' W => ∃ Xi, a' = { tmps := #[.agg #[.bool a.list, .string a.text, .slice ad l c], .pointer (some ⟨X, 0, none⟩), .pointer (some ⟨X + 1, 0, none⟩), .pointer (some ⟨X + 1 + 1, 0, none⟩), .pointer (some ⟨X + 1 + 1 + 1, 0, none⟩), .pointer (some ⟨Xi, 0, none⟩), .pointer (some ⟨X, 0, none⟩), .bool a.list, .agg #[.bool a.list, .string a.text, .slice ad l c], (.func (.func 96) #[] #[.pointer (some ⟨X + 4 + 1, 0, none⟩)]), .agg #[.bool x.it.list, .string x.it.text, .slice x.ad x.l x.c], undef, undef, undef, undef, undef, undef, undef, undef, undef, undef, undef, undef, undef, undef, undef, undef, undef, undef, undef, undef, undef, undef, undef, undef, undef, undef, undef, undef, undef, undef, undef, undef, undef, undef, undef, undef, undef, undef, undef, undef, undef, undef, undef, undef, undef, undef, undef, undef, undef, undef, undef, undef, undef, undef, undef, undef, undef, undef, undef, undef, undef, undef, undef, undef, undef, undef, undef, undef, undef, undef, undef, undef, undef, undef, undef, undef, undef, undef, undef, undef, undef, undef, undef, undef, undef, undef, undef], defers := [] } ∧ N ≤ Xi ∧ Bk W Xi #[.bool x.it.list, .string x.it.text, .slice x.ad x.l x.c] 70 ∧ (∃ B, RdP W (B ≤ ·) (n + 1) x.it.items (.slice x.ad x.l x.c)) ∧ a.list = true ∧ x.it.wt ≤ 1048576)
    (fun x a' A l o o' _ h hc hx => by obtain ⟨Xi, h1, h2, h3, h4, h5⟩ := hx; exact ⟨Xi, h1, h2, bk_put h3 h hc, h4.imp fun B q => q.put h hc, h5⟩) ?assign ?body ?done ?stop
  case assign =>
    intro l pre x A0 W K hi0 hbA hgd hi hK
    simp only [xenc]
    gi_wp2
    have hb : Below W.heap.size W (W.alloc (.cells #[.bool x.it.list, .string x.it.text, .slice x.ad x.l x.c] 70)) := (Below.refl _ W).alloc (Nat.le_refl _) _
    have hxm : x.it ∈ ys := by
      have h1 := hgd.2.2
      have : x.it ∈ (pre ++ [x]).map EX.it := by simp
      rw [h1] at this
      exact List.mem_of_mem_take this
    exact hK _ _ (kf_below hb) (fun b vs t _ _ h => h.alloc _) (hi.below hb) ⟨W.heap.size, rfl, hi.sz, Bk.new _ _ _, ⟨_, hgd.1.keep fun b _ hl => Below.heap_alloc W _ b hl⟩, HLs.out (by have := hgd.2.1; omega), HWt.out _ hxm⟩
  case body =>
    rintro lr pre x a' W hi ⟨Xi, rfl, hXi, bXi, hrx, hal, hxw⟩
    obtain ⟨u, v, bT, ou, ov⟩ := hi.bT
    obtain ⟨ua, uc, rfl, -⟩ := ou.shape
    obtain ⟨va, vc, rfl, -⟩ := ov.shape
    obtain ⟨B9, hrx⟩ : ∃ B9 : Nat, B9 = B9 ∧ RdP W (B9 ≤ ·) (n + 1) x.it.items (.slice x.ad x.l x.c) := by obtain ⟨B, h⟩ := hrx; exact ⟨B, rfl, h⟩
    obtain ⟨k, hk⟩ : ∃ k, pre.length = k := ⟨_, rfl⟩
    have hk9 : k = 0 ∨ k = 1 ∨ k = 2 ∨ k = 3 ∨ k = 4 ∨ k = 5 ∨ k = 6 ∨ k = 7 ∨ k = 8 ∨ k = 9 := by have := hi.le; omega
    have bK := hi.bK
    rw [hk] at bK
    have bO := hi.bO
    have HI : Hid (RI w W X N a.list pre) := hi
    have HOU : Hid (Or 24 cU W N (.slice ua (rdT (pre.map EX.it)).hs.length uc) (rdT (pre.map EX.it)).hs) := ou
    have HOV : Hid (Or 9 cS W N (.slice va (rdT (pre.map EX.it)).bs.length vc) (rdT (pre.map EX.it)).bs) := ov
    have HC : Hid (∀ w2, Below W.heap.size W w2 → Bk w2 (X + 1) (txc (rdT (pre.map EX.it)) (.slice ua (rdT (pre.map EX.it)).hs.length uc) (.slice va (rdT (pre.map EX.it)).bs.length vc)) 30 ∧ Bk w2 (X + 1 + 1) #[.bool a.list] 4 ∧ Bk w2 (X + 1 + 1 + 1) #[.int .i64 (k : Int)] 3) := fun w2 hb => ⟨bT.below hb bT.lt, bO.below hb bO.lt, bK.below hb bK.lt⟩
    obtain ⟨xi0, xi1, xi2⟩ := box_cells bXi
    have k00 := bK.cell 0
    simp only [List.getElem?_toArray, List.getElem?_cons_zero, List.getElem?_cons_succ] at k00
    have lXi := bXi.lt
    clear hi bT bK bO ou ov bXi bI hrI h0
    rcases hk9 with rfl | rfl | rfl | rfl | rfl | rfl | rfl | rfl | rfl | rfl
    · have HT' : Hid (rdT (pre.map EX.it ++ [x.it]) = { rdT (pre.map EX.it) with fr := whV x.it.list x.it.text }) := rdT_0 _ _ (by simpa using hk)
      have HGk : Hid (gdA 0 x.it = whOk x.it.list x.it.text) := by show _ = _; simp [gdA]
      have HCl : Hid (∀ w, Calls Try.prog 67 #[.agg #[.bool x.it.list, .string x.it.text, .slice x.ad x.l x.c]] w fun e w' => e = .returned (.tuple #[.int .i64 (whV x.it.list x.it.text), .bool (whOk x.it.list x.it.text)]) ∧ Below w.heap.size w w') := fun w => takeWhole _ _ _ _ _ w
      generalize (whV x.it.list x.it.text) = vx at *
      generalize hok : (whOk x.it.list x.it.text) = okx at *
      clear hok
      generalize rdT (pre.map EX.it) = T0 at *
      clear hrx
      cases okx with
      | true =>
        gi_wp2_with (refine ⟨trivial, ?_⟩; gi_at_call 67; refine (CallsIn.inRound lr (callsIn_wide.2 (HCl.out _))).mono ?_; rintro e w2 ⟨rfl, hb2⟩; obtain ⟨c1, c2', c3⟩ := HC.out w2 hb2; have t0 := c1.cell 0; have tf0 := c1.frozen 0; have o0 := c2'.cell 0; have of0 := c2'.frozen 0; have k0 := c3.cell 0; have kf0 := c3.frozen 0; have l1 := c1.lt; have l2' := c2'.lt; have l3 := c3.lt; simp only [List.getElem?_toArray, List.getElem?_cons_zero, List.getElem?_cons_succ] at t0 o0 k0; clear c1 c2' c3)
        obtain ⟨W5, hW5⟩ : ∃ W5, W5 = (((w2.setCell ⟨X + 1, 0, none⟩ (.int .i64 vx)).setCell ⟨X + 1 + 1, 0, none⟩ (.bool true)).setCell ⟨X + 1 + 1 + 1, 0, none⟩ (.int .i64 1)) := ⟨_, rfl⟩
        have hWb : ∀ b, b ≠ X + 1 → b ≠ X + 1 + 1 → b ≠ X + 1 + 1 + 1 → W5.heap[b]? = w2.heap[b]? := fun b h1 h2 h3 => by rw [hW5]; exact (Below.heap_setCell _ _ _ b h3).trans ((Below.heap_setCell _ _ _ b h2).trans (Below.heap_setCell _ _ _ b h1))
        have hWz : W5.heap.size = w2.heap.size := by rw [hW5]; simp
        have hbT : Bk W5 (X + 1) (txc { T0 with fr := vx } (.slice ua T0.hs.length uc) (.slice va T0.bs.length vc)) 30 := by rw [hW5]; exact (((HC.out w2 hb2).1.set 0 (.int .i64 vx) rfl).other (a := ⟨X + 1 + 1, 0, none⟩) (by simp <;> omega) (.bool true)).other (a := ⟨X + 1 + 1 + 1, 0, none⟩) (by simp <;> omega) (.int .i64 1)
        have hbO : Bk W5 (X + 1 + 1) #[.bool true] 4 := by rw [hW5]; exact (((HC.out w2 hb2).2.1.other (a := ⟨X + 1, 0, none⟩) (by simp <;> omega) (.int .i64 vx)).set 0 (.bool true) rfl).other (a := ⟨X + 1 + 1 + 1, 0, none⟩) (by simp <;> omega) (.int .i64 1)
        have hbK : Bk W5 (X + 1 + 1 + 1) #[.int .i64 ((0 + 1 : Nat) : Int)] 3 := by rw [hW5]; exact (((HC.out w2 hb2).2.2.other (a := ⟨X + 1, 0, none⟩) (by simp <;> omega) (.int .i64 vx)).other (a := ⟨X + 1 + 1, 0, none⟩) (by simp <;> omega) (.bool true)).set 0 (.int .i64 1) rfl
        have hbl : Below w.heap.size w W5 := by rw [hW5]; exact ((((HI.out.bel.trans (hb2.mono HI.out.bel.size)).setCell (p := ⟨X + 1, 0, none⟩) (by have := HN.out.2; show _ ≤ X + 1; omega) (.int .i64 vx)).setCell (p := ⟨X + 1 + 1, 0, none⟩) (by have := HN.out.2; show _ ≤ X + 1 + 1; omega) (.bool true)).setCell (p := ⟨X + 1 + 1 + 1, 0, none⟩) (by have := HN.out.2; show _ ≤ X + 1 + 1 + 1; omega) (.int .i64 1))
        (try rw [← hW5])
        obtain ⟨z1, z2, z3⟩ := ri_next HI.out hk (by omega) hal HT'.out (by rw [HGk.out]) hb2 hWb hWz hbT hbO hbK ((HOU.out.below' hb2).block (fun q hq => hWb q (by have := (HOU.out.ge hq).1; omega) (by have := (HOU.out.ge hq).1; omega) (by have := (HOU.out.ge hq).1; omega))) ((HOV.out.below' hb2).block (fun q hq => hWb q (by have := (HOV.out.ge hq).1; omega) (by have := (HOV.out.ge hq).1; omega) (by have := (HOV.out.ge hq).1; omega))) hbl
        exact ⟨z1 _, z2, z3⟩
      | false =>
        gi_wp2_with (refine ⟨trivial, ?_⟩; gi_at_call 67; refine (CallsIn.inRound lr (callsIn_wide.2 (HCl.out _))).mono ?_; rintro e w2 ⟨rfl, hb2⟩; obtain ⟨c1, c2', c3⟩ := HC.out w2 hb2; have t0 := c1.cell 0; have tf0 := c1.frozen 0; have o0 := c2'.cell 0; have of0 := c2'.frozen 0; have k0 := c3.cell 0; have kf0 := c3.frozen 0; have l1 := c1.lt; have l2' := c2'.lt; have l3 := c3.lt; simp only [List.getElem?_toArray, List.getElem?_cons_zero, List.getElem?_cons_succ] at t0 o0 k0; clear c1 c2' c3)
        obtain ⟨W5, hW5⟩ : ∃ W5, W5 = (((w2.setCell ⟨X + 1, 0, none⟩ (.int .i64 vx)).setCell ⟨X + 1 + 1, 0, none⟩ (.bool false)).setCell ⟨X + 1 + 1 + 1, 0, none⟩ (.int .i64 1)) := ⟨_, rfl⟩
        have hWb : ∀ b, b ≠ X + 1 → b ≠ X + 1 + 1 → b ≠ X + 1 + 1 + 1 → W5.heap[b]? = w2.heap[b]? := fun b h1 h2 h3 => by rw [hW5]; exact (Below.heap_setCell _ _ _ b h3).trans ((Below.heap_setCell _ _ _ b h2).trans (Below.heap_setCell _ _ _ b h1))
        have hWz : W5.heap.size = w2.heap.size := by rw [hW5]; simp
        have hbT : Bk W5 (X + 1) (txc { T0 with fr := vx } (.slice ua T0.hs.length uc) (.slice va T0.bs.length vc)) 30 := by rw [hW5]; exact (((HC.out w2 hb2).1.set 0 (.int .i64 vx) rfl).other (a := ⟨X + 1 + 1, 0, none⟩) (by simp <;> omega) (.bool false)).other (a := ⟨X + 1 + 1 + 1, 0, none⟩) (by simp <;> omega) (.int .i64 1)
        have hbO : Bk W5 (X + 1 + 1) #[.bool false] 4 := by rw [hW5]; exact (((HC.out w2 hb2).2.1.other (a := ⟨X + 1, 0, none⟩) (by simp <;> omega) (.int .i64 vx)).set 0 (.bool false) rfl).other (a := ⟨X + 1 + 1 + 1, 0, none⟩) (by simp <;> omega) (.int .i64 1)
        have hbK : Bk W5 (X + 1 + 1 + 1) #[.int .i64 ((0 + 1 : Nat) : Int)] 3 := by rw [hW5]; exact (((HC.out w2 hb2).2.2.other (a := ⟨X + 1, 0, none⟩) (by simp <;> omega) (.int .i64 vx)).other (a := ⟨X + 1 + 1, 0, none⟩) (by simp <;> omega) (.bool false)).set 0 (.int .i64 1) rfl
        have hbl : Below w.heap.size w W5 := by rw [hW5]; exact ((((HI.out.bel.trans (hb2.mono HI.out.bel.size)).setCell (p := ⟨X + 1, 0, none⟩) (by have := HN.out.2; show _ ≤ X + 1; omega) (.int .i64 vx)).setCell (p := ⟨X + 1 + 1, 0, none⟩) (by have := HN.out.2; show _ ≤ X + 1 + 1; omega) (.bool false)).setCell (p := ⟨X + 1 + 1 + 1, 0, none⟩) (by have := HN.out.2; show _ ≤ X + 1 + 1 + 1; omega) (.int .i64 1))
        (try rw [← hW5])
        obtain ⟨z1, z2⟩ := rx_bad (N := N) (b := false) HI.out hk (.inl ⟨by omega, by rw [HGk.out], rfl⟩) hb2 hWb hWz hbT hbO hbK hbl
        exact ⟨z1 _, rfl, z2⟩
    · have HT' : Hid (rdT (pre.map EX.it ++ [x.it]) = { rdT (pre.map EX.it) with no := whV x.it.list x.it.text }) := rdT_1 _ _ (by simpa using hk)
      have HGk : Hid (gdA 1 x.it = whOk x.it.list x.it.text) := by show _ = _; simp [gdA]
      have HCl : Hid (∀ w, Calls Try.prog 67 #[.agg #[.bool x.it.list, .string x.it.text, .slice x.ad x.l x.c]] w fun e w' => e = .returned (.tuple #[.int .i64 (whV x.it.list x.it.text), .bool (whOk x.it.list x.it.text)]) ∧ Below w.heap.size w w') := fun w => takeWhole _ _ _ _ _ w
      generalize (whV x.it.list x.it.text) = vx at *
      generalize hok : (whOk x.it.list x.it.text) = okx at *
      clear hok
      generalize rdT (pre.map EX.it) = T0 at *
      clear hrx
      cases okx with
      | true =>
        gi_wp2_with (refine ⟨trivial, ?_⟩; gi_at_call 67; refine (CallsIn.inRound lr (callsIn_wide.2 (HCl.out _))).mono ?_; rintro e w2 ⟨rfl, hb2⟩; obtain ⟨c1, c2', c3⟩ := HC.out w2 hb2; have t0 := c1.cell 1; have tf0 := c1.frozen 1; have o0 := c2'.cell 0; have of0 := c2'.frozen 0; have k0 := c3.cell 0; have kf0 := c3.frozen 0; have l1 := c1.lt; have l2' := c2'.lt; have l3 := c3.lt; simp only [List.getElem?_toArray, List.getElem?_cons_zero, List.getElem?_cons_succ] at t0 o0 k0; clear c1 c2' c3)
        obtain ⟨W5, hW5⟩ : ∃ W5, W5 = (((w2.setCell ⟨X + 1, 1, none⟩ (.int .i64 vx)).setCell ⟨X + 1 + 1, 0, none⟩ (.bool true)).setCell ⟨X + 1 + 1 + 1, 0, none⟩ (.int .i64 2)) := ⟨_, rfl⟩
        have hWb : ∀ b, b ≠ X + 1 → b ≠ X + 1 + 1 → b ≠ X + 1 + 1 + 1 → W5.heap[b]? = w2.heap[b]? := fun b h1 h2 h3 => by rw [hW5]; exact (Below.heap_setCell _ _ _ b h3).trans ((Below.heap_setCell _ _ _ b h2).trans (Below.heap_setCell _ _ _ b h1))
        have hWz : W5.heap.size = w2.heap.size := by rw [hW5]; simp
        have hbT : Bk W5 (X + 1) (txc { T0 with no := vx } (.slice ua T0.hs.length uc) (.slice va T0.bs.length vc)) 30 := by rw [hW5]; exact (((HC.out w2 hb2).1.set 1 (.int .i64 vx) rfl).other (a := ⟨X + 1 + 1, 0, none⟩) (by simp <;> omega) (.bool true)).other (a := ⟨X + 1 + 1 + 1, 0, none⟩) (by simp <;> omega) (.int .i64 2)
        have hbO : Bk W5 (X + 1 + 1) #[.bool true] 4 := by rw [hW5]; exact (((HC.out w2 hb2).2.1.other (a := ⟨X + 1, 1, none⟩) (by simp <;> omega) (.int .i64 vx)).set 0 (.bool true) rfl).other (a := ⟨X + 1 + 1 + 1, 0, none⟩) (by simp <;> omega) (.int .i64 2)
        have hbK : Bk W5 (X + 1 + 1 + 1) #[.int .i64 ((1 + 1 : Nat) : Int)] 3 := by rw [hW5]; exact (((HC.out w2 hb2).2.2.other (a := ⟨X + 1, 1, none⟩) (by simp <;> omega) (.int .i64 vx)).other (a := ⟨X + 1 + 1, 0, none⟩) (by simp <;> omega) (.bool true)).set 0 (.int .i64 2) rfl
        have hbl : Below w.heap.size w W5 := by rw [hW5]; exact ((((HI.out.bel.trans (hb2.mono HI.out.bel.size)).setCell (p := ⟨X + 1, 1, none⟩) (by have := HN.out.2; show _ ≤ X + 1; omega) (.int .i64 vx)).setCell (p := ⟨X + 1 + 1, 0, none⟩) (by have := HN.out.2; show _ ≤ X + 1 + 1; omega) (.bool true)).setCell (p := ⟨X + 1 + 1 + 1, 0, none⟩) (by have := HN.out.2; show _ ≤ X + 1 + 1 + 1; omega) (.int .i64 2))
        (try rw [← hW5])
        obtain ⟨z1, z2, z3⟩ := ri_next HI.out hk (by omega) hal HT'.out (by rw [HGk.out]) hb2 hWb hWz hbT hbO hbK ((HOU.out.below' hb2).block (fun q hq => hWb q (by have := (HOU.out.ge hq).1; omega) (by have := (HOU.out.ge hq).1; omega) (by have := (HOU.out.ge hq).1; omega))) ((HOV.out.below' hb2).block (fun q hq => hWb q (by have := (HOV.out.ge hq).1; omega) (by have := (HOV.out.ge hq).1; omega) (by have := (HOV.out.ge hq).1; omega))) hbl
        exact ⟨z1 _, z2, z3⟩
      | false =>
        gi_wp2_with (refine ⟨trivial, ?_⟩; gi_at_call 67; refine (CallsIn.inRound lr (callsIn_wide.2 (HCl.out _))).mono ?_; rintro e w2 ⟨rfl, hb2⟩; obtain ⟨c1, c2', c3⟩ := HC.out w2 hb2; have t0 := c1.cell 1; have tf0 := c1.frozen 1; have o0 := c2'.cell 0; have of0 := c2'.frozen 0; have k0 := c3.cell 0; have kf0 := c3.frozen 0; have l1 := c1.lt; have l2' := c2'.lt; have l3 := c3.lt; simp only [List.getElem?_toArray, List.getElem?_cons_zero, List.getElem?_cons_succ] at t0 o0 k0; clear c1 c2' c3)
        obtain ⟨W5, hW5⟩ : ∃ W5, W5 = (((w2.setCell ⟨X + 1, 1, none⟩ (.int .i64 vx)).setCell ⟨X + 1 + 1, 0, none⟩ (.bool false)).setCell ⟨X + 1 + 1 + 1, 0, none⟩ (.int .i64 2)) := ⟨_, rfl⟩
        have hWb : ∀ b, b ≠ X + 1 → b ≠ X + 1 + 1 → b ≠ X + 1 + 1 + 1 → W5.heap[b]? = w2.heap[b]? := fun b h1 h2 h3 => by rw [hW5]; exact (Below.heap_setCell _ _ _ b h3).trans ((Below.heap_setCell _ _ _ b h2).trans (Below.heap_setCell _ _ _ b h1))
        have hWz : W5.heap.size = w2.heap.size := by rw [hW5]; simp
        have hbT : Bk W5 (X + 1) (txc { T0 with no := vx } (.slice ua T0.hs.length uc) (.slice va T0.bs.length vc)) 30 := by rw [hW5]; exact (((HC.out w2 hb2).1.set 1 (.int .i64 vx) rfl).other (a := ⟨X + 1 + 1, 0, none⟩) (by simp <;> omega) (.bool false)).other (a := ⟨X + 1 + 1 + 1, 0, none⟩) (by simp <;> omega) (.int .i64 2)
        have hbO : Bk W5 (X + 1 + 1) #[.bool false] 4 := by rw [hW5]; exact (((HC.out w2 hb2).2.1.other (a := ⟨X + 1, 1, none⟩) (by simp <;> omega) (.int .i64 vx)).set 0 (.bool false) rfl).other (a := ⟨X + 1 + 1 + 1, 0, none⟩) (by simp <;> omega) (.int .i64 2)
        have hbK : Bk W5 (X + 1 + 1 + 1) #[.int .i64 ((1 + 1 : Nat) : Int)] 3 := by rw [hW5]; exact (((HC.out w2 hb2).2.2.other (a := ⟨X + 1, 1, none⟩) (by simp <;> omega) (.int .i64 vx)).other (a := ⟨X + 1 + 1, 0, none⟩) (by simp <;> omega) (.bool false)).set 0 (.int .i64 2) rfl
        have hbl : Below w.heap.size w W5 := by rw [hW5]; exact ((((HI.out.bel.trans (hb2.mono HI.out.bel.size)).setCell (p := ⟨X + 1, 1, none⟩) (by have := HN.out.2; show _ ≤ X + 1; omega) (.int .i64 vx)).setCell (p := ⟨X + 1 + 1, 0, none⟩) (by have := HN.out.2; show _ ≤ X + 1 + 1; omega) (.bool false)).setCell (p := ⟨X + 1 + 1 + 1, 0, none⟩) (by have := HN.out.2; show _ ≤ X + 1 + 1 + 1; omega) (.int .i64 2))
        (try rw [← hW5])
        obtain ⟨z1, z2⟩ := rx_bad (N := N) (b := false) HI.out hk (.inl ⟨by omega, by rw [HGk.out], rfl⟩) hb2 hWb hWz hbT hbO hbK hbl
        exact ⟨z1 _, rfl, z2⟩
    · have HT' : Hid (rdT (pre.map EX.it ++ [x.it]) = { rdT (pre.map EX.it) with ti := tkV x.it.text }) := rdT_2 _ _ (by simpa using hk)
      have HGk : Hid (gdA 2 x.it = nbOk x.it.list x.it.text) := by show _ = _; simp [gdA]
      have HCl : Hid (∀ w, Calls Try.prog 68 #[.agg #[.bool x.it.list, .string x.it.text, .slice x.ad x.l x.c]] w fun e w' => e = .returned (.tuple #[V (tkV x.it.text), .bool (nbOk x.it.list x.it.text)]) ∧ Below w.heap.size w w') := fun w => takeNumber _ _ _ _ _ _ rfl w
      generalize (tkV x.it.text) = vx at *
      generalize hok : (nbOk x.it.list x.it.text) = okx at *
      clear hok
      generalize rdT (pre.map EX.it) = T0 at *
      clear hrx
      cases okx with
      | true =>
        gi_wp2_with (refine ⟨trivial, ?_⟩; gi_at_call 68; refine (CallsIn.inRound lr (callsIn_wide.2 (HCl.out _))).mono ?_; rintro e w2 ⟨rfl, hb2⟩; obtain ⟨c1, c2', c3⟩ := HC.out w2 hb2; have t0 := c1.cell 2; have tf0 := c1.frozen 2; have t1 := c1.cell 3; have tf1 := c1.frozen 3; have t2 := c1.cell 4; have tf2 := c1.frozen 4; have t3 := c1.cell 5; have tf3 := c1.frozen 5; have o0 := c2'.cell 0; have of0 := c2'.frozen 0; have k0 := c3.cell 0; have kf0 := c3.frozen 0; have l1 := c1.lt; have l2' := c2'.lt; have l3 := c3.lt; simp only [List.getElem?_toArray, List.getElem?_cons_zero, List.getElem?_cons_succ] at t0 t1 t2 t3 o0 k0; clear c1 c2' c3)
        obtain ⟨W5, hW5⟩ : ∃ W5, W5 = ((((((w2.setCell ⟨X + 1, 2, none⟩ (.int .u64 (lb vx 0))).setCell ⟨X + 1, 3, none⟩ (.int .u64 (lb vx 1))).setCell ⟨X + 1, 4, none⟩ (.int .u64 (lb vx 2))).setCell ⟨X + 1, 5, none⟩ (.int .u64 (lb vx 3))).setCell ⟨X + 1 + 1, 0, none⟩ (.bool true)).setCell ⟨X + 1 + 1 + 1, 0, none⟩ (.int .i64 3)) := ⟨_, rfl⟩
        have hWb : ∀ b, b ≠ X + 1 → b ≠ X + 1 + 1 → b ≠ X + 1 + 1 + 1 → W5.heap[b]? = w2.heap[b]? := fun b h1 h2 h3 => by rw [hW5]; exact (Below.heap_setCell _ _ _ b h3).trans ((Below.heap_setCell _ _ _ b h2).trans ((((Below.heap_setCell _ _ _ b h1).trans (Below.heap_setCell _ _ _ b h1)).trans (Below.heap_setCell _ _ _ b h1)).trans (Below.heap_setCell _ _ _ b h1)))
        have hWz : W5.heap.size = w2.heap.size := by rw [hW5]; simp
        have hbT : Bk W5 (X + 1) (txc { T0 with ti := vx } (.slice ua T0.hs.length uc) (.slice va T0.bs.length vc)) 30 := by rw [hW5]; exact ((((((HC.out w2 hb2).1.set 2 (.int .u64 (lb vx 0)) rfl).set 3 (.int .u64 (lb vx 1)) rfl).set 4 (.int .u64 (lb vx 2)) rfl).set 5 (.int .u64 (lb vx 3)) rfl).other (a := ⟨X + 1 + 1, 0, none⟩) (by simp <;> omega) (.bool true)).other (a := ⟨X + 1 + 1 + 1, 0, none⟩) (by simp <;> omega) (.int .i64 3)
        have hbO : Bk W5 (X + 1 + 1) #[.bool true] 4 := by rw [hW5]; exact ((((((HC.out w2 hb2).2.1.other (a := ⟨X + 1, 2, none⟩) (by simp <;> omega) (.int .u64 (lb vx 0))).other (a := ⟨X + 1, 3, none⟩) (by simp <;> omega) (.int .u64 (lb vx 1))).other (a := ⟨X + 1, 4, none⟩) (by simp <;> omega) (.int .u64 (lb vx 2))).other (a := ⟨X + 1, 5, none⟩) (by simp <;> omega) (.int .u64 (lb vx 3))).set 0 (.bool true) rfl).other (a := ⟨X + 1 + 1 + 1, 0, none⟩) (by simp <;> omega) (.int .i64 3)
        have hbK : Bk W5 (X + 1 + 1 + 1) #[.int .i64 ((2 + 1 : Nat) : Int)] 3 := by rw [hW5]; exact ((((((HC.out w2 hb2).2.2.other (a := ⟨X + 1, 2, none⟩) (by simp <;> omega) (.int .u64 (lb vx 0))).other (a := ⟨X + 1, 3, none⟩) (by simp <;> omega) (.int .u64 (lb vx 1))).other (a := ⟨X + 1, 4, none⟩) (by simp <;> omega) (.int .u64 (lb vx 2))).other (a := ⟨X + 1, 5, none⟩) (by simp <;> omega) (.int .u64 (lb vx 3))).other (a := ⟨X + 1 + 1, 0, none⟩) (by simp <;> omega) (.bool true)).set 0 (.int .i64 3) rfl
        have hbl : Below w.heap.size w W5 := by rw [hW5]; exact (((((((HI.out.bel.trans (hb2.mono HI.out.bel.size)).setCell (p := ⟨X + 1, 2, none⟩) (by have := HN.out.2; show _ ≤ X + 1; omega) (.int .u64 (lb vx 0))).setCell (p := ⟨X + 1, 3, none⟩) (by have := HN.out.2; show _ ≤ X + 1; omega) (.int .u64 (lb vx 1))).setCell (p := ⟨X + 1, 4, none⟩) (by have := HN.out.2; show _ ≤ X + 1; omega) (.int .u64 (lb vx 2))).setCell (p := ⟨X + 1, 5, none⟩) (by have := HN.out.2; show _ ≤ X + 1; omega) (.int .u64 (lb vx 3))).setCell (p := ⟨X + 1 + 1, 0, none⟩) (by have := HN.out.2; show _ ≤ X + 1 + 1; omega) (.bool true)).setCell (p := ⟨X + 1 + 1 + 1, 0, none⟩) (by have := HN.out.2; show _ ≤ X + 1 + 1 + 1; omega) (.int .i64 3))
        (try rw [← hW5])
        obtain ⟨z1, z2, z3⟩ := ri_next HI.out hk (by omega) hal HT'.out (by rw [HGk.out]) hb2 hWb hWz hbT hbO hbK ((HOU.out.below' hb2).block (fun q hq => hWb q (by have := (HOU.out.ge hq).1; omega) (by have := (HOU.out.ge hq).1; omega) (by have := (HOU.out.ge hq).1; omega))) ((HOV.out.below' hb2).block (fun q hq => hWb q (by have := (HOV.out.ge hq).1; omega) (by have := (HOV.out.ge hq).1; omega) (by have := (HOV.out.ge hq).1; omega))) hbl
        exact ⟨z1 _, z2, z3⟩
      | false =>
        gi_wp2_with (refine ⟨trivial, ?_⟩; gi_at_call 68; refine (CallsIn.inRound lr (callsIn_wide.2 (HCl.out _))).mono ?_; rintro e w2 ⟨rfl, hb2⟩; obtain ⟨c1, c2', c3⟩ := HC.out w2 hb2; have t0 := c1.cell 2; have tf0 := c1.frozen 2; have t1 := c1.cell 3; have tf1 := c1.frozen 3; have t2 := c1.cell 4; have tf2 := c1.frozen 4; have t3 := c1.cell 5; have tf3 := c1.frozen 5; have o0 := c2'.cell 0; have of0 := c2'.frozen 0; have k0 := c3.cell 0; have kf0 := c3.frozen 0; have l1 := c1.lt; have l2' := c2'.lt; have l3 := c3.lt; simp only [List.getElem?_toArray, List.getElem?_cons_zero, List.getElem?_cons_succ] at t0 t1 t2 t3 o0 k0; clear c1 c2' c3)
        obtain ⟨W5, hW5⟩ : ∃ W5, W5 = ((((((w2.setCell ⟨X + 1, 2, none⟩ (.int .u64 (lb vx 0))).setCell ⟨X + 1, 3, none⟩ (.int .u64 (lb vx 1))).setCell ⟨X + 1, 4, none⟩ (.int .u64 (lb vx 2))).setCell ⟨X + 1, 5, none⟩ (.int .u64 (lb vx 3))).setCell ⟨X + 1 + 1, 0, none⟩ (.bool false)).setCell ⟨X + 1 + 1 + 1, 0, none⟩ (.int .i64 3)) := ⟨_, rfl⟩
        have hWb : ∀ b, b ≠ X + 1 → b ≠ X + 1 + 1 → b ≠ X + 1 + 1 + 1 → W5.heap[b]? = w2.heap[b]? := fun b h1 h2 h3 => by rw [hW5]; exact (Below.heap_setCell _ _ _ b h3).trans ((Below.heap_setCell _ _ _ b h2).trans ((((Below.heap_setCell _ _ _ b h1).trans (Below.heap_setCell _ _ _ b h1)).trans (Below.heap_setCell _ _ _ b h1)).trans (Below.heap_setCell _ _ _ b h1)))
        have hWz : W5.heap.size = w2.heap.size := by rw [hW5]; simp
        have hbT : Bk W5 (X + 1) (txc { T0 with ti := vx } (.slice ua T0.hs.length uc) (.slice va T0.bs.length vc)) 30 := by rw [hW5]; exact ((((((HC.out w2 hb2).1.set 2 (.int .u64 (lb vx 0)) rfl).set 3 (.int .u64 (lb vx 1)) rfl).set 4 (.int .u64 (lb vx 2)) rfl).set 5 (.int .u64 (lb vx 3)) rfl).other (a := ⟨X + 1 + 1, 0, none⟩) (by simp <;> omega) (.bool false)).other (a := ⟨X + 1 + 1 + 1, 0, none⟩) (by simp <;> omega) (.int .i64 3)
        have hbO : Bk W5 (X + 1 + 1) #[.bool false] 4 := by rw [hW5]; exact ((((((HC.out w2 hb2).2.1.other (a := ⟨X + 1, 2, none⟩) (by simp <;> omega) (.int .u64 (lb vx 0))).other (a := ⟨X + 1, 3, none⟩) (by simp <;> omega) (.int .u64 (lb vx 1))).other (a := ⟨X + 1, 4, none⟩) (by simp <;> omega) (.int .u64 (lb vx 2))).other (a := ⟨X + 1, 5, none⟩) (by simp <;> omega) (.int .u64 (lb vx 3))).set 0 (.bool false) rfl).other (a := ⟨X + 1 + 1 + 1, 0, none⟩) (by simp <;> omega) (.int .i64 3)
        have hbK : Bk W5 (X + 1 + 1 + 1) #[.int .i64 ((2 + 1 : Nat) : Int)] 3 := by rw [hW5]; exact ((((((HC.out w2 hb2).2.2.other (a := ⟨X + 1, 2, none⟩) (by simp <;> omega) (.int .u64 (lb vx 0))).other (a := ⟨X + 1, 3, none⟩) (by simp <;> omega) (.int .u64 (lb vx 1))).other (a := ⟨X + 1, 4, none⟩) (by simp <;> omega) (.int .u64 (lb vx 2))).other (a := ⟨X + 1, 5, none⟩) (by simp <;> omega) (.int .u64 (lb vx 3))).other (a := ⟨X + 1 + 1, 0, none⟩) (by simp <;> omega) (.bool false)).set 0 (.int .i64 3) rfl
        have hbl : Below w.heap.size w W5 := by rw [hW5]; exact (((((((HI.out.bel.trans (hb2.mono HI.out.bel.size)).setCell (p := ⟨X + 1, 2, none⟩) (by have := HN.out.2; show _ ≤ X + 1; omega) (.int .u64 (lb vx 0))).setCell (p := ⟨X + 1, 3, none⟩) (by have := HN.out.2; show _ ≤ X + 1; omega) (.int .u64 (lb vx 1))).setCell (p := ⟨X + 1, 4, none⟩) (by have := HN.out.2; show _ ≤ X + 1; omega) (.int .u64 (lb vx 2))).setCell (p := ⟨X + 1, 5, none⟩) (by have := HN.out.2; show _ ≤ X + 1; omega) (.int .u64 (lb vx 3))).setCell (p := ⟨X + 1 + 1, 0, none⟩) (by have := HN.out.2; show _ ≤ X + 1 + 1; omega) (.bool false)).setCell (p := ⟨X + 1 + 1 + 1, 0, none⟩) (by have := HN.out.2; show _ ≤ X + 1 + 1 + 1; omega) (.int .i64 3))
        (try rw [← hW5])
        obtain ⟨z1, z2⟩ := rx_bad (N := N) (b := false) HI.out hk (.inl ⟨by omega, by rw [HGk.out], rfl⟩) hb2 hWb hWz hbT hbO hbK hbl
        exact ⟨z1 _, rfl, z2⟩
    · have HT' : Hid (rdT (pre.map EX.it ++ [x.it]) = { rdT (pre.map EX.it) with ca := tkV x.it.text }) := rdT_3 _ _ (by simpa using hk)
      have HGk : Hid (gdA 3 x.it = nbOk x.it.list x.it.text) := by show _ = _; simp [gdA]
      have HCl : Hid (∀ w, Calls Try.prog 68 #[.agg #[.bool x.it.list, .string x.it.text, .slice x.ad x.l x.c]] w fun e w' => e = .returned (.tuple #[V (tkV x.it.text), .bool (nbOk x.it.list x.it.text)]) ∧ Below w.heap.size w w') := fun w => takeNumber _ _ _ _ _ _ rfl w
      generalize (tkV x.it.text) = vx at *
      generalize hok : (nbOk x.it.list x.it.text) = okx at *
      clear hok
      generalize rdT (pre.map EX.it) = T0 at *
      clear hrx
      cases okx with
      | true =>
        gi_wp2_with (refine ⟨trivial, ?_⟩; gi_at_call 68; refine (CallsIn.inRound lr (callsIn_wide.2 (HCl.out _))).mono ?_; rintro e w2 ⟨rfl, hb2⟩; obtain ⟨c1, c2', c3⟩ := HC.out w2 hb2; have t0 := c1.cell 6; have tf0 := c1.frozen 6; have t1 := c1.cell 7; have tf1 := c1.frozen 7; have t2 := c1.cell 8; have tf2 := c1.frozen 8; have t3 := c1.cell 9; have tf3 := c1.frozen 9; have o0 := c2'.cell 0; have of0 := c2'.frozen 0; have k0 := c3.cell 0; have kf0 := c3.frozen 0; have l1 := c1.lt; have l2' := c2'.lt; have l3 := c3.lt; simp only [List.getElem?_toArray, List.getElem?_cons_zero, List.getElem?_cons_succ] at t0 t1 t2 t3 o0 k0; clear c1 c2' c3)
        obtain ⟨W5, hW5⟩ : ∃ W5, W5 = ((((((w2.setCell ⟨X + 1, 6, none⟩ (.int .u64 (lb vx 0))).setCell ⟨X + 1, 7, none⟩ (.int .u64 (lb vx 1))).setCell ⟨X + 1, 8, none⟩ (.int .u64 (lb vx 2))).setCell ⟨X + 1, 9, none⟩ (.int .u64 (lb vx 3))).setCell ⟨X + 1 + 1, 0, none⟩ (.bool true)).setCell ⟨X + 1 + 1 + 1, 0, none⟩ (.int .i64 4)) := ⟨_, rfl⟩
        have hWb : ∀ b, b ≠ X + 1 → b ≠ X + 1 + 1 → b ≠ X + 1 + 1 + 1 → W5.heap[b]? = w2.heap[b]? := fun b h1 h2 h3 => by rw [hW5]; exact (Below.heap_setCell _ _ _ b h3).trans ((Below.heap_setCell _ _ _ b h2).trans ((((Below.heap_setCell _ _ _ b h1).trans (Below.heap_setCell _ _ _ b h1)).trans (Below.heap_setCell _ _ _ b h1)).trans (Below.heap_setCell _ _ _ b h1)))
        have hWz : W5.heap.size = w2.heap.size := by rw [hW5]; simp
        have hbT : Bk W5 (X + 1) (txc { T0 with ca := vx } (.slice ua T0.hs.length uc) (.slice va T0.bs.length vc)) 30 := by rw [hW5]; exact ((((((HC.out w2 hb2).1.set 6 (.int .u64 (lb vx 0)) rfl).set 7 (.int .u64 (lb vx 1)) rfl).set 8 (.int .u64 (lb vx 2)) rfl).set 9 (.int .u64 (lb vx 3)) rfl).other (a := ⟨X + 1 + 1, 0, none⟩) (by simp <;> omega) (.bool true)).other (a := ⟨X + 1 + 1 + 1, 0, none⟩) (by simp <;> omega) (.int .i64 4)
        have hbO : Bk W5 (X + 1 + 1) #[.bool true] 4 := by rw [hW5]; exact ((((((HC.out w2 hb2).2.1.other (a := ⟨X + 1, 6, none⟩) (by simp <;> omega) (.int .u64 (lb vx 0))).other (a := ⟨X + 1, 7, none⟩) (by simp <;> omega) (.int .u64 (lb vx 1))).other (a := ⟨X + 1, 8, none⟩) (by simp <;> omega) (.int .u64 (lb vx 2))).other (a := ⟨X + 1, 9, none⟩) (by simp <;> omega) (.int .u64 (lb vx 3))).set 0 (.bool true) rfl).other (a := ⟨X + 1 + 1 + 1, 0, none⟩) (by simp <;> omega) (.int .i64 4)
        have hbK : Bk W5 (X + 1 + 1 + 1) #[.int .i64 ((3 + 1 : Nat) : Int)] 3 := by rw [hW5]; exact ((((((HC.out w2 hb2).2.2.other (a := ⟨X + 1, 6, none⟩) (by simp <;> omega) (.int .u64 (lb vx 0))).other (a := ⟨X + 1, 7, none⟩) (by simp <;> omega) (.int .u64 (lb vx 1))).other (a := ⟨X + 1, 8, none⟩) (by simp <;> omega) (.int .u64 (lb vx 2))).other (a := ⟨X + 1, 9, none⟩) (by simp <;> omega) (.int .u64 (lb vx 3))).other (a := ⟨X + 1 + 1, 0, none⟩) (by simp <;> omega) (.bool true)).set 0 (.int .i64 4) rfl
        have hbl : Below w.heap.size w W5 := by rw [hW5]; exact (((((((HI.out.bel.trans (hb2.mono HI.out.bel.size)).setCell (p := ⟨X + 1, 6, none⟩) (by have := HN.out.2; show _ ≤ X + 1; omega) (.int .u64 (lb vx 0))).setCell (p := ⟨X + 1, 7, none⟩) (by have := HN.out.2; show _ ≤ X + 1; omega) (.int .u64 (lb vx 1))).setCell (p := ⟨X + 1, 8, none⟩) (by have := HN.out.2; show _ ≤ X + 1; omega) (.int .u64 (lb vx 2))).setCell (p := ⟨X + 1, 9, none⟩) (by have := HN.out.2; show _ ≤ X + 1; omega) (.int .u64 (lb vx 3))).setCell (p := ⟨X + 1 + 1, 0, none⟩) (by have := HN.out.2; show _ ≤ X + 1 + 1; omega) (.bool true)).setCell (p := ⟨X + 1 + 1 + 1, 0, none⟩) (by have := HN.out.2; show _ ≤ X + 1 + 1 + 1; omega) (.int .i64 4))
        (try rw [← hW5])
        obtain ⟨z1, z2, z3⟩ := ri_next HI.out hk (by omega) hal HT'.out (by rw [HGk.out]) hb2 hWb hWz hbT hbO hbK ((HOU.out.below' hb2).block (fun q hq => hWb q (by have := (HOU.out.ge hq).1; omega) (by have := (HOU.out.ge hq).1; omega) (by have := (HOU.out.ge hq).1; omega))) ((HOV.out.below' hb2).block (fun q hq => hWb q (by have := (HOV.out.ge hq).1; omega) (by have := (HOV.out.ge hq).1; omega) (by have := (HOV.out.ge hq).1; omega))) hbl
        exact ⟨z1 _, z2, z3⟩
      | false =>
        gi_wp2_with (refine ⟨trivial, ?_⟩; gi_at_call 68; refine (CallsIn.inRound lr (callsIn_wide.2 (HCl.out _))).mono ?_; rintro e w2 ⟨rfl, hb2⟩; obtain ⟨c1, c2', c3⟩ := HC.out w2 hb2; have t0 := c1.cell 6; have tf0 := c1.frozen 6; have t1 := c1.cell 7; have tf1 := c1.frozen 7; have t2 := c1.cell 8; have tf2 := c1.frozen 8; have t3 := c1.cell 9; have tf3 := c1.frozen 9; have o0 := c2'.cell 0; have of0 := c2'.frozen 0; have k0 := c3.cell 0; have kf0 := c3.frozen 0; have l1 := c1.lt; have l2' := c2'.lt; have l3 := c3.lt; simp only [List.getElem?_toArray, List.getElem?_cons_zero, List.getElem?_cons_succ] at t0 t1 t2 t3 o0 k0; clear c1 c2' c3)
        obtain ⟨W5, hW5⟩ : ∃ W5, W5 = ((((((w2.setCell ⟨X + 1, 6, none⟩ (.int .u64 (lb vx 0))).setCell ⟨X + 1, 7, none⟩ (.int .u64 (lb vx 1))).setCell ⟨X + 1, 8, none⟩ (.int .u64 (lb vx 2))).setCell ⟨X + 1, 9, none⟩ (.int .u64 (lb vx 3))).setCell ⟨X + 1 + 1, 0, none⟩ (.bool false)).setCell ⟨X + 1 + 1 + 1, 0, none⟩ (.int .i64 4)) := ⟨_, rfl⟩
        have hWb : ∀ b, b ≠ X + 1 → b ≠ X + 1 + 1 → b ≠ X + 1 + 1 + 1 → W5.heap[b]? = w2.heap[b]? := fun b h1 h2 h3 => by rw [hW5]; exact (Below.heap_setCell _ _ _ b h3).trans ((Below.heap_setCell _ _ _ b h2).trans ((((Below.heap_setCell _ _ _ b h1).trans (Below.heap_setCell _ _ _ b h1)).trans (Below.heap_setCell _ _ _ b h1)).trans (Below.heap_setCell _ _ _ b h1)))
        have hWz : W5.heap.size = w2.heap.size := by rw [hW5]; simp
        have hbT : Bk W5 (X + 1) (txc { T0 with ca := vx } (.slice ua T0.hs.length uc) (.slice va T0.bs.length vc)) 30 := by rw [hW5]; exact ((((((HC.out w2 hb2).1.set 6 (.int .u64 (lb vx 0)) rfl).set 7 (.int .u64 (lb vx 1)) rfl).set 8 (.int .u64 (lb vx 2)) rfl).set 9 (.int .u64 (lb vx 3)) rfl).other (a := ⟨X + 1 + 1, 0, none⟩) (by simp <;> omega) (.bool false)).other (a := ⟨X + 1 + 1 + 1, 0, none⟩) (by simp <;> omega) (.int .i64 4)
        have hbO : Bk W5 (X + 1 + 1) #[.bool false] 4 := by rw [hW5]; exact ((((((HC.out w2 hb2).2.1.other (a := ⟨X + 1, 6, none⟩) (by simp <;> omega) (.int .u64 (lb vx 0))).other (a := ⟨X + 1, 7, none⟩) (by simp <;> omega) (.int .u64 (lb vx 1))).other (a := ⟨X + 1, 8, none⟩) (by simp <;> omega) (.int .u64 (lb vx 2))).other (a := ⟨X + 1, 9, none⟩) (by simp <;> omega) (.int .u64 (lb vx 3))).set 0 (.bool false) rfl).other (a := ⟨X + 1 + 1 + 1, 0, none⟩) (by simp <;> omega) (.int .i64 4)
        have hbK : Bk W5 (X + 1 + 1 + 1) #[.int .i64 ((3 + 1 : Nat) : Int)] 3 := by rw [hW5]; exact ((((((HC.out w2 hb2).2.2.other (a := ⟨X + 1, 6, none⟩) (by simp <;> omega) (.int .u64 (lb vx 0))).other (a := ⟨X + 1, 7, none⟩) (by simp <;> omega) (.int .u64 (lb vx 1))).other (a := ⟨X + 1, 8, none⟩) (by simp <;> omega) (.int .u64 (lb vx 2))).other (a := ⟨X + 1, 9, none⟩) (by simp <;> omega) (.int .u64 (lb vx 3))).other (a := ⟨X + 1 + 1, 0, none⟩) (by simp <;> omega) (.bool false)).set 0 (.int .i64 4) rfl
        have hbl : Below w.heap.size w W5 := by rw [hW5]; exact (((((((HI.out.bel.trans (hb2.mono HI.out.bel.size)).setCell (p := ⟨X + 1, 6, none⟩) (by have := HN.out.2; show _ ≤ X + 1; omega) (.int .u64 (lb vx 0))).setCell (p := ⟨X + 1, 7, none⟩) (by have := HN.out.2; show _ ≤ X + 1; omega) (.int .u64 (lb vx 1))).setCell (p := ⟨X + 1, 8, none⟩) (by have := HN.out.2; show _ ≤ X + 1; omega) (.int .u64 (lb vx 2))).setCell (p := ⟨X + 1, 9, none⟩) (by have := HN.out.2; show _ ≤ X + 1; omega) (.int .u64 (lb vx 3))).setCell (p := ⟨X + 1 + 1, 0, none⟩) (by have := HN.out.2; show _ ≤ X + 1 + 1; omega) (.bool false)).setCell (p := ⟨X + 1 + 1 + 1, 0, none⟩) (by have := HN.out.2; show _ ≤ X + 1 + 1 + 1; omega) (.int .i64 4))
        (try rw [← hW5])
        obtain ⟨z1, z2⟩ := rx_bad (N := N) (b := false) HI.out hk (.inl ⟨by omega, by rw [HGk.out], rfl⟩) hb2 hWb hWz hbT hbO hbK hbl
        exact ⟨z1 _, rfl, z2⟩
    · have HT' : Hid (rdT (pre.map EX.it ++ [x.it]) = { rdT (pre.map EX.it) with bc := tkV x.it.text }) := rdT_4 _ _ (by simpa using hk)
      have HGk : Hid (gdA 4 x.it = nbOk x.it.list x.it.text) := by show _ = _; simp [gdA]
      have HCl : Hid (∀ w, Calls Try.prog 68 #[.agg #[.bool x.it.list, .string x.it.text, .slice x.ad x.l x.c]] w fun e w' => e = .returned (.tuple #[V (tkV x.it.text), .bool (nbOk x.it.list x.it.text)]) ∧ Below w.heap.size w w') := fun w => takeNumber _ _ _ _ _ _ rfl w
      generalize (tkV x.it.text) = vx at *
      generalize hok : (nbOk x.it.list x.it.text) = okx at *
      clear hok
      generalize rdT (pre.map EX.it) = T0 at *
      clear hrx
      cases okx with
      | true =>
        gi_wp2_with (refine ⟨trivial, ?_⟩; gi_at_call 68; refine (CallsIn.inRound lr (callsIn_wide.2 (HCl.out _))).mono ?_; rintro e w2 ⟨rfl, hb2⟩; obtain ⟨c1, c2', c3⟩ := HC.out w2 hb2; have t0 := c1.cell 10; have tf0 := c1.frozen 10; have t1 := c1.cell 11; have tf1 := c1.frozen 11; have t2 := c1.cell 12; have tf2 := c1.frozen 12; have t3 := c1.cell 13; have tf3 := c1.frozen 13; have o0 := c2'.cell 0; have of0 := c2'.frozen 0; have k0 := c3.cell 0; have kf0 := c3.frozen 0; have l1 := c1.lt; have l2' := c2'.lt; have l3 := c3.lt; simp only [List.getElem?_toArray, List.getElem?_cons_zero, List.getElem?_cons_succ] at t0 t1 t2 t3 o0 k0; clear c1 c2' c3)
        obtain ⟨W5, hW5⟩ : ∃ W5, W5 = ((((((w2.setCell ⟨X + 1, 10, none⟩ (.int .u64 (lb vx 0))).setCell ⟨X + 1, 11, none⟩ (.int .u64 (lb vx 1))).setCell ⟨X + 1, 12, none⟩ (.int .u64 (lb vx 2))).setCell ⟨X + 1, 13, none⟩ (.int .u64 (lb vx 3))).setCell ⟨X + 1 + 1, 0, none⟩ (.bool true)).setCell ⟨X + 1 + 1 + 1, 0, none⟩ (.int .i64 5)) := ⟨_, rfl⟩
        have hWb : ∀ b, b ≠ X + 1 → b ≠ X + 1 + 1 → b ≠ X + 1 + 1 + 1 → W5.heap[b]? = w2.heap[b]? := fun b h1 h2 h3 => by rw [hW5]; exact (Below.heap_setCell _ _ _ b h3).trans ((Below.heap_setCell _ _ _ b h2).trans ((((Below.heap_setCell _ _ _ b h1).trans (Below.heap_setCell _ _ _ b h1)).trans (Below.heap_setCell _ _ _ b h1)).trans (Below.heap_setCell _ _ _ b h1)))
        have hWz : W5.heap.size = w2.heap.size := by rw [hW5]; simp
        have hbT : Bk W5 (X + 1) (txc { T0 with bc := vx } (.slice ua T0.hs.length uc) (.slice va T0.bs.length vc)) 30 := by rw [hW5]; exact ((((((HC.out w2 hb2).1.set 10 (.int .u64 (lb vx 0)) rfl).set 11 (.int .u64 (lb vx 1)) rfl).set 12 (.int .u64 (lb vx 2)) rfl).set 13 (.int .u64 (lb vx 3)) rfl).other (a := ⟨X + 1 + 1, 0, none⟩) (by simp <;> omega) (.bool true)).other (a := ⟨X + 1 + 1 + 1, 0, none⟩) (by simp <;> omega) (.int .i64 5)
        have hbO : Bk W5 (X + 1 + 1) #[.bool true] 4 := by rw [hW5]; exact ((((((HC.out w2 hb2).2.1.other (a := ⟨X + 1, 10, none⟩) (by simp <;> omega) (.int .u64 (lb vx 0))).other (a := ⟨X + 1, 11, none⟩) (by simp <;> omega) (.int .u64 (lb vx 1))).other (a := ⟨X + 1, 12, none⟩) (by simp <;> omega) (.int .u64 (lb vx 2))).other (a := ⟨X + 1, 13, none⟩) (by simp <;> omega) (.int .u64 (lb vx 3))).set 0 (.bool true) rfl).other (a := ⟨X + 1 + 1 + 1, 0, none⟩) (by simp <;> omega) (.int .i64 5)
        have hbK : Bk W5 (X + 1 + 1 + 1) #[.int .i64 ((4 + 1 : Nat) : Int)] 3 := by rw [hW5]; exact ((((((HC.out w2 hb2).2.2.other (a := ⟨X + 1, 10, none⟩) (by simp <;> omega) (.int .u64 (lb vx 0))).other (a := ⟨X + 1, 11, none⟩) (by simp <;> omega) (.int .u64 (lb vx 1))).other (a := ⟨X + 1, 12, none⟩) (by simp <;> omega) (.int .u64 (lb vx 2))).other (a := ⟨X + 1, 13, none⟩) (by simp <;> omega) (.int .u64 (lb vx 3))).other (a := ⟨X + 1 + 1, 0, none⟩) (by simp <;> omega) (.bool true)).set 0 (.int .i64 5) rfl
        have hbl : Below w.heap.size w W5 := by rw [hW5]; exact (((((((HI.out.bel.trans (hb2.mono HI.out.bel.size)).setCell (p := ⟨X + 1, 10, none⟩) (by have := HN.out.2; show _ ≤ X + 1; omega) (.int .u64 (lb vx 0))).setCell (p := ⟨X + 1, 11, none⟩) (by have := HN.out.2; show _ ≤ X + 1; omega) (.int .u64 (lb vx 1))).setCell (p := ⟨X + 1, 12, none⟩) (by have := HN.out.2; show _ ≤ X + 1; omega) (.int .u64 (lb vx 2))).setCell (p := ⟨X + 1, 13, none⟩) (by have := HN.out.2; show _ ≤ X + 1; omega) (.int .u64 (lb vx 3))).setCell (p := ⟨X + 1 + 1, 0, none⟩) (by have := HN.out.2; show _ ≤ X + 1 + 1; omega) (.bool true)).setCell (p := ⟨X + 1 + 1 + 1, 0, none⟩) (by have := HN.out.2; show _ ≤ X + 1 + 1 + 1; omega) (.int .i64 5))
        (try rw [← hW5])
        obtain ⟨z1, z2, z3⟩ := ri_next HI.out hk (by omega) hal HT'.out (by rw [HGk.out]) hb2 hWb hWz hbT hbO hbK ((HOU.out.below' hb2).block (fun q hq => hWb q (by have := (HOU.out.ge hq).1; omega) (by have := (HOU.out.ge hq).1; omega) (by have := (HOU.out.ge hq).1; omega))) ((HOV.out.below' hb2).block (fun q hq => hWb q (by have := (HOV.out.ge hq).1; omega) (by have := (HOV.out.ge hq).1; omega) (by have := (HOV.out.ge hq).1; omega))) hbl
        exact ⟨z1 _, z2, z3⟩
      | false =>
        gi_wp2_with (refine ⟨trivial, ?_⟩; gi_at_call 68; refine (CallsIn.inRound lr (callsIn_wide.2 (HCl.out _))).mono ?_; rintro e w2 ⟨rfl, hb2⟩; obtain ⟨c1, c2', c3⟩ := HC.out w2 hb2; have t0 := c1.cell 10; have tf0 := c1.frozen 10; have t1 := c1.cell 11; have tf1 := c1.frozen 11; have t2 := c1.cell 12; have tf2 := c1.frozen 12; have t3 := c1.cell 13; have tf3 := c1.frozen 13; have o0 := c2'.cell 0; have of0 := c2'.frozen 0; have k0 := c3.cell 0; have kf0 := c3.frozen 0; have l1 := c1.lt; have l2' := c2'.lt; have l3 := c3.lt; simp only [List.getElem?_toArray, List.getElem?_cons_zero, List.getElem?_cons_succ] at t0 t1 t2 t3 o0 k0; clear c1 c2' c3)
        obtain ⟨W5, hW5⟩ : ∃ W5, W5 = ((((((w2.setCell ⟨X + 1, 10, none⟩ (.int .u64 (lb vx 0))).setCell ⟨X + 1, 11, none⟩ (.int .u64 (lb vx 1))).setCell ⟨X + 1, 12, none⟩ (.int .u64 (lb vx 2))).setCell ⟨X + 1, 13, none⟩ (.int .u64 (lb vx 3))).setCell ⟨X + 1 + 1, 0, none⟩ (.bool false)).setCell ⟨X + 1 + 1 + 1, 0, none⟩ (.int .i64 5)) := ⟨_, rfl⟩
        have hWb : ∀ b, b ≠ X + 1 → b ≠ X + 1 + 1 → b ≠ X + 1 + 1 + 1 → W5.heap[b]? = w2.heap[b]? := fun b h1 h2 h3 => by rw [hW5]; exact (Below.heap_setCell _ _ _ b h3).trans ((Below.heap_setCell _ _ _ b h2).trans ((((Below.heap_setCell _ _ _ b h1).trans (Below.heap_setCell _ _ _ b h1)).trans (Below.heap_setCell _ _ _ b h1)).trans (Below.heap_setCell _ _ _ b h1)))
        have hWz : W5.heap.size = w2.heap.size := by rw [hW5]; simp
        have hbT : Bk W5 (X + 1) (txc { T0 with bc := vx } (.slice ua T0.hs.length uc) (.slice va T0.bs.length vc)) 30 := by rw [hW5]; exact ((((((HC.out w2 hb2).1.set 10 (.int .u64 (lb vx 0)) rfl).set 11 (.int .u64 (lb vx 1)) rfl).set 12 (.int .u64 (lb vx 2)) rfl).set 13 (.int .u64 (lb vx 3)) rfl).other (a := ⟨X + 1 + 1, 0, none⟩) (by simp <;> omega) (.bool false)).other (a := ⟨X + 1 + 1 + 1, 0, none⟩) (by simp <;> omega) (.int .i64 5)
        have hbO : Bk W5 (X + 1 + 1) #[.bool false] 4 := by rw [hW5]; exact ((((((HC.out w2 hb2).2.1.other (a := ⟨X + 1, 10, none⟩) (by simp <;> omega) (.int .u64 (lb vx 0))).other (a := ⟨X + 1, 11, none⟩) (by simp <;> omega) (.int .u64 (lb vx 1))).other (a := ⟨X + 1, 12, none⟩) (by simp <;> omega) (.int .u64 (lb vx 2))).other (a := ⟨X + 1, 13, none⟩) (by simp <;> omega) (.int .u64 (lb vx 3))).set 0 (.bool false) rfl).other (a := ⟨X + 1 + 1 + 1, 0, none⟩) (by simp <;> omega) (.int .i64 5)
        have hbK : Bk W5 (X + 1 + 1 + 1) #[.int .i64 ((4 + 1 : Nat) : Int)] 3 := by rw [hW5]; exact ((((((HC.out w2 hb2).2.2.other (a := ⟨X + 1, 10, none⟩) (by simp <;> omega) (.int .u64 (lb vx 0))).other (a := ⟨X + 1, 11, none⟩) (by simp <;> omega) (.int .u64 (lb vx 1))).other (a := ⟨X + 1, 12, none⟩) (by simp <;> omega) (.int .u64 (lb vx 2))).other (a := ⟨X + 1, 13, none⟩) (by simp <;> omega) (.int .u64 (lb vx 3))).other (a := ⟨X + 1 + 1, 0, none⟩) (by simp <;> omega) (.bool false)).set 0 (.int .i64 5) rfl
        have hbl : Below w.heap.size w W5 := by rw [hW5]; exact (((((((HI.out.bel.trans (hb2.mono HI.out.bel.size)).setCell (p := ⟨X + 1, 10, none⟩) (by have := HN.out.2; show _ ≤ X + 1; omega) (.int .u64 (lb vx 0))).setCell (p := ⟨X + 1, 11, none⟩) (by have := HN.out.2; show _ ≤ X + 1; omega) (.int .u64 (lb vx 1))).setCell (p := ⟨X + 1, 12, none⟩) (by have := HN.out.2; show _ ≤ X + 1; omega) (.int .u64 (lb vx 2))).setCell (p := ⟨X + 1, 13, none⟩) (by have := HN.out.2; show _ ≤ X + 1; omega) (.int .u64 (lb vx 3))).setCell (p := ⟨X + 1 + 1, 0, none⟩) (by have := HN.out.2; show _ ≤ X + 1 + 1; omega) (.bool false)).setCell (p := ⟨X + 1 + 1 + 1, 0, none⟩) (by have := HN.out.2; show _ ≤ X + 1 + 1 + 1; omega) (.int .i64 5))
        (try rw [← hW5])
        obtain ⟨z1, z2⟩ := rx_bad (N := N) (b := false) HI.out hk (.inl ⟨by omega, by rw [HGk.out], rfl⟩) hb2 hWb hWz hbT hbO hbK hbl
        exact ⟨z1 _, rfl, z2⟩
    · have HT' : Hid (rdT (pre.map EX.it ++ [x.it]) = { rdT (pre.map EX.it) with va := tkV x.it.text }) := rdT_5 _ _ (by simpa using hk)
      have HGk : Hid (gdA 5 x.it = nbOk x.it.list x.it.text) := by show _ = _; simp [gdA]
      have HCl : Hid (∀ w, Calls Try.prog 68 #[.agg #[.bool x.it.list, .string x.it.text, .slice x.ad x.l x.c]] w fun e w' => e = .returned (.tuple #[V (tkV x.it.text), .bool (nbOk x.it.list x.it.text)]) ∧ Below w.heap.size w w') := fun w => takeNumber _ _ _ _ _ _ rfl w
      generalize (tkV x.it.text) = vx at *
      generalize hok : (nbOk x.it.list x.it.text) = okx at *
      clear hok
      generalize rdT (pre.map EX.it) = T0 at *
      clear hrx
      cases okx with
      | true =>
        gi_wp2_with (refine ⟨trivial, ?_⟩; gi_at_call 68; refine (CallsIn.inRound lr (callsIn_wide.2 (HCl.out _))).mono ?_; rintro e w2 ⟨rfl, hb2⟩; obtain ⟨c1, c2', c3⟩ := HC.out w2 hb2; have t0 := c1.cell 14; have tf0 := c1.frozen 14; have t1 := c1.cell 15; have tf1 := c1.frozen 15; have t2 := c1.cell 16; have tf2 := c1.frozen 16; have t3 := c1.cell 17; have tf3 := c1.frozen 17; have o0 := c2'.cell 0; have of0 := c2'.frozen 0; have k0 := c3.cell 0; have kf0 := c3.frozen 0; have l1 := c1.lt; have l2' := c2'.lt; have l3 := c3.lt; simp only [List.getElem?_toArray, List.getElem?_cons_zero, List.getElem?_cons_succ] at t0 t1 t2 t3 o0 k0; clear c1 c2' c3)
        obtain ⟨W5, hW5⟩ : ∃ W5, W5 = ((((((w2.setCell ⟨X + 1, 14, none⟩ (.int .u64 (lb vx 0))).setCell ⟨X + 1, 15, none⟩ (.int .u64 (lb vx 1))).setCell ⟨X + 1, 16, none⟩ (.int .u64 (lb vx 2))).setCell ⟨X + 1, 17, none⟩ (.int .u64 (lb vx 3))).setCell ⟨X + 1 + 1, 0, none⟩ (.bool true)).setCell ⟨X + 1 + 1 + 1, 0, none⟩ (.int .i64 6)) := ⟨_, rfl⟩
        have hWb : ∀ b, b ≠ X + 1 → b ≠ X + 1 + 1 → b ≠ X + 1 + 1 + 1 → W5.heap[b]? = w2.heap[b]? := fun b h1 h2 h3 => by rw [hW5]; exact (Below.heap_setCell _ _ _ b h3).trans ((Below.heap_setCell _ _ _ b h2).trans ((((Below.heap_setCell _ _ _ b h1).trans (Below.heap_setCell _ _ _ b h1)).trans (Below.heap_setCell _ _ _ b h1)).trans (Below.heap_setCell _ _ _ b h1)))
        have hWz : W5.heap.size = w2.heap.size := by rw [hW5]; simp
        have hbT : Bk W5 (X + 1) (txc { T0 with va := vx } (.slice ua T0.hs.length uc) (.slice va T0.bs.length vc)) 30 := by rw [hW5]; exact ((((((HC.out w2 hb2).1.set 14 (.int .u64 (lb vx 0)) rfl).set 15 (.int .u64 (lb vx 1)) rfl).set 16 (.int .u64 (lb vx 2)) rfl).set 17 (.int .u64 (lb vx 3)) rfl).other (a := ⟨X + 1 + 1, 0, none⟩) (by simp <;> omega) (.bool true)).other (a := ⟨X + 1 + 1 + 1, 0, none⟩) (by simp <;> omega) (.int .i64 6)
        have hbO : Bk W5 (X + 1 + 1) #[.bool true] 4 := by rw [hW5]; exact ((((((HC.out w2 hb2).2.1.other (a := ⟨X + 1, 14, none⟩) (by simp <;> omega) (.int .u64 (lb vx 0))).other (a := ⟨X + 1, 15, none⟩) (by simp <;> omega) (.int .u64 (lb vx 1))).other (a := ⟨X + 1, 16, none⟩) (by simp <;> omega) (.int .u64 (lb vx 2))).other (a := ⟨X + 1, 17, none⟩) (by simp <;> omega) (.int .u64 (lb vx 3))).set 0 (.bool true) rfl).other (a := ⟨X + 1 + 1 + 1, 0, none⟩) (by simp <;> omega) (.int .i64 6)
        have hbK : Bk W5 (X + 1 + 1 + 1) #[.int .i64 ((5 + 1 : Nat) : Int)] 3 := by rw [hW5]; exact ((((((HC.out w2 hb2).2.2.other (a := ⟨X + 1, 14, none⟩) (by simp <;> omega) (.int .u64 (lb vx 0))).other (a := ⟨X + 1, 15, none⟩) (by simp <;> omega) (.int .u64 (lb vx 1))).other (a := ⟨X + 1, 16, none⟩) (by simp <;> omega) (.int .u64 (lb vx 2))).other (a := ⟨X + 1, 17, none⟩) (by simp <;> omega) (.int .u64 (lb vx 3))).other (a := ⟨X + 1 + 1, 0, none⟩) (by simp <;> omega) (.bool true)).set 0 (.int .i64 6) rfl
        have hbl : Below w.heap.size w W5 := by rw [hW5]; exact (((((((HI.out.bel.trans (hb2.mono HI.out.bel.size)).setCell (p := ⟨X + 1, 14, none⟩) (by have := HN.out.2; show _ ≤ X + 1; omega) (.int .u64 (lb vx 0))).setCell (p := ⟨X + 1, 15, none⟩) (by have := HN.out.2; show _ ≤ X + 1; omega) (.int .u64 (lb vx 1))).setCell (p := ⟨X + 1, 16, none⟩) (by have := HN.out.2; show _ ≤ X + 1; omega) (.int .u64 (lb vx 2))).setCell (p := ⟨X + 1, 17, none⟩) (by have := HN.out.2; show _ ≤ X + 1; omega) (.int .u64 (lb vx 3))).setCell (p := ⟨X + 1 + 1, 0, none⟩) (by have := HN.out.2; show _ ≤ X + 1 + 1; omega) (.bool true)).setCell (p := ⟨X + 1 + 1 + 1, 0, none⟩) (by have := HN.out.2; show _ ≤ X + 1 + 1 + 1; omega) (.int .i64 6))
        (try rw [← hW5])
        obtain ⟨z1, z2, z3⟩ := ri_next HI.out hk (by omega) hal HT'.out (by rw [HGk.out]) hb2 hWb hWz hbT hbO hbK ((HOU.out.below' hb2).block (fun q hq => hWb q (by have := (HOU.out.ge hq).1; omega) (by have := (HOU.out.ge hq).1; omega) (by have := (HOU.out.ge hq).1; omega))) ((HOV.out.below' hb2).block (fun q hq => hWb q (by have := (HOV.out.ge hq).1; omega) (by have := (HOV.out.ge hq).1; omega) (by have := (HOV.out.ge hq).1; omega))) hbl
        exact ⟨z1 _, z2, z3⟩
      | false =>
        gi_wp2_with (refine ⟨trivial, ?_⟩; gi_at_call 68; refine (CallsIn.inRound lr (callsIn_wide.2 (HCl.out _))).mono ?_; rintro e w2 ⟨rfl, hb2⟩; obtain ⟨c1, c2', c3⟩ := HC.out w2 hb2; have t0 := c1.cell 14; have tf0 := c1.frozen 14; have t1 := c1.cell 15; have tf1 := c1.frozen 15; have t2 := c1.cell 16; have tf2 := c1.frozen 16; have t3 := c1.cell 17; have tf3 := c1.frozen 17; have o0 := c2'.cell 0; have of0 := c2'.frozen 0; have k0 := c3.cell 0; have kf0 := c3.frozen 0; have l1 := c1.lt; have l2' := c2'.lt; have l3 := c3.lt; simp only [List.getElem?_toArray, List.getElem?_cons_zero, List.getElem?_cons_succ] at t0 t1 t2 t3 o0 k0; clear c1 c2' c3)
        obtain ⟨W5, hW5⟩ : ∃ W5, W5 = ((((((w2.setCell ⟨X + 1, 14, none⟩ (.int .u64 (lb vx 0))).setCell ⟨X + 1, 15, none⟩ (.int .u64 (lb vx 1))).setCell ⟨X + 1, 16, none⟩ (.int .u64 (lb vx 2))).setCell ⟨X + 1, 17, none⟩ (.int .u64 (lb vx 3))).setCell ⟨X + 1 + 1, 0, none⟩ (.bool false)).setCell ⟨X + 1 + 1 + 1, 0, none⟩ (.int .i64 6)) := ⟨_, rfl⟩
        have hWb : ∀ b, b ≠ X + 1 → b ≠ X + 1 + 1 → b ≠ X + 1 + 1 + 1 → W5.heap[b]? = w2.heap[b]? := fun b h1 h2 h3 => by rw [hW5]; exact (Below.heap_setCell _ _ _ b h3).trans ((Below.heap_setCell _ _ _ b h2).trans ((((Below.heap_setCell _ _ _ b h1).trans (Below.heap_setCell _ _ _ b h1)).trans (Below.heap_setCell _ _ _ b h1)).trans (Below.heap_setCell _ _ _ b h1)))
        have hWz : W5.heap.size = w2.heap.size := by rw [hW5]; simp
        have hbT : Bk W5 (X + 1) (txc { T0 with va := vx } (.slice ua T0.hs.length uc) (.slice va T0.bs.length vc)) 30 := by rw [hW5]; exact ((((((HC.out w2 hb2).1.set 14 (.int .u64 (lb vx 0)) rfl).set 15 (.int .u64 (lb vx 1)) rfl).set 16 (.int .u64 (lb vx 2)) rfl).set 17 (.int .u64 (lb vx 3)) rfl).other (a := ⟨X + 1 + 1, 0, none⟩) (by simp <;> omega) (.bool false)).other (a := ⟨X + 1 + 1 + 1, 0, none⟩) (by simp <;> omega) (.int .i64 6)
        have hbO : Bk W5 (X + 1 + 1) #[.bool false] 4 := by rw [hW5]; exact ((((((HC.out w2 hb2).2.1.other (a := ⟨X + 1, 14, none⟩) (by simp <;> omega) (.int .u64 (lb vx 0))).other (a := ⟨X + 1, 15, none⟩) (by simp <;> omega) (.int .u64 (lb vx 1))).other (a := ⟨X + 1, 16, none⟩) (by simp <;> omega) (.int .u64 (lb vx 2))).other (a := ⟨X + 1, 17, none⟩) (by simp <;> omega) (.int .u64 (lb vx 3))).set 0 (.bool false) rfl).other (a := ⟨X + 1 + 1 + 1, 0, none⟩) (by simp <;> omega) (.int .i64 6)
        have hbK : Bk W5 (X + 1 + 1 + 1) #[.int .i64 ((5 + 1 : Nat) : Int)] 3 := by rw [hW5]; exact ((((((HC.out w2 hb2).2.2.other (a := ⟨X + 1, 14, none⟩) (by simp <;> omega) (.int .u64 (lb vx 0))).other (a := ⟨X + 1, 15, none⟩) (by simp <;> omega) (.int .u64 (lb vx 1))).other (a := ⟨X + 1, 16, none⟩) (by simp <;> omega) (.int .u64 (lb vx 2))).other (a := ⟨X + 1, 17, none⟩) (by simp <;> omega) (.int .u64 (lb vx 3))).other (a := ⟨X + 1 + 1, 0, none⟩) (by simp <;> omega) (.bool false)).set 0 (.int .i64 6) rfl
        have hbl : Below w.heap.size w W5 := by rw [hW5]; exact (((((((HI.out.bel.trans (hb2.mono HI.out.bel.size)).setCell (p := ⟨X + 1, 14, none⟩) (by have := HN.out.2; show _ ≤ X + 1; omega) (.int .u64 (lb vx 0))).setCell (p := ⟨X + 1, 15, none⟩) (by have := HN.out.2; show _ ≤ X + 1; omega) (.int .u64 (lb vx 1))).setCell (p := ⟨X + 1, 16, none⟩) (by have := HN.out.2; show _ ≤ X + 1; omega) (.int .u64 (lb vx 2))).setCell (p := ⟨X + 1, 17, none⟩) (by have := HN.out.2; show _ ≤ X + 1; omega) (.int .u64 (lb vx 3))).setCell (p := ⟨X + 1 + 1, 0, none⟩) (by have := HN.out.2; show _ ≤ X + 1 + 1; omega) (.bool false)).setCell (p := ⟨X + 1 + 1 + 1, 0, none⟩) (by have := HN.out.2; show _ ≤ X + 1 + 1 + 1; omega) (.int .i64 6))
        (try rw [← hW5])
        obtain ⟨z1, z2⟩ := rx_bad (N := N) (b := false) HI.out hk (.inl ⟨by omega, by rw [HGk.out], rfl⟩) hb2 hWb hWz hbT hbO hbK hbl
        exact ⟨z1 _, rfl, z2⟩
    · have HT' : Hid (rdT (pre.map EX.it ++ [x.it]) = { rdT (pre.map EX.it) with ga := whV x.it.list x.it.text }) := rdT_6 _ _ (by simpa using hk)
      have HGk : Hid (gdA 6 x.it = whOk x.it.list x.it.text) := by show _ = _; simp [gdA]
      have HCl : Hid (∀ w, Calls Try.prog 67 #[.agg #[.bool x.it.list, .string x.it.text, .slice x.ad x.l x.c]] w fun e w' => e = .returned (.tuple #[.int .i64 (whV x.it.list x.it.text), .bool (whOk x.it.list x.it.text)]) ∧ Below w.heap.size w w') := fun w => takeWhole _ _ _ _ _ w
      generalize (whV x.it.list x.it.text) = vx at *
      generalize hok : (whOk x.it.list x.it.text) = okx at *
      clear hok
      generalize rdT (pre.map EX.it) = T0 at *
      clear hrx
      cases okx with
      | true =>
        gi_wp2_with (refine ⟨trivial, ?_⟩; gi_at_call 67; refine (CallsIn.inRound lr (callsIn_wide.2 (HCl.out _))).mono ?_; rintro e w2 ⟨rfl, hb2⟩; obtain ⟨c1, c2', c3⟩ := HC.out w2 hb2; have t0 := c1.cell 18; have tf0 := c1.frozen 18; have o0 := c2'.cell 0; have of0 := c2'.frozen 0; have k0 := c3.cell 0; have kf0 := c3.frozen 0; have l1 := c1.lt; have l2' := c2'.lt; have l3 := c3.lt; simp only [List.getElem?_toArray, List.getElem?_cons_zero, List.getElem?_cons_succ] at t0 o0 k0; clear c1 c2' c3)
        obtain ⟨W5, hW5⟩ : ∃ W5, W5 = (((w2.setCell ⟨X + 1, 18, none⟩ (.int .i64 vx)).setCell ⟨X + 1 + 1, 0, none⟩ (.bool true)).setCell ⟨X + 1 + 1 + 1, 0, none⟩ (.int .i64 7)) := ⟨_, rfl⟩
        have hWb : ∀ b, b ≠ X + 1 → b ≠ X + 1 + 1 → b ≠ X + 1 + 1 + 1 → W5.heap[b]? = w2.heap[b]? := fun b h1 h2 h3 => by rw [hW5]; exact (Below.heap_setCell _ _ _ b h3).trans ((Below.heap_setCell _ _ _ b h2).trans (Below.heap_setCell _ _ _ b h1))
        have hWz : W5.heap.size = w2.heap.size := by rw [hW5]; simp
        have hbT : Bk W5 (X + 1) (txc { T0 with ga := vx } (.slice ua T0.hs.length uc) (.slice va T0.bs.length vc)) 30 := by rw [hW5]; exact (((HC.out w2 hb2).1.set 18 (.int .i64 vx) rfl).other (a := ⟨X + 1 + 1, 0, none⟩) (by simp <;> omega) (.bool true)).other (a := ⟨X + 1 + 1 + 1, 0, none⟩) (by simp <;> omega) (.int .i64 7)
        have hbO : Bk W5 (X + 1 + 1) #[.bool true] 4 := by rw [hW5]; exact (((HC.out w2 hb2).2.1.other (a := ⟨X + 1, 18, none⟩) (by simp <;> omega) (.int .i64 vx)).set 0 (.bool true) rfl).other (a := ⟨X + 1 + 1 + 1, 0, none⟩) (by simp <;> omega) (.int .i64 7)
        have hbK : Bk W5 (X + 1 + 1 + 1) #[.int .i64 ((6 + 1 : Nat) : Int)] 3 := by rw [hW5]; exact (((HC.out w2 hb2).2.2.other (a := ⟨X + 1, 18, none⟩) (by simp <;> omega) (.int .i64 vx)).other (a := ⟨X + 1 + 1, 0, none⟩) (by simp <;> omega) (.bool true)).set 0 (.int .i64 7) rfl
        have hbl : Below w.heap.size w W5 := by rw [hW5]; exact ((((HI.out.bel.trans (hb2.mono HI.out.bel.size)).setCell (p := ⟨X + 1, 18, none⟩) (by have := HN.out.2; show _ ≤ X + 1; omega) (.int .i64 vx)).setCell (p := ⟨X + 1 + 1, 0, none⟩) (by have := HN.out.2; show _ ≤ X + 1 + 1; omega) (.bool true)).setCell (p := ⟨X + 1 + 1 + 1, 0, none⟩) (by have := HN.out.2; show _ ≤ X + 1 + 1 + 1; omega) (.int .i64 7))
        (try rw [← hW5])
        obtain ⟨z1, z2, z3⟩ := ri_next HI.out hk (by omega) hal HT'.out (by rw [HGk.out]) hb2 hWb hWz hbT hbO hbK ((HOU.out.below' hb2).block (fun q hq => hWb q (by have := (HOU.out.ge hq).1; omega) (by have := (HOU.out.ge hq).1; omega) (by have := (HOU.out.ge hq).1; omega))) ((HOV.out.below' hb2).block (fun q hq => hWb q (by have := (HOV.out.ge hq).1; omega) (by have := (HOV.out.ge hq).1; omega) (by have := (HOV.out.ge hq).1; omega))) hbl
        exact ⟨z1 _, z2, z3⟩
      | false =>
        gi_wp2_with (refine ⟨trivial, ?_⟩; gi_at_call 67; refine (CallsIn.inRound lr (callsIn_wide.2 (HCl.out _))).mono ?_; rintro e w2 ⟨rfl, hb2⟩; obtain ⟨c1, c2', c3⟩ := HC.out w2 hb2; have t0 := c1.cell 18; have tf0 := c1.frozen 18; have o0 := c2'.cell 0; have of0 := c2'.frozen 0; have k0 := c3.cell 0; have kf0 := c3.frozen 0; have l1 := c1.lt; have l2' := c2'.lt; have l3 := c3.lt; simp only [List.getElem?_toArray, List.getElem?_cons_zero, List.getElem?_cons_succ] at t0 o0 k0; clear c1 c2' c3)
        obtain ⟨W5, hW5⟩ : ∃ W5, W5 = (((w2.setCell ⟨X + 1, 18, none⟩ (.int .i64 vx)).setCell ⟨X + 1 + 1, 0, none⟩ (.bool false)).setCell ⟨X + 1 + 1 + 1, 0, none⟩ (.int .i64 7)) := ⟨_, rfl⟩
        have hWb : ∀ b, b ≠ X + 1 → b ≠ X + 1 + 1 → b ≠ X + 1 + 1 + 1 → W5.heap[b]? = w2.heap[b]? := fun b h1 h2 h3 => by rw [hW5]; exact (Below.heap_setCell _ _ _ b h3).trans ((Below.heap_setCell _ _ _ b h2).trans (Below.heap_setCell _ _ _ b h1))
        have hWz : W5.heap.size = w2.heap.size := by rw [hW5]; simp
        have hbT : Bk W5 (X + 1) (txc { T0 with ga := vx } (.slice ua T0.hs.length uc) (.slice va T0.bs.length vc)) 30 := by rw [hW5]; exact (((HC.out w2 hb2).1.set 18 (.int .i64 vx) rfl).other (a := ⟨X + 1 + 1, 0, none⟩) (by simp <;> omega) (.bool false)).other (a := ⟨X + 1 + 1 + 1, 0, none⟩) (by simp <;> omega) (.int .i64 7)
        have hbO : Bk W5 (X + 1 + 1) #[.bool false] 4 := by rw [hW5]; exact (((HC.out w2 hb2).2.1.other (a := ⟨X + 1, 18, none⟩) (by simp <;> omega) (.int .i64 vx)).set 0 (.bool false) rfl).other (a := ⟨X + 1 + 1 + 1, 0, none⟩) (by simp <;> omega) (.int .i64 7)
        have hbK : Bk W5 (X + 1 + 1 + 1) #[.int .i64 ((6 + 1 : Nat) : Int)] 3 := by rw [hW5]; exact (((HC.out w2 hb2).2.2.other (a := ⟨X + 1, 18, none⟩) (by simp <;> omega) (.int .i64 vx)).other (a := ⟨X + 1 + 1, 0, none⟩) (by simp <;> omega) (.bool false)).set 0 (.int .i64 7) rfl
        have hbl : Below w.heap.size w W5 := by rw [hW5]; exact ((((HI.out.bel.trans (hb2.mono HI.out.bel.size)).setCell (p := ⟨X + 1, 18, none⟩) (by have := HN.out.2; show _ ≤ X + 1; omega) (.int .i64 vx)).setCell (p := ⟨X + 1 + 1, 0, none⟩) (by have := HN.out.2; show _ ≤ X + 1 + 1; omega) (.bool false)).setCell (p := ⟨X + 1 + 1 + 1, 0, none⟩) (by have := HN.out.2; show _ ≤ X + 1 + 1 + 1; omega) (.int .i64 7))
        (try rw [← hW5])
        obtain ⟨z1, z2⟩ := rx_bad (N := N) (b := false) HI.out hk (.inl ⟨by omega, by rw [HGk.out], rfl⟩) hb2 hWb hWz hbT hbO hbK hbl
        exact ⟨z1 _, rfl, z2⟩
    · have HT' : Hid (rdT (pre.map EX.it ++ [x.it]) = { rdT (pre.map EX.it) with hs := x.it.items.map (fun y => mtV y.text) }) := rdT_7 _ _ (by simpa using hk)
      have HGk : Hid (gdA 7 x.it = lsU x.it) := by show _ = _; simp [gdA]
      have HCl : Hid (∀ w, Below W.heap.size W w → Calls Try.prog 69 #[.agg #[.bool x.it.list, .string x.it.text, .slice x.ad x.l x.c], .func (.func 70) #[] #[]] w fun e w' => (∃ ad' l' c', e = .returned (.tuple #[.slice ad' l' c', .bool (lsU x.it)]) ∧ ((lsU x.it) = true → Or 24 cU w' w.heap.size (.slice ad' l' c') (x.it.items.map (fun y => mtV y.text)))) ∧ Below w.heap.size w w') := fun w hw => takeListU n x.it _ _ _ w (hrx.2.rd.below hw) hxw
      generalize (x.it.items.map (fun y => mtV y.text)) = vx at *
      generalize (lsU x.it) = okx at *
      generalize rdT (pre.map EX.it) = T0 at *
      clear hrx
      cases okx with
      | true =>
        gi_wp2_with (refine ⟨trivial, ?_⟩; gi_at_call 69; refine (CallsIn.inRound lr (callsIn_wide.2 (HCl.out _ (Below.refl _ _)))).mono ?_; rintro e w2 ⟨⟨a2, l2, c2, rfl, hOr⟩, hb2⟩; obtain ⟨c1, c2', c3⟩ := HC.out w2 hb2; have t0 := c1.cell 19; have tf0 := c1.frozen 19; have o0 := c2'.cell 0; have of0 := c2'.frozen 0; have k0 := c3.cell 0; have kf0 := c3.frozen 0; have l1 := c1.lt; have l2' := c2'.lt; have l3 := c3.lt; simp only [List.getElem?_toArray, List.getElem?_cons_zero, List.getElem?_cons_succ] at t0 o0 k0; clear c1 c2' c3)
        obtain ⟨W5, hW5⟩ : ∃ W5, W5 = (((w2.setCell ⟨X + 1, 19, none⟩ (.slice a2 l2 c2)).setCell ⟨X + 1 + 1, 0, none⟩ (.bool true)).setCell ⟨X + 1 + 1 + 1, 0, none⟩ (.int .i64 8)) := ⟨_, rfl⟩
        have hWb : ∀ b, b ≠ X + 1 → b ≠ X + 1 + 1 → b ≠ X + 1 + 1 + 1 → W5.heap[b]? = w2.heap[b]? := fun b h1 h2 h3 => by rw [hW5]; exact (Below.heap_setCell _ _ _ b h3).trans ((Below.heap_setCell _ _ _ b h2).trans (Below.heap_setCell _ _ _ b h1))
        have hWz : W5.heap.size = w2.heap.size := by rw [hW5]; simp
        have hbT : Bk W5 (X + 1) (txc { T0 with hs := vx } (.slice a2 l2 c2) (.slice va T0.bs.length vc)) 30 := by rw [hW5]; exact (((HC.out w2 hb2).1.set 19 (.slice a2 l2 c2) rfl).other (a := ⟨X + 1 + 1, 0, none⟩) (by simp <;> omega) (.bool true)).other (a := ⟨X + 1 + 1 + 1, 0, none⟩) (by simp <;> omega) (.int .i64 8)
        have hbO : Bk W5 (X + 1 + 1) #[.bool true] 4 := by rw [hW5]; exact (((HC.out w2 hb2).2.1.other (a := ⟨X + 1, 19, none⟩) (by simp <;> omega) (.slice a2 l2 c2)).set 0 (.bool true) rfl).other (a := ⟨X + 1 + 1 + 1, 0, none⟩) (by simp <;> omega) (.int .i64 8)
        have hbK : Bk W5 (X + 1 + 1 + 1) #[.int .i64 ((7 + 1 : Nat) : Int)] 3 := by rw [hW5]; exact (((HC.out w2 hb2).2.2.other (a := ⟨X + 1, 19, none⟩) (by simp <;> omega) (.slice a2 l2 c2)).other (a := ⟨X + 1 + 1, 0, none⟩) (by simp <;> omega) (.bool true)).set 0 (.int .i64 8) rfl
        have hbl : Below w.heap.size w W5 := by rw [hW5]; exact ((((HI.out.bel.trans (hb2.mono HI.out.bel.size)).setCell (p := ⟨X + 1, 19, none⟩) (by have := HN.out.2; show _ ≤ X + 1; omega) (.slice a2 l2 c2)).setCell (p := ⟨X + 1 + 1, 0, none⟩) (by have := HN.out.2; show _ ≤ X + 1 + 1; omega) (.bool true)).setCell (p := ⟨X + 1 + 1 + 1, 0, none⟩) (by have := HN.out.2; show _ ≤ X + 1 + 1 + 1; omega) (.int .i64 8))
        (try rw [← hW5])
        obtain ⟨z1, z2, z3⟩ := ri_next HI.out hk (by omega) hal HT'.out (by rw [HGk.out]) hb2 hWb hWz hbT hbO hbK (((hOr trivial).based (show N ≤ W.heap.size from HI.out.sz)).block (fun q hq => hWb q (by have := ((hOr trivial).ge hq).1; have := HI.out.sz; omega) (by have := ((hOr trivial).ge hq).1; have := HI.out.sz; omega) (by have := ((hOr trivial).ge hq).1; have := HI.out.sz; omega))) ((HOV.out.below' hb2).block (fun q hq => hWb q (by have := (HOV.out.ge hq).1; omega) (by have := (HOV.out.ge hq).1; omega) (by have := (HOV.out.ge hq).1; omega))) hbl
        exact ⟨z1 _, z2, z3⟩
      | false =>
        gi_wp2_with (refine ⟨trivial, ?_⟩; gi_at_call 69; refine (CallsIn.inRound lr (callsIn_wide.2 (HCl.out _ (Below.refl _ _)))).mono ?_; rintro e w2 ⟨⟨a2, l2, c2, rfl, hOr⟩, hb2⟩; obtain ⟨c1, c2', c3⟩ := HC.out w2 hb2; have t0 := c1.cell 19; have tf0 := c1.frozen 19; have o0 := c2'.cell 0; have of0 := c2'.frozen 0; have k0 := c3.cell 0; have kf0 := c3.frozen 0; have l1 := c1.lt; have l2' := c2'.lt; have l3 := c3.lt; simp only [List.getElem?_toArray, List.getElem?_cons_zero, List.getElem?_cons_succ] at t0 o0 k0; clear c1 c2' c3)
        obtain ⟨W5, hW5⟩ : ∃ W5, W5 = (((w2.setCell ⟨X + 1, 19, none⟩ (.slice a2 l2 c2)).setCell ⟨X + 1 + 1, 0, none⟩ (.bool false)).setCell ⟨X + 1 + 1 + 1, 0, none⟩ (.int .i64 8)) := ⟨_, rfl⟩
        have hWb : ∀ b, b ≠ X + 1 → b ≠ X + 1 + 1 → b ≠ X + 1 + 1 + 1 → W5.heap[b]? = w2.heap[b]? := fun b h1 h2 h3 => by rw [hW5]; exact (Below.heap_setCell _ _ _ b h3).trans ((Below.heap_setCell _ _ _ b h2).trans (Below.heap_setCell _ _ _ b h1))
        have hWz : W5.heap.size = w2.heap.size := by rw [hW5]; simp
        have hbT : Bk W5 (X + 1) (txc { T0 with hs := vx } (.slice a2 l2 c2) (.slice va T0.bs.length vc)) 30 := by rw [hW5]; exact (((HC.out w2 hb2).1.set 19 (.slice a2 l2 c2) rfl).other (a := ⟨X + 1 + 1, 0, none⟩) (by simp <;> omega) (.bool false)).other (a := ⟨X + 1 + 1 + 1, 0, none⟩) (by simp <;> omega) (.int .i64 8)
        have hbO : Bk W5 (X + 1 + 1) #[.bool false] 4 := by rw [hW5]; exact (((HC.out w2 hb2).2.1.other (a := ⟨X + 1, 19, none⟩) (by simp <;> omega) (.slice a2 l2 c2)).set 0 (.bool false) rfl).other (a := ⟨X + 1 + 1 + 1, 0, none⟩) (by simp <;> omega) (.int .i64 8)
        have hbK : Bk W5 (X + 1 + 1 + 1) #[.int .i64 ((7 + 1 : Nat) : Int)] 3 := by rw [hW5]; exact (((HC.out w2 hb2).2.2.other (a := ⟨X + 1, 19, none⟩) (by simp <;> omega) (.slice a2 l2 c2)).other (a := ⟨X + 1 + 1, 0, none⟩) (by simp <;> omega) (.bool false)).set 0 (.int .i64 8) rfl
        have hbl : Below w.heap.size w W5 := by rw [hW5]; exact ((((HI.out.bel.trans (hb2.mono HI.out.bel.size)).setCell (p := ⟨X + 1, 19, none⟩) (by have := HN.out.2; show _ ≤ X + 1; omega) (.slice a2 l2 c2)).setCell (p := ⟨X + 1 + 1, 0, none⟩) (by have := HN.out.2; show _ ≤ X + 1 + 1; omega) (.bool false)).setCell (p := ⟨X + 1 + 1 + 1, 0, none⟩) (by have := HN.out.2; show _ ≤ X + 1 + 1 + 1; omega) (.int .i64 8))
        (try rw [← hW5])
        obtain ⟨z1, z2⟩ := rx_bad (N := N) (b := false) HI.out hk (.inl ⟨by omega, by rw [HGk.out], rfl⟩) hb2 hWb hWz hbT hbO hbK hbl
        exact ⟨z1 _, rfl, z2⟩
    · have HT' : Hid (rdT (pre.map EX.it ++ [x.it]) = { rdT (pre.map EX.it) with bs := x.it.items.map (fun y => y.text) }) := rdT_8 _ _ (by simpa using hk)
      have HGk : Hid (gdA 8 x.it = lsS x.it) := by show _ = _; simp [gdA]
      have HCl : Hid (∀ w, Below W.heap.size W w → Calls Try.prog 71 #[.agg #[.bool x.it.list, .string x.it.text, .slice x.ad x.l x.c], .func (.func 72) #[] #[]] w fun e w' => (∃ ad' l' c', e = .returned (.tuple #[.slice ad' l' c', .bool (lsS x.it)]) ∧ ((lsS x.it) = true → Or 9 cS w' w.heap.size (.slice ad' l' c') (x.it.items.map (fun y => y.text)))) ∧ Below w.heap.size w w') := fun w hw => takeListS n x.it _ _ _ w (hrx.2.rd.below hw) hxw
      generalize (x.it.items.map (fun y => y.text)) = vx at *
      generalize (lsS x.it) = okx at *
      generalize rdT (pre.map EX.it) = T0 at *
      clear hrx
      cases okx with
      | true =>
        gi_wp2_with (refine ⟨trivial, ?_⟩; gi_at_call 71; refine (CallsIn.inRound lr (callsIn_wide.2 (HCl.out _ (Below.refl _ _)))).mono ?_; rintro e w2 ⟨⟨a2, l2, c2, rfl, hOr⟩, hb2⟩; obtain ⟨c1, c2', c3⟩ := HC.out w2 hb2; have t0 := c1.cell 20; have tf0 := c1.frozen 20; have o0 := c2'.cell 0; have of0 := c2'.frozen 0; have k0 := c3.cell 0; have kf0 := c3.frozen 0; have l1 := c1.lt; have l2' := c2'.lt; have l3 := c3.lt; simp only [List.getElem?_toArray, List.getElem?_cons_zero, List.getElem?_cons_succ] at t0 o0 k0; clear c1 c2' c3)
        obtain ⟨W5, hW5⟩ : ∃ W5, W5 = (((w2.setCell ⟨X + 1, 20, none⟩ (.slice a2 l2 c2)).setCell ⟨X + 1 + 1, 0, none⟩ (.bool true)).setCell ⟨X + 1 + 1 + 1, 0, none⟩ (.int .i64 9)) := ⟨_, rfl⟩
        have hWb : ∀ b, b ≠ X + 1 → b ≠ X + 1 + 1 → b ≠ X + 1 + 1 + 1 → W5.heap[b]? = w2.heap[b]? := fun b h1 h2 h3 => by rw [hW5]; exact (Below.heap_setCell _ _ _ b h3).trans ((Below.heap_setCell _ _ _ b h2).trans (Below.heap_setCell _ _ _ b h1))
        have hWz : W5.heap.size = w2.heap.size := by rw [hW5]; simp
        have hbT : Bk W5 (X + 1) (txc { T0 with bs := vx } (.slice ua T0.hs.length uc) (.slice a2 l2 c2)) 30 := by rw [hW5]; exact (((HC.out w2 hb2).1.set 20 (.slice a2 l2 c2) rfl).other (a := ⟨X + 1 + 1, 0, none⟩) (by simp <;> omega) (.bool true)).other (a := ⟨X + 1 + 1 + 1, 0, none⟩) (by simp <;> omega) (.int .i64 9)
        have hbO : Bk W5 (X + 1 + 1) #[.bool true] 4 := by rw [hW5]; exact (((HC.out w2 hb2).2.1.other (a := ⟨X + 1, 20, none⟩) (by simp <;> omega) (.slice a2 l2 c2)).set 0 (.bool true) rfl).other (a := ⟨X + 1 + 1 + 1, 0, none⟩) (by simp <;> omega) (.int .i64 9)
        have hbK : Bk W5 (X + 1 + 1 + 1) #[.int .i64 ((8 + 1 : Nat) : Int)] 3 := by rw [hW5]; exact (((HC.out w2 hb2).2.2.other (a := ⟨X + 1, 20, none⟩) (by simp <;> omega) (.slice a2 l2 c2)).other (a := ⟨X + 1 + 1, 0, none⟩) (by simp <;> omega) (.bool true)).set 0 (.int .i64 9) rfl
        have hbl : Below w.heap.size w W5 := by rw [hW5]; exact ((((HI.out.bel.trans (hb2.mono HI.out.bel.size)).setCell (p := ⟨X + 1, 20, none⟩) (by have := HN.out.2; show _ ≤ X + 1; omega) (.slice a2 l2 c2)).setCell (p := ⟨X + 1 + 1, 0, none⟩) (by have := HN.out.2; show _ ≤ X + 1 + 1; omega) (.bool true)).setCell (p := ⟨X + 1 + 1 + 1, 0, none⟩) (by have := HN.out.2; show _ ≤ X + 1 + 1 + 1; omega) (.int .i64 9))
        (try rw [← hW5])
        obtain ⟨z1, z2, z3⟩ := ri_next HI.out hk (by omega) hal HT'.out (by rw [HGk.out]) hb2 hWb hWz hbT hbO hbK ((HOU.out.below' hb2).block (fun q hq => hWb q (by have := (HOU.out.ge hq).1; omega) (by have := (HOU.out.ge hq).1; omega) (by have := (HOU.out.ge hq).1; omega))) (((hOr trivial).based (show N ≤ W.heap.size from HI.out.sz)).block (fun q hq => hWb q (by have := ((hOr trivial).ge hq).1; have := HI.out.sz; omega) (by have := ((hOr trivial).ge hq).1; have := HI.out.sz; omega) (by have := ((hOr trivial).ge hq).1; have := HI.out.sz; omega))) hbl
        exact ⟨z1 _, z2, z3⟩
      | false =>
        gi_wp2_with (refine ⟨trivial, ?_⟩; gi_at_call 71; refine (CallsIn.inRound lr (callsIn_wide.2 (HCl.out _ (Below.refl _ _)))).mono ?_; rintro e w2 ⟨⟨a2, l2, c2, rfl, hOr⟩, hb2⟩; obtain ⟨c1, c2', c3⟩ := HC.out w2 hb2; have t0 := c1.cell 20; have tf0 := c1.frozen 20; have o0 := c2'.cell 0; have of0 := c2'.frozen 0; have k0 := c3.cell 0; have kf0 := c3.frozen 0; have l1 := c1.lt; have l2' := c2'.lt; have l3 := c3.lt; simp only [List.getElem?_toArray, List.getElem?_cons_zero, List.getElem?_cons_succ] at t0 o0 k0; clear c1 c2' c3)
        obtain ⟨W5, hW5⟩ : ∃ W5, W5 = (((w2.setCell ⟨X + 1, 20, none⟩ (.slice a2 l2 c2)).setCell ⟨X + 1 + 1, 0, none⟩ (.bool false)).setCell ⟨X + 1 + 1 + 1, 0, none⟩ (.int .i64 9)) := ⟨_, rfl⟩
        have hWb : ∀ b, b ≠ X + 1 → b ≠ X + 1 + 1 → b ≠ X + 1 + 1 + 1 → W5.heap[b]? = w2.heap[b]? := fun b h1 h2 h3 => by rw [hW5]; exact (Below.heap_setCell _ _ _ b h3).trans ((Below.heap_setCell _ _ _ b h2).trans (Below.heap_setCell _ _ _ b h1))
        have hWz : W5.heap.size = w2.heap.size := by rw [hW5]; simp
        have hbT : Bk W5 (X + 1) (txc { T0 with bs := vx } (.slice ua T0.hs.length uc) (.slice a2 l2 c2)) 30 := by rw [hW5]; exact (((HC.out w2 hb2).1.set 20 (.slice a2 l2 c2) rfl).other (a := ⟨X + 1 + 1, 0, none⟩) (by simp <;> omega) (.bool false)).other (a := ⟨X + 1 + 1 + 1, 0, none⟩) (by simp <;> omega) (.int .i64 9)
        have hbO : Bk W5 (X + 1 + 1) #[.bool false] 4 := by rw [hW5]; exact (((HC.out w2 hb2).2.1.other (a := ⟨X + 1, 20, none⟩) (by simp <;> omega) (.slice a2 l2 c2)).set 0 (.bool false) rfl).other (a := ⟨X + 1 + 1 + 1, 0, none⟩) (by simp <;> omega) (.int .i64 9)
        have hbK : Bk W5 (X + 1 + 1 + 1) #[.int .i64 ((8 + 1 : Nat) : Int)] 3 := by rw [hW5]; exact (((HC.out w2 hb2).2.2.other (a := ⟨X + 1, 20, none⟩) (by simp <;> omega) (.slice a2 l2 c2)).other (a := ⟨X + 1 + 1, 0, none⟩) (by simp <;> omega) (.bool false)).set 0 (.int .i64 9) rfl
        have hbl : Below w.heap.size w W5 := by rw [hW5]; exact ((((HI.out.bel.trans (hb2.mono HI.out.bel.size)).setCell (p := ⟨X + 1, 20, none⟩) (by have := HN.out.2; show _ ≤ X + 1; omega) (.slice a2 l2 c2)).setCell (p := ⟨X + 1 + 1, 0, none⟩) (by have := HN.out.2; show _ ≤ X + 1 + 1; omega) (.bool false)).setCell (p := ⟨X + 1 + 1 + 1, 0, none⟩) (by have := HN.out.2; show _ ≤ X + 1 + 1 + 1; omega) (.int .i64 9))
        (try rw [← hW5])
        obtain ⟨z1, z2⟩ := rx_bad (N := N) (b := false) HI.out hk (.inl ⟨by omega, by rw [HGk.out], rfl⟩) hb2 hWb hWz hbT hbO hbK hbl
        exact ⟨z1 _, rfl, z2⟩
    · generalize rdT (pre.map EX.it) = T0 at *
      clear hrx
      obtain ⟨c1, c2', c3⟩ := HC.out W (Below.refl _ _)
      have o0 := c2'.cell 0
      have k0 := c3.cell 0
      have kf0 := c3.frozen 0
      have l2' := c2'.lt
      have l3 := c3.lt
      simp only [List.getElem?_toArray, List.getElem?_cons_zero, List.getElem?_cons_succ] at o0 k0
      rw [hal] at o0
      clear c1 c2' c3
      gi_wp2
      obtain ⟨W5, hW5⟩ : ∃ W5, W5 = (W.setCell ⟨X + 1 + 1 + 1, 0, none⟩ (.int .i64 10)) := ⟨_, rfl⟩
      have hWb : ∀ b, b ≠ X + 1 → b ≠ X + 1 + 1 → b ≠ X + 1 + 1 + 1 → W5.heap[b]? = W.heap[b]? := fun b h1 h2 h3 => by rw [hW5]; exact Below.heap_setCell _ _ _ b h3
      have hWz : W5.heap.size = W.heap.size := by rw [hW5]; simp
      have hbT : Bk W5 (X + 1) (txc T0 (.slice ua T0.hs.length uc) (.slice va T0.bs.length vc)) 30 := by rw [hW5]; exact (HC.out W (Below.refl _ _)).1.other (a := ⟨X + 1 + 1 + 1, 0, none⟩) (by simp <;> omega) (.int .i64 10)
      have hbO : Bk W5 (X + 1 + 1) #[.bool a.list] 4 := by rw [hW5]; exact (HC.out W (Below.refl _ _)).2.1.other (a := ⟨X + 1 + 1 + 1, 0, none⟩) (by simp <;> omega) (.int .i64 10)
      have hbK : Bk W5 (X + 1 + 1 + 1) #[.int .i64 ((9 + 1 : Nat) : Int)] 3 := by rw [hW5]; exact (HC.out W (Below.refl _ _)).2.2.set 0 (.int .i64 10) rfl
      have hbl : Below w.heap.size w W5 := by rw [hW5]; exact HI.out.bel.setCell (p := ⟨X + 1 + 1 + 1, 0, none⟩) (by have := HN.out.2; show _ ≤ X + 1 + 1 + 1; omega) (.int .i64 10)
      (try rw [← hW5])
      obtain ⟨z1, z2⟩ := rx_bad (N := N) (b := a.list) HI.out hk (.inr rfl) (Below.refl _ _) hWb hWz hbT hbO hbK hbl
      exact ⟨z1 _, rfl, z2⟩
  case done =>
    rintro D xs W hD hS hi hDf
    obtain ⟨u, v, bT, ou, ov⟩ := hi.bT
    obtain ⟨ua, uc, rfl, -⟩ := ou.shape
    obtain ⟨va, vc, rfl, -⟩ := ov.shape
    have hS : xs.map EX.it = ys := hS
    have HBel : Hid (Below w.heap.size w W) := hi.bel
    have HBO : Hid (Bk W (X + 1 + 1) #[.bool a.list] 4) := hi.bO
    have HBK : Hid (Bk W (X + 1 + 1 + 1) #[.int .i64 (xs.length : Int)] 3) := hi.bK
    have hx9 := hi.le
    have hgd : ∀ i, i < xs.length → gdA i (atI ys i) = true := fun i h => by rw [← hS]; exact hi.gd i h
    have hxl : xs.length = ys.length := by rw [← hS]; simp
    rw [hS] at bT ou ov
    have HBT : Hid (Bk W (X + 1) (txc (rdT ys) (.slice ua (rdT ys).hs.length uc) (.slice va (rdT ys).bs.length vc)) 30) := bT
    have HOU : Hid (Or 24 cU W N (.slice ua (rdT ys).hs.length uc) (rdT ys).hs) := ou
    have HOV : Hid (Or 9 cS W N (.slice va (rdT ys).bs.length vc) (rdT ys).bs) := ov
    have HOk : Hid (okT ys = decide (xs.length = 9)) := by
      show _ = _
      unfold okT
      rw [← hxl]
      by_cases h9 : xs.length = 9
      · rw [decide_eq_true h9, Bool.true_and, List.all_eq_true]
        intro i hi'
        exact hgd i (by rw [h9]; simpa using hi')
      · rw [decide_eq_false h9]; rfl
    have hyl : a.list = true → ys = a.items := fun h => by rw [← HYs.out, ysOf, if_pos h]
    clear hi bT ou ov hS hgd bI hrI h0
    have lT := HBT.out.lt
    have lO := HBO.out.lt
    have lK := HBK.out.lt
    have o0 := HBO.out.cell 0
    have k0 := HBK.out.cell 0
    simp only [List.getElem?_toArray, List.getElem?_cons_zero, List.getElem?_cons_succ] at o0 k0
    cases hal : a.list with
    | false =>
      have HR : Hid ((a.list && okT a.items) = false) := by show _ = _; rw [hal]; rfl
      rw [hal] at HBO o0
      clear hal
      generalize rdT ys = T0 at *
      clear hyl
      gi_wp2
      refine wpIn_wide.2 ?_
      refine wp_region_noPanic ?_
      refine wp_region_any (by kernel_rfl) ?_
      (try (change wpAny _ _ _ _ _ _ _ (World.drew _)))
      refine (@id ((∀ W6, Stored W.drew W6 (X + 1) (txc T0 (.slice ua T0.hs.length uc) (.slice va T0.bs.length vc)) 30 → (?T1 : World → Prop) W6) → _) (fun key => ?main)) ?pf
      case main =>
        refine wpAny_ready (rs := [0, 1]) (by kernel_rfl) (by simp) ?_
        refine AllReady.cons (o := ⟨some 92, _, _, _, _, _⟩) rfl (fun K hK => ?_) (AllReady.cons (o := ⟨some 93, _, _, _, _, _⟩) rfl (fun K hK => ?_) AllReady.nil)
        · refine step_load_tx rfl _ rfl rfl HBT.out.drew ?_
          refine hK _ _ ?_
          clear hK K
          (try dsimp only); (try simp only [Act.put, List.setIfInBounds_toArray, List.set_cons_zero, List.set_cons_succ])
          refine wpAny_ready (rs := [1]) (by kernel_rfl) (by simp) ?_
          refine AllReady.cons (o := ⟨some 93, _, _, _, _, _⟩) rfl (fun K hK => ?_) AllReady.nil
          · go_simp
            refine hK _ _ ?_
            clear hK K
            (try dsimp only); (try simp only [Act.put, List.setIfInBounds_toArray, List.set_cons_zero, List.set_cons_succ])
            refine wpAny_take (i := 2) (oi := ⟨some 94, _, _, _, _, _⟩) (v := ?_) rfl (by kernel_rfl) (by kernel_rfl) (by kernel_rfl) (fun _ _ _ h => h) (Or.inl ⟨by rfl, ?_⟩) ?_
            rotate_left
            · (intro w; go_simp; try (with_reducible rfl))
            (try dsimp only); (try simp only [Act.put, List.setIfInBounds_toArray, List.set_cons_zero, List.set_cons_succ])
            refine wpAny_take (i := 3) (oi := ⟨some 95, _, _, _, _, _⟩) (v := undef) rfl (by kernel_rfl) (by kernel_rfl) (by kernel_rfl) (fun _ _ _ h => h) (Or.inr ⟨by rfl, rfl⟩) ?_
            (try dsimp only); (try simp only [Act.put, List.setIfInBounds_toArray, List.set_cons_zero, List.set_cons_succ])
            refine wpAny_take (i := 4) (oi := ⟨some 96, _, _, _, _, _⟩) (v := undef) rfl (by kernel_rfl) (by kernel_rfl) (by kernel_rfl) (fun _ _ _ h => h) (Or.inr ⟨by rfl, rfl⟩) ?_
            (try dsimp only); (try simp only [Act.put, List.setIfInBounds_toArray, List.set_cons_zero, List.set_cons_succ])
            refine wpAny_take (i := 5) (oi := ⟨some 97, _, _, _, _, _⟩) (v := ?_) rfl (by kernel_rfl) (by kernel_rfl) (by kernel_rfl) (fun _ _ _ h => h) (Or.inl ⟨by rfl, ?_⟩) ?_
            rotate_left
            · (intro w; go_simp; try (with_reducible rfl))
            (try dsimp only); (try simp only [Act.put, List.setIfInBounds_toArray, List.set_cons_zero, List.set_cons_succ])
            refine wpAny_ready (rs := [6]) (by kernel_rfl) (by simp) ?_
            refine AllReady.cons (o := ⟨none, _, _, _, _, _⟩) rfl (fun K hK => ?_) AllReady.nil
            · refine step_store_tx rfl _ _ rfl rfl rfl HBT.out.drew rfl ?_
              intro W6 hS6
              refine hK _ _ ?_
              clear hK K
              (try dsimp only); (try simp only [Act.put, List.setIfInBounds_toArray, List.set_cons_zero, List.set_cons_succ])
              exact key W6 hS6
        · go_simp
          refine hK _ _ ?_
          clear hK K
          (try dsimp only); (try simp only [Act.put, List.setIfInBounds_toArray, List.set_cons_zero, List.set_cons_succ])
          refine wpAny_take (i := 2) (oi := ⟨some 94, _, _, _, _, _⟩) (v := ?_) rfl (by kernel_rfl) (by kernel_rfl) (by kernel_rfl) (fun _ _ _ h => h) (Or.inl ⟨by rfl, ?_⟩) ?_
          rotate_left
          · (intro w; go_simp; try (with_reducible rfl))
          (try dsimp only); (try simp only [Act.put, List.setIfInBounds_toArray, List.set_cons_zero, List.set_cons_succ])
          refine wpAny_take (i := 3) (oi := ⟨some 95, _, _, _, _, _⟩) (v := undef) rfl (by kernel_rfl) (by kernel_rfl) (by kernel_rfl) (fun _ _ _ h => h) (Or.inr ⟨by rfl, rfl⟩) ?_
          (try dsimp only); (try simp only [Act.put, List.setIfInBounds_toArray, List.set_cons_zero, List.set_cons_succ])
          refine wpAny_take (i := 4) (oi := ⟨some 96, _, _, _, _, _⟩) (v := undef) rfl (by kernel_rfl) (by kernel_rfl) (by kernel_rfl) (fun _ _ _ h => h) (Or.inr ⟨by rfl, rfl⟩) ?_
          (try dsimp only); (try simp only [Act.put, List.setIfInBounds_toArray, List.set_cons_zero, List.set_cons_succ])
          refine wpAny_take (i := 5) (oi := ⟨some 97, _, _, _, _, _⟩) (v := ?_) rfl (by kernel_rfl) (by kernel_rfl) (by kernel_rfl) (fun _ _ _ h => h) (Or.inl ⟨by rfl, ?_⟩) ?_
          rotate_left
          · (intro w; go_simp; try (with_reducible rfl))
          (try dsimp only); (try simp only [Act.put, List.setIfInBounds_toArray, List.set_cons_zero, List.set_cons_succ])
          refine wpAny_ready (rs := [0]) (by kernel_rfl) (by simp) ?_
          refine AllReady.cons (o := ⟨some 92, _, _, _, _, _⟩) rfl (fun K hK => ?_) AllReady.nil
          · refine step_load_tx rfl _ rfl rfl HBT.out.drew ?_
            refine hK _ _ ?_
            clear hK K
            (try dsimp only); (try simp only [Act.put, List.setIfInBounds_toArray, List.set_cons_zero, List.set_cons_succ])
            refine wpAny_ready (rs := [6]) (by kernel_rfl) (by simp) ?_
            refine AllReady.cons (o := ⟨none, _, _, _, _, _⟩) rfl (fun K hK => ?_) AllReady.nil
            · refine step_store_tx rfl _ _ rfl rfl rfl HBT.out.drew rfl ?_
              intro W6 hS6
              refine hK _ _ ?_
              clear hK K
              (try dsimp only); (try simp only [Act.put, List.setIfInBounds_toArray, List.set_cons_zero, List.set_cons_succ])
              exact key W6 hS6
      case pf =>
        intro W6 hS6
        have bO6 := hS6.other HBO.out.drew (by omega)
        have q0 := bO6.cell 0
        have qf0 := bO6.frozen 0
        have ql := bO6.lt
        simp only [List.getElem?_toArray, List.getElem?_cons_zero, List.getElem?_cons_succ] at q0
        refine wpAny_ready (rs := [7]) (by kernel_rfl) (by simp) ?_
        refine AllReady.cons (o := ⟨none, _, _, _, _, _⟩) rfl (fun K hK => ?_) AllReady.nil
        go_simp
        refine hK _ _ ?_
        clear hK K
        (try dsimp only); (try simp only [Act.put, List.setIfInBounds_toArray, List.set_cons_zero, List.set_cons_succ])
        refine wpAny_done (by kernel_rfl) ?_ _
        refine NoPanic.normal ?_
        go_wp2_with fail
        gi_wp2
        have hK7 : (W6.setCell ⟨X + 1 + 1, 0, none⟩ (.bool false)).heap[D]? = some (.deferred (some [])) := (Below.heap_setCell _ _ _ D (by show D ≠ X + 1 + 1; omega)).trans ((hS6.block D (by omega)).trans hDf)
        simp only [Exit.noGoto]
        refine ⟨by simp, .inl ⟨_, _, rfl, run_takeDeferred hK7, ?_⟩⟩
        have bT7 : Bk ((W6.setCell ⟨X + 1 + 1, 0, none⟩ (.bool false)).putObj D (.deferred none)) (X + 1) (txc T0 (.slice ua T0.hs.length uc) (.slice va T0.bs.length vc)) 30 := bk_put (hS6.bR.other (a := ⟨X + 1 + 1, 0, none⟩) (by simp <;> omega) _) hK7 rfl
        have bO7 : Bk ((W6.setCell ⟨X + 1 + 1, 0, none⟩ (.bool false)).putObj D (.deferred none)) (X + 1 + 1) #[.bool false] 4 := bk_put (bO6.set 0 _ rfl) hK7 rfl
        have s0 := bO7.cell 0
        simp only [List.getElem?_toArray, List.getElem?_cons_zero, List.getElem?_cons_succ] at s0
        have hld := run_loadVar_mid (P := Try.prog) ((W6.setCell ⟨X + 1 + 1, 0, none⟩ (.bool false)).putObj D (.deferred none)) (X + 1) 0 30 ((txc T0 (.slice ua T0.hs.length uc) (.slice va T0.bs.length vc))).toList _ (fun j x hx => by rw [Nat.zero_add, bT7.cell]; simpa using hx) Try.underlying30 rfl infoT
        have hbl : Below w.heap.size w ((W6.setCell ⟨X + 1 + 1, 0, none⟩ (.bool false)).putObj D (.deferred none)) := ((hS6.below _ _ (by have := HN.out.2; omega) HBel.out.drew).setCell (p := ⟨X + 1 + 1, 0, none⟩) (by have := HN.out.2; show _ ≤ X + 1 + 1; omega) _).trans (below_put _ _ (by have := HN.out.2; omega))
        refine ⟨.tuple #[.agg (txc T0 (.slice ua T0.hs.length uc) (.slice va T0.bs.length vc)), .bool false], ?_, ⟨_, _, _, by rw [HR.out], ⟨_, _, _, rfl⟩, ⟨_, _, _, rfl⟩, fun h => ?_⟩, hbl⟩
        · have hl2 : (loadVar 4 ⟨X + 1 + 1, 0, none⟩).run Try.prog ((W6.setCell ⟨X + 1 + 1, 0, none⟩ (.bool false)).putObj D (.deferred none)) = .ok (.bool false) ((W6.setCell ⟨X + 1 + 1, 0, none⟩ (.bool false)).putObj D (.deferred none)) := by simp [go_sem, s0]
          simp only [results, Try.f38, Act.put]
          simp [asAddr, hld, hl2]
        · rw [HR.out] at h; cases h
    | true =>
      have HYE : Hid (ys = a.items) := hyl hal
      rw [hal] at HBO o0
      by_cases h9 : xs.length = 9
      · have HR : Hid ((a.list && okT a.items) = true) := by show _ = _; rw [hal, ← HYE.out, HOk.out, decide_eq_true h9]; rfl
        have hq9 : ((xs.length : Int) == 9) = true := by rw [beq_iff_eq]; omega
        clear hal
        generalize hT0 : rdT ys = T0 at *
        have HT0 : Hid (rdT ys = T0) := hT0
        clear hT0 hyl hxl
        generalize xs.length = kx at *
        gi_wp2
        refine wpIn_wide.2 ?_
        refine wp_region_noPanic ?_
        refine wp_region_any (by kernel_rfl) ?_
        (try (change wpAny _ _ _ _ _ _ _ (World.drew _)))
        refine (@id ((∀ W6, Stored W.drew W6 (X + 1) (txc T0 (.slice ua T0.hs.length uc) (.slice va T0.bs.length vc)) 30 → (?T2 : World → Prop) W6) → _) (fun key => ?main)) ?pf
        case main =>
          refine wpAny_ready (rs := [0, 1]) (by kernel_rfl) (by simp) ?_
          refine AllReady.cons (o := ⟨some 92, _, _, _, _, _⟩) rfl (fun K hK => ?_) (AllReady.cons (o := ⟨some 93, _, _, _, _, _⟩) rfl (fun K hK => ?_) AllReady.nil)
          · refine step_load_tx rfl _ rfl rfl HBT.out.drew ?_
            refine hK _ _ ?_
            clear hK K
            (try dsimp only); (try simp only [Act.put, List.setIfInBounds_toArray, List.set_cons_zero, List.set_cons_succ])
            refine wpAny_ready (rs := [1]) (by kernel_rfl) (by simp) ?_
            refine AllReady.cons (o := ⟨some 93, _, _, _, _, _⟩) rfl (fun K hK => ?_) AllReady.nil
            · go_simp
              refine hK _ _ ?_
              clear hK K
              (try dsimp only); (try simp only [Act.put, List.setIfInBounds_toArray, List.set_cons_zero, List.set_cons_succ])
              refine wpAny_take (i := 2) (oi := ⟨some 94, _, _, _, _, _⟩) (v := ?_) rfl (by kernel_rfl) (by kernel_rfl) (by kernel_rfl) (fun _ _ _ h => h) (Or.inl ⟨by rfl, ?_⟩) ?_
              rotate_left
              · (intro w; go_simp; try (with_reducible rfl))
              (try dsimp only); (try simp only [Act.put, List.setIfInBounds_toArray, List.set_cons_zero, List.set_cons_succ])
              refine wpAny_ready (rs := [3, 6]) (by kernel_rfl) (by simp) ?_
              refine AllReady.cons (o := ⟨some 95, _, _, _, _, _⟩) rfl (fun K hK => ?_) (AllReady.cons (o := ⟨none, _, _, _, _, _⟩) rfl (fun K hK => ?_) AllReady.nil)
              · go_simp
                refine hK _ _ ?_
                clear hK K
                (try dsimp only); (try simp only [Act.put, List.setIfInBounds_toArray, List.set_cons_zero, List.set_cons_succ])
                refine wpAny_take (i := 4) (oi := ⟨some 96, _, _, _, _, _⟩) (v := ?_) rfl (by kernel_rfl) (by kernel_rfl) (by kernel_rfl) (fun _ _ _ h => h) (Or.inl ⟨by rfl, ?_⟩) ?_
                rotate_left
                · (intro w; go_simp; try (with_reducible rfl))
                (try dsimp only); (try simp only [Act.put, List.setIfInBounds_toArray, List.set_cons_zero, List.set_cons_succ])
                refine wpAny_take (i := 5) (oi := ⟨some 97, _, _, _, _, _⟩) (v := ?_) rfl (by kernel_rfl) (by kernel_rfl) (by kernel_rfl) (fun _ _ _ h => h) (Or.inl ⟨by rfl, ?_⟩) ?_
                rotate_left
                · (intro w; go_simp; try (with_reducible rfl))
                (try dsimp only); (try simp only [Act.put, List.setIfInBounds_toArray, List.set_cons_zero, List.set_cons_succ])
                refine wpAny_ready (rs := [6]) (by kernel_rfl) (by simp) ?_
                refine AllReady.cons (o := ⟨none, _, _, _, _, _⟩) rfl (fun K hK => ?_) AllReady.nil
                · refine step_store_tx rfl _ _ rfl rfl rfl HBT.out.drew rfl ?_
                  intro W6 hS6
                  refine hK _ _ ?_
                  clear hK K
                  (try dsimp only); (try simp only [Act.put, List.setIfInBounds_toArray, List.set_cons_zero, List.set_cons_succ])
                  exact key W6 hS6
              · refine step_store_tx rfl _ _ rfl rfl rfl HBT.out.drew rfl ?_
                intro W6 hS6
                refine hK _ _ ?_
                clear hK K
                (try dsimp only); (try simp only [Act.put, List.setIfInBounds_toArray, List.set_cons_zero, List.set_cons_succ])
                have bK6 := hS6.other HBK.out.drew (by omega)
                have k6 := bK6.cell 0
                simp only [List.getElem?_toArray, List.getElem?_cons_zero, List.getElem?_cons_succ] at k6
                clear bK6
                refine wpAny_ready (rs := [3]) (by kernel_rfl) (by simp) ?_
                refine AllReady.cons (o := ⟨some 95, _, _, _, _, _⟩) rfl (fun K hK => ?_) AllReady.nil
                · go_simp
                  refine hK _ _ ?_
                  clear hK K
                  (try dsimp only); (try simp only [Act.put, List.setIfInBounds_toArray, List.set_cons_zero, List.set_cons_succ])
                  refine wpAny_take (i := 4) (oi := ⟨some 96, _, _, _, _, _⟩) (v := ?_) rfl (by kernel_rfl) (by kernel_rfl) (by kernel_rfl) (fun _ _ _ h => h) (Or.inl ⟨by rfl, ?_⟩) ?_
                  rotate_left
                  · (intro w; go_simp; try (with_reducible rfl))
                  (try dsimp only); (try simp only [Act.put, List.setIfInBounds_toArray, List.set_cons_zero, List.set_cons_succ])
                  refine wpAny_take (i := 5) (oi := ⟨some 97, _, _, _, _, _⟩) (v := ?_) rfl (by kernel_rfl) (by kernel_rfl) (by kernel_rfl) (fun _ _ _ h => h) (Or.inl ⟨by rfl, ?_⟩) ?_
                  rotate_left
                  · (intro w; go_simp; try (with_reducible rfl))
                  (try dsimp only); (try simp only [Act.put, List.setIfInBounds_toArray, List.set_cons_zero, List.set_cons_succ])
                  exact key W6 hS6
          · go_simp
            refine hK _ _ ?_
            clear hK K
            (try dsimp only); (try simp only [Act.put, List.setIfInBounds_toArray, List.set_cons_zero, List.set_cons_succ])
            refine wpAny_take (i := 2) (oi := ⟨some 94, _, _, _, _, _⟩) (v := ?_) rfl (by kernel_rfl) (by kernel_rfl) (by kernel_rfl) (fun _ _ _ h => h) (Or.inl ⟨by rfl, ?_⟩) ?_
            rotate_left
            · (intro w; go_simp; try (with_reducible rfl))
            (try dsimp only); (try simp only [Act.put, List.setIfInBounds_toArray, List.set_cons_zero, List.set_cons_succ])
            refine wpAny_ready (rs := [0, 3]) (by kernel_rfl) (by simp) ?_
            refine AllReady.cons (o := ⟨some 92, _, _, _, _, _⟩) rfl (fun K hK => ?_) (AllReady.cons (o := ⟨some 95, _, _, _, _, _⟩) rfl (fun K hK => ?_) AllReady.nil)
            · refine step_load_tx rfl _ rfl rfl HBT.out.drew ?_
              refine hK _ _ ?_
              clear hK K
              (try dsimp only); (try simp only [Act.put, List.setIfInBounds_toArray, List.set_cons_zero, List.set_cons_succ])
              refine wpAny_ready (rs := [3, 6]) (by kernel_rfl) (by simp) ?_
              refine AllReady.cons (o := ⟨some 95, _, _, _, _, _⟩) rfl (fun K hK => ?_) (AllReady.cons (o := ⟨none, _, _, _, _, _⟩) rfl (fun K hK => ?_) AllReady.nil)
              · go_simp
                refine hK _ _ ?_
                clear hK K
                (try dsimp only); (try simp only [Act.put, List.setIfInBounds_toArray, List.set_cons_zero, List.set_cons_succ])
                refine wpAny_take (i := 4) (oi := ⟨some 96, _, _, _, _, _⟩) (v := ?_) rfl (by kernel_rfl) (by kernel_rfl) (by kernel_rfl) (fun _ _ _ h => h) (Or.inl ⟨by rfl, ?_⟩) ?_
                rotate_left
                · (intro w; go_simp; try (with_reducible rfl))
                (try dsimp only); (try simp only [Act.put, List.setIfInBounds_toArray, List.set_cons_zero, List.set_cons_succ])
                refine wpAny_take (i := 5) (oi := ⟨some 97, _, _, _, _, _⟩) (v := ?_) rfl (by kernel_rfl) (by kernel_rfl) (by kernel_rfl) (fun _ _ _ h => h) (Or.inl ⟨by rfl, ?_⟩) ?_
                rotate_left
                · (intro w; go_simp; try (with_reducible rfl))
                (try dsimp only); (try simp only [Act.put, List.setIfInBounds_toArray, List.set_cons_zero, List.set_cons_succ])
                refine wpAny_ready (rs := [6]) (by kernel_rfl) (by simp) ?_
                refine AllReady.cons (o := ⟨none, _, _, _, _, _⟩) rfl (fun K hK => ?_) AllReady.nil
                · refine step_store_tx rfl _ _ rfl rfl rfl HBT.out.drew rfl ?_
                  intro W6 hS6
                  refine hK _ _ ?_
                  clear hK K
                  (try dsimp only); (try simp only [Act.put, List.setIfInBounds_toArray, List.set_cons_zero, List.set_cons_succ])
                  exact key W6 hS6
              · refine step_store_tx rfl _ _ rfl rfl rfl HBT.out.drew rfl ?_
                intro W6 hS6
                refine hK _ _ ?_
                clear hK K
                (try dsimp only); (try simp only [Act.put, List.setIfInBounds_toArray, List.set_cons_zero, List.set_cons_succ])
                have bK6 := hS6.other HBK.out.drew (by omega)
                have k6 := bK6.cell 0
                simp only [List.getElem?_toArray, List.getElem?_cons_zero, List.getElem?_cons_succ] at k6
                clear bK6
                refine wpAny_ready (rs := [3]) (by kernel_rfl) (by simp) ?_
                refine AllReady.cons (o := ⟨some 95, _, _, _, _, _⟩) rfl (fun K hK => ?_) AllReady.nil
                · go_simp
                  refine hK _ _ ?_
                  clear hK K
                  (try dsimp only); (try simp only [Act.put, List.setIfInBounds_toArray, List.set_cons_zero, List.set_cons_succ])
                  refine wpAny_take (i := 4) (oi := ⟨some 96, _, _, _, _, _⟩) (v := ?_) rfl (by kernel_rfl) (by kernel_rfl) (by kernel_rfl) (fun _ _ _ h => h) (Or.inl ⟨by rfl, ?_⟩) ?_
                  rotate_left
                  · (intro w; go_simp; try (with_reducible rfl))
                  (try dsimp only); (try simp only [Act.put, List.setIfInBounds_toArray, List.set_cons_zero, List.set_cons_succ])
                  refine wpAny_take (i := 5) (oi := ⟨some 97, _, _, _, _, _⟩) (v := ?_) rfl (by kernel_rfl) (by kernel_rfl) (by kernel_rfl) (fun _ _ _ h => h) (Or.inl ⟨by rfl, ?_⟩) ?_
                  rotate_left
                  · (intro w; go_simp; try (with_reducible rfl))
                  (try dsimp only); (try simp only [Act.put, List.setIfInBounds_toArray, List.set_cons_zero, List.set_cons_succ])
                  exact key W6 hS6
            · go_simp
              refine hK _ _ ?_
              clear hK K
              (try dsimp only); (try simp only [Act.put, List.setIfInBounds_toArray, List.set_cons_zero, List.set_cons_succ])
              refine wpAny_take (i := 4) (oi := ⟨some 96, _, _, _, _, _⟩) (v := ?_) rfl (by kernel_rfl) (by kernel_rfl) (by kernel_rfl) (fun _ _ _ h => h) (Or.inl ⟨by rfl, ?_⟩) ?_
              rotate_left
              · (intro w; go_simp; try (with_reducible rfl))
              (try dsimp only); (try simp only [Act.put, List.setIfInBounds_toArray, List.set_cons_zero, List.set_cons_succ])
              refine wpAny_take (i := 5) (oi := ⟨some 97, _, _, _, _, _⟩) (v := ?_) rfl (by kernel_rfl) (by kernel_rfl) (by kernel_rfl) (fun _ _ _ h => h) (Or.inl ⟨by rfl, ?_⟩) ?_
              rotate_left
              · (intro w; go_simp; try (with_reducible rfl))
              (try dsimp only); (try simp only [Act.put, List.setIfInBounds_toArray, List.set_cons_zero, List.set_cons_succ])
              refine wpAny_ready (rs := [0]) (by kernel_rfl) (by simp) ?_
              refine AllReady.cons (o := ⟨some 92, _, _, _, _, _⟩) rfl (fun K hK => ?_) AllReady.nil
              · refine step_load_tx rfl _ rfl rfl HBT.out.drew ?_
                refine hK _ _ ?_
                clear hK K
                (try dsimp only); (try simp only [Act.put, List.setIfInBounds_toArray, List.set_cons_zero, List.set_cons_succ])
                refine wpAny_ready (rs := [6]) (by kernel_rfl) (by simp) ?_
                refine AllReady.cons (o := ⟨none, _, _, _, _, _⟩) rfl (fun K hK => ?_) AllReady.nil
                · refine step_store_tx rfl _ _ rfl rfl rfl HBT.out.drew rfl ?_
                  intro W6 hS6
                  refine hK _ _ ?_
                  clear hK K
                  (try dsimp only); (try simp only [Act.put, List.setIfInBounds_toArray, List.set_cons_zero, List.set_cons_succ])
                  exact key W6 hS6
        case pf =>
          intro W6 hS6
          have bO6 := hS6.other HBO.out.drew (by omega)
          have q0 := bO6.cell 0
          have qf0 := bO6.frozen 0
          have ql := bO6.lt
          simp only [List.getElem?_toArray, List.getElem?_cons_zero, List.getElem?_cons_succ] at q0
          refine wpAny_ready (rs := [7]) (by kernel_rfl) (by simp) ?_
          refine AllReady.cons (o := ⟨none, _, _, _, _, _⟩) rfl (fun K hK => ?_) AllReady.nil
          go_simp
          refine hK _ _ ?_
          clear hK K
          (try dsimp only); (try simp only [Act.put, List.setIfInBounds_toArray, List.set_cons_zero, List.set_cons_succ])
          refine wpAny_done (by kernel_rfl) ?_ _
          refine NoPanic.normal ?_
          go_wp2_with fail
          gi_wp2
          have hK7 : (W6.setCell ⟨X + 1 + 1, 0, none⟩ (.bool true)).heap[D]? = some (.deferred (some [])) := (Below.heap_setCell _ _ _ D (by show D ≠ X + 1 + 1; omega)).trans ((hS6.block D (by omega)).trans hDf)
          simp only [Exit.noGoto]
          refine ⟨by simp, .inl ⟨_, _, rfl, run_takeDeferred hK7, ?_⟩⟩
          have bT7 : Bk ((W6.setCell ⟨X + 1 + 1, 0, none⟩ (.bool true)).putObj D (.deferred none)) (X + 1) (txc T0 (.slice ua T0.hs.length uc) (.slice va T0.bs.length vc)) 30 := bk_put (hS6.bR.other (a := ⟨X + 1 + 1, 0, none⟩) (by simp <;> omega) _) hK7 rfl
          have bO7 : Bk ((W6.setCell ⟨X + 1 + 1, 0, none⟩ (.bool true)).putObj D (.deferred none)) (X + 1 + 1) #[.bool true] 4 := bk_put (bO6.set 0 _ rfl) hK7 rfl
          have s0 := bO7.cell 0
          simp only [List.getElem?_toArray, List.getElem?_cons_zero, List.getElem?_cons_succ] at s0
          have hld := run_loadVar_mid (P := Try.prog) ((W6.setCell ⟨X + 1 + 1, 0, none⟩ (.bool true)).putObj D (.deferred none)) (X + 1) 0 30 ((txc T0 (.slice ua T0.hs.length uc) (.slice va T0.bs.length vc))).toList _ (fun j x hx => by rw [Nat.zero_add, bT7.cell]; simpa using hx) Try.underlying30 rfl infoT
          have hbl : Below w.heap.size w ((W6.setCell ⟨X + 1 + 1, 0, none⟩ (.bool true)).putObj D (.deferred none)) := ((hS6.below _ _ (by have := HN.out.2; omega) HBel.out.drew).setCell (p := ⟨X + 1 + 1, 0, none⟩) (by have := HN.out.2; show _ ≤ X + 1 + 1; omega) _).trans (below_put _ _ (by have := HN.out.2; omega))
          refine ⟨.tuple #[.agg (txc T0 (.slice ua T0.hs.length uc) (.slice va T0.bs.length vc)), .bool true], ?_, ⟨_, _, _, by rw [HR.out], ⟨_, _, _, rfl⟩, ⟨_, _, _, rfl⟩, fun h => ?_⟩, hbl⟩
          · have hl2 : (loadVar 4 ⟨X + 1 + 1, 0, none⟩).run Try.prog ((W6.setCell ⟨X + 1 + 1, 0, none⟩ (.bool true)).putObj D (.deferred none)) = .ok (.bool true) ((W6.setCell ⟨X + 1 + 1, 0, none⟩ (.bool true)).putObj D (.deferred none)) := by simp [go_sem, s0]
            simp only [results, Try.f38, Act.put]
            simp [asAddr, hld, hl2]
          · exact ⟨by rw [← HYE.out]; exact HT0.out.symm, ⟨(or_put ((hS6.or HOU.out.drew (fun e => by have h : N ≤ X + 1 := (HOU.out.ge e).1; omega)).other _ _ (.inr (fun e => by have h : N ≤ X + 1 + 1 := (HOU.out.ge e).1; omega))) hK7 rfl).based (by have := HN.out; omega), (or_put ((hS6.or HOV.out.drew (fun e => by have h : N ≤ X + 1 := (HOV.out.ge e).1; omega)).other _ _ (.inr (fun e => by have h : N ≤ X + 1 + 1 := (HOV.out.ge e).1; omega))) hK7 rfl).based (by have := HN.out; omega)⟩⟩
      · have HR : Hid ((a.list && okT a.items) = false) := by show _ = _; rw [hal, ← HYE.out, HOk.out, decide_eq_false h9]; rfl
        have hq9 : ((xs.length : Int) == 9) = false := by rw [beq_eq_false_iff_ne]; omega
        clear hal
        generalize rdT ys = T0 at *
        clear hyl hxl
        generalize xs.length = kx at *
        gi_wp2
        refine wpIn_wide.2 ?_
        refine wp_region_noPanic ?_
        refine wp_region_any (by kernel_rfl) ?_
        (try (change wpAny _ _ _ _ _ _ _ (World.drew _)))
        refine (@id ((∀ W6, Stored W.drew W6 (X + 1) (txc T0 (.slice ua T0.hs.length uc) (.slice va T0.bs.length vc)) 30 → (?T3 : World → Prop) W6) → _) (fun key => ?main)) ?pf
        case main =>
          refine wpAny_ready (rs := [0, 1]) (by kernel_rfl) (by simp) ?_
          refine AllReady.cons (o := ⟨some 92, _, _, _, _, _⟩) rfl (fun K hK => ?_) (AllReady.cons (o := ⟨some 93, _, _, _, _, _⟩) rfl (fun K hK => ?_) AllReady.nil)
          · refine step_load_tx rfl _ rfl rfl HBT.out.drew ?_
            refine hK _ _ ?_
            clear hK K
            (try dsimp only); (try simp only [Act.put, List.setIfInBounds_toArray, List.set_cons_zero, List.set_cons_succ])
            refine wpAny_ready (rs := [1]) (by kernel_rfl) (by simp) ?_
            refine AllReady.cons (o := ⟨some 93, _, _, _, _, _⟩) rfl (fun K hK => ?_) AllReady.nil
            · go_simp
              refine hK _ _ ?_
              clear hK K
              (try dsimp only); (try simp only [Act.put, List.setIfInBounds_toArray, List.set_cons_zero, List.set_cons_succ])
              refine wpAny_take (i := 2) (oi := ⟨some 94, _, _, _, _, _⟩) (v := ?_) rfl (by kernel_rfl) (by kernel_rfl) (by kernel_rfl) (fun _ _ _ h => h) (Or.inl ⟨by rfl, ?_⟩) ?_
              rotate_left
              · (intro w; go_simp; try (with_reducible rfl))
              (try dsimp only); (try simp only [Act.put, List.setIfInBounds_toArray, List.set_cons_zero, List.set_cons_succ])
              refine wpAny_ready (rs := [3, 6]) (by kernel_rfl) (by simp) ?_
              refine AllReady.cons (o := ⟨some 95, _, _, _, _, _⟩) rfl (fun K hK => ?_) (AllReady.cons (o := ⟨none, _, _, _, _, _⟩) rfl (fun K hK => ?_) AllReady.nil)
              · go_simp
                refine hK _ _ ?_
                clear hK K
                (try dsimp only); (try simp only [Act.put, List.setIfInBounds_toArray, List.set_cons_zero, List.set_cons_succ])
                refine wpAny_take (i := 4) (oi := ⟨some 96, _, _, _, _, _⟩) (v := ?_) rfl (by kernel_rfl) (by kernel_rfl) (by kernel_rfl) (fun _ _ _ h => h) (Or.inl ⟨by rfl, ?_⟩) ?_
                rotate_left
                · (intro w; go_simp; try (with_reducible rfl))
                (try dsimp only); (try simp only [Act.put, List.setIfInBounds_toArray, List.set_cons_zero, List.set_cons_succ])
                refine wpAny_take (i := 5) (oi := ⟨some 97, _, _, _, _, _⟩) (v := ?_) rfl (by kernel_rfl) (by kernel_rfl) (by kernel_rfl) (fun _ _ _ h => h) (Or.inl ⟨by rfl, ?_⟩) ?_
                rotate_left
                · (intro w; go_simp; try (with_reducible rfl))
                (try dsimp only); (try simp only [Act.put, List.setIfInBounds_toArray, List.set_cons_zero, List.set_cons_succ])
                refine wpAny_ready (rs := [6]) (by kernel_rfl) (by simp) ?_
                refine AllReady.cons (o := ⟨none, _, _, _, _, _⟩) rfl (fun K hK => ?_) AllReady.nil
                · refine step_store_tx rfl _ _ rfl rfl rfl HBT.out.drew rfl ?_
                  intro W6 hS6
                  refine hK _ _ ?_
                  clear hK K
                  (try dsimp only); (try simp only [Act.put, List.setIfInBounds_toArray, List.set_cons_zero, List.set_cons_succ])
                  exact key W6 hS6
              · refine step_store_tx rfl _ _ rfl rfl rfl HBT.out.drew rfl ?_
                intro W6 hS6
                refine hK _ _ ?_
                clear hK K
                (try dsimp only); (try simp only [Act.put, List.setIfInBounds_toArray, List.set_cons_zero, List.set_cons_succ])
                have bK6 := hS6.other HBK.out.drew (by omega)
                have k6 := bK6.cell 0
                simp only [List.getElem?_toArray, List.getElem?_cons_zero, List.getElem?_cons_succ] at k6
                clear bK6
                refine wpAny_ready (rs := [3]) (by kernel_rfl) (by simp) ?_
                refine AllReady.cons (o := ⟨some 95, _, _, _, _, _⟩) rfl (fun K hK => ?_) AllReady.nil
                · go_simp
                  refine hK _ _ ?_
                  clear hK K
                  (try dsimp only); (try simp only [Act.put, List.setIfInBounds_toArray, List.set_cons_zero, List.set_cons_succ])
                  refine wpAny_take (i := 4) (oi := ⟨some 96, _, _, _, _, _⟩) (v := ?_) rfl (by kernel_rfl) (by kernel_rfl) (by kernel_rfl) (fun _ _ _ h => h) (Or.inl ⟨by rfl, ?_⟩) ?_
                  rotate_left
                  · (intro w; go_simp; try (with_reducible rfl))
                  (try dsimp only); (try simp only [Act.put, List.setIfInBounds_toArray, List.set_cons_zero, List.set_cons_succ])
                  refine wpAny_take (i := 5) (oi := ⟨some 97, _, _, _, _, _⟩) (v := ?_) rfl (by kernel_rfl) (by kernel_rfl) (by kernel_rfl) (fun _ _ _ h => h) (Or.inl ⟨by rfl, ?_⟩) ?_
                  rotate_left
                  · (intro w; go_simp; try (with_reducible rfl))
                  (try dsimp only); (try simp only [Act.put, List.setIfInBounds_toArray, List.set_cons_zero, List.set_cons_succ])
                  exact key W6 hS6
          · go_simp
            refine hK _ _ ?_
            clear hK K
            (try dsimp only); (try simp only [Act.put, List.setIfInBounds_toArray, List.set_cons_zero, List.set_cons_succ])
            refine wpAny_take (i := 2) (oi := ⟨some 94, _, _, _, _, _⟩) (v := ?_) rfl (by kernel_rfl) (by kernel_rfl) (by kernel_rfl) (fun _ _ _ h => h) (Or.inl ⟨by rfl, ?_⟩) ?_
            rotate_left
            · (intro w; go_simp; try (with_reducible rfl))
            (try dsimp only); (try simp only [Act.put, List.setIfInBounds_toArray, List.set_cons_zero, List.set_cons_succ])
            refine wpAny_ready (rs := [0, 3]) (by kernel_rfl) (by simp) ?_
            refine AllReady.cons (o := ⟨some 92, _, _, _, _, _⟩) rfl (fun K hK => ?_) (AllReady.cons (o := ⟨some 95, _, _, _, _, _⟩) rfl (fun K hK => ?_) AllReady.nil)
            · refine step_load_tx rfl _ rfl rfl HBT.out.drew ?_
              refine hK _ _ ?_
              clear hK K
              (try dsimp only); (try simp only [Act.put, List.setIfInBounds_toArray, List.set_cons_zero, List.set_cons_succ])
              refine wpAny_ready (rs := [3, 6]) (by kernel_rfl) (by simp) ?_
              refine AllReady.cons (o := ⟨some 95, _, _, _, _, _⟩) rfl (fun K hK => ?_) (AllReady.cons (o := ⟨none, _, _, _, _, _⟩) rfl (fun K hK => ?_) AllReady.nil)
              · go_simp
                refine hK _ _ ?_
                clear hK K
                (try dsimp only); (try simp only [Act.put, List.setIfInBounds_toArray, List.set_cons_zero, List.set_cons_succ])
                refine wpAny_take (i := 4) (oi := ⟨some 96, _, _, _, _, _⟩) (v := ?_) rfl (by kernel_rfl) (by kernel_rfl) (by kernel_rfl) (fun _ _ _ h => h) (Or.inl ⟨by rfl, ?_⟩) ?_
                rotate_left
                · (intro w; go_simp; try (with_reducible rfl))
                (try dsimp only); (try simp only [Act.put, List.setIfInBounds_toArray, List.set_cons_zero, List.set_cons_succ])
                refine wpAny_take (i := 5) (oi := ⟨some 97, _, _, _, _, _⟩) (v := ?_) rfl (by kernel_rfl) (by kernel_rfl) (by kernel_rfl) (fun _ _ _ h => h) (Or.inl ⟨by rfl, ?_⟩) ?_
                rotate_left
                · (intro w; go_simp; try (with_reducible rfl))
                (try dsimp only); (try simp only [Act.put, List.setIfInBounds_toArray, List.set_cons_zero, List.set_cons_succ])
                refine wpAny_ready (rs := [6]) (by kernel_rfl) (by simp) ?_
                refine AllReady.cons (o := ⟨none, _, _, _, _, _⟩) rfl (fun K hK => ?_) AllReady.nil
                · refine step_store_tx rfl _ _ rfl rfl rfl HBT.out.drew rfl ?_
                  intro W6 hS6
                  refine hK _ _ ?_
                  clear hK K
                  (try dsimp only); (try simp only [Act.put, List.setIfInBounds_toArray, List.set_cons_zero, List.set_cons_succ])
                  exact key W6 hS6
              · refine step_store_tx rfl _ _ rfl rfl rfl HBT.out.drew rfl ?_
                intro W6 hS6
                refine hK _ _ ?_
                clear hK K
                (try dsimp only); (try simp only [Act.put, List.setIfInBounds_toArray, List.set_cons_zero, List.set_cons_succ])
                have bK6 := hS6.other HBK.out.drew (by omega)
                have k6 := bK6.cell 0
                simp only [List.getElem?_toArray, List.getElem?_cons_zero, List.getElem?_cons_succ] at k6
                clear bK6
                refine wpAny_ready (rs := [3]) (by kernel_rfl) (by simp) ?_
                refine AllReady.cons (o := ⟨some 95, _, _, _, _, _⟩) rfl (fun K hK => ?_) AllReady.nil
                · go_simp
                  refine hK _ _ ?_
                  clear hK K
                  (try dsimp only); (try simp only [Act.put, List.setIfInBounds_toArray, List.set_cons_zero, List.set_cons_succ])
                  refine wpAny_take (i := 4) (oi := ⟨some 96, _, _, _, _, _⟩) (v := ?_) rfl (by kernel_rfl) (by kernel_rfl) (by kernel_rfl) (fun _ _ _ h => h) (Or.inl ⟨by rfl, ?_⟩) ?_
                  rotate_left
                  · (intro w; go_simp; try (with_reducible rfl))
                  (try dsimp only); (try simp only [Act.put, List.setIfInBounds_toArray, List.set_cons_zero, List.set_cons_succ])
                  refine wpAny_take (i := 5) (oi := ⟨some 97, _, _, _, _, _⟩) (v := ?_) rfl (by kernel_rfl) (by kernel_rfl) (by kernel_rfl) (fun _ _ _ h => h) (Or.inl ⟨by rfl, ?_⟩) ?_
                  rotate_left
                  · (intro w; go_simp; try (with_reducible rfl))
                  (try dsimp only); (try simp only [Act.put, List.setIfInBounds_toArray, List.set_cons_zero, List.set_cons_succ])
                  exact key W6 hS6
            · go_simp
              refine hK _ _ ?_
              clear hK K
              (try dsimp only); (try simp only [Act.put, List.setIfInBounds_toArray, List.set_cons_zero, List.set_cons_succ])
              refine wpAny_take (i := 4) (oi := ⟨some 96, _, _, _, _, _⟩) (v := ?_) rfl (by kernel_rfl) (by kernel_rfl) (by kernel_rfl) (fun _ _ _ h => h) (Or.inl ⟨by rfl, ?_⟩) ?_
              rotate_left
              · (intro w; go_simp; try (with_reducible rfl))
              (try dsimp only); (try simp only [Act.put, List.setIfInBounds_toArray, List.set_cons_zero, List.set_cons_succ])
              refine wpAny_take (i := 5) (oi := ⟨some 97, _, _, _, _, _⟩) (v := ?_) rfl (by kernel_rfl) (by kernel_rfl) (by kernel_rfl) (fun _ _ _ h => h) (Or.inl ⟨by rfl, ?_⟩) ?_
              rotate_left
              · (intro w; go_simp; try (with_reducible rfl))
              (try dsimp only); (try simp only [Act.put, List.setIfInBounds_toArray, List.set_cons_zero, List.set_cons_succ])
              refine wpAny_ready (rs := [0]) (by kernel_rfl) (by simp) ?_
              refine AllReady.cons (o := ⟨some 92, _, _, _, _, _⟩) rfl (fun K hK => ?_) AllReady.nil
              · refine step_load_tx rfl _ rfl rfl HBT.out.drew ?_
                refine hK _ _ ?_
                clear hK K
                (try dsimp only); (try simp only [Act.put, List.setIfInBounds_toArray, List.set_cons_zero, List.set_cons_succ])
                refine wpAny_ready (rs := [6]) (by kernel_rfl) (by simp) ?_
                refine AllReady.cons (o := ⟨none, _, _, _, _, _⟩) rfl (fun K hK => ?_) AllReady.nil
                · refine step_store_tx rfl _ _ rfl rfl rfl HBT.out.drew rfl ?_
                  intro W6 hS6
                  refine hK _ _ ?_
                  clear hK K
                  (try dsimp only); (try simp only [Act.put, List.setIfInBounds_toArray, List.set_cons_zero, List.set_cons_succ])
                  exact key W6 hS6
        case pf =>
          intro W6 hS6
          have bO6 := hS6.other HBO.out.drew (by omega)
          have q0 := bO6.cell 0
          have qf0 := bO6.frozen 0
          have ql := bO6.lt
          simp only [List.getElem?_toArray, List.getElem?_cons_zero, List.getElem?_cons_succ] at q0
          refine wpAny_ready (rs := [7]) (by kernel_rfl) (by simp) ?_
          refine AllReady.cons (o := ⟨none, _, _, _, _, _⟩) rfl (fun K hK => ?_) AllReady.nil
          go_simp
          refine hK _ _ ?_
          clear hK K
          (try dsimp only); (try simp only [Act.put, List.setIfInBounds_toArray, List.set_cons_zero, List.set_cons_succ])
          refine wpAny_done (by kernel_rfl) ?_ _
          refine NoPanic.normal ?_
          go_wp2_with fail
          gi_wp2
          have hK7 : (W6.setCell ⟨X + 1 + 1, 0, none⟩ (.bool false)).heap[D]? = some (.deferred (some [])) := (Below.heap_setCell _ _ _ D (by show D ≠ X + 1 + 1; omega)).trans ((hS6.block D (by omega)).trans hDf)
          simp only [Exit.noGoto]
          refine ⟨by simp, .inl ⟨_, _, rfl, run_takeDeferred hK7, ?_⟩⟩
          have bT7 : Bk ((W6.setCell ⟨X + 1 + 1, 0, none⟩ (.bool false)).putObj D (.deferred none)) (X + 1) (txc T0 (.slice ua T0.hs.length uc) (.slice va T0.bs.length vc)) 30 := bk_put (hS6.bR.other (a := ⟨X + 1 + 1, 0, none⟩) (by simp <;> omega) _) hK7 rfl
          have bO7 : Bk ((W6.setCell ⟨X + 1 + 1, 0, none⟩ (.bool false)).putObj D (.deferred none)) (X + 1 + 1) #[.bool false] 4 := bk_put (bO6.set 0 _ rfl) hK7 rfl
          have s0 := bO7.cell 0
          simp only [List.getElem?_toArray, List.getElem?_cons_zero, List.getElem?_cons_succ] at s0
          have hld := run_loadVar_mid (P := Try.prog) ((W6.setCell ⟨X + 1 + 1, 0, none⟩ (.bool false)).putObj D (.deferred none)) (X + 1) 0 30 ((txc T0 (.slice ua T0.hs.length uc) (.slice va T0.bs.length vc))).toList _ (fun j x hx => by rw [Nat.zero_add, bT7.cell]; simpa using hx) Try.underlying30 rfl infoT
          have hbl : Below w.heap.size w ((W6.setCell ⟨X + 1 + 1, 0, none⟩ (.bool false)).putObj D (.deferred none)) := ((hS6.below _ _ (by have := HN.out.2; omega) HBel.out.drew).setCell (p := ⟨X + 1 + 1, 0, none⟩) (by have := HN.out.2; show _ ≤ X + 1 + 1; omega) _).trans (below_put _ _ (by have := HN.out.2; omega))
          refine ⟨.tuple #[.agg (txc T0 (.slice ua T0.hs.length uc) (.slice va T0.bs.length vc)), .bool false], ?_, ⟨_, _, _, by rw [HR.out], ⟨_, _, _, rfl⟩, ⟨_, _, _, rfl⟩, fun h => ?_⟩, hbl⟩
          · have hl2 : (loadVar 4 ⟨X + 1 + 1, 0, none⟩).run Try.prog ((W6.setCell ⟨X + 1 + 1, 0, none⟩ (.bool false)).putObj D (.deferred none)) = .ok (.bool false) ((W6.setCell ⟨X + 1 + 1, 0, none⟩ (.bool false)).putObj D (.deferred none)) := by simp [go_sem, s0]
            simp only [results, Try.f38, Act.put]
            simp [asAddr, hld, hl2]
          · rw [HR.out] at h; cases h
  case stop =>
    rintro D c pre W hD hSp ⟨rfl, hi⟩ hDf
    obtain ⟨T0, ua, ul, uc, va, vl, vc, bT⟩ := hi.bT
    obtain ⟨bb, kx, bO, bK, hbk⟩ := hi.bOK
    have HBel : Hid (Below w.heap.size w W) := hi.bel
    have HBO : Hid (Bk W (X + 1 + 1) #[.bool bb] 4) := bO
    have HBK : Hid (Bk W (X + 1 + 1 + 1) #[.int .i64 (kx : Int)] 3) := bK
    have HBT : Hid (Bk W (X + 1) (txc T0 (.slice ua ul uc) (.slice va vl vc)) 30) := bT
    have HR : Hid ((a.list && okT a.items) = false) := by
      show _ = _
      by_cases hl : a.list = true
      · have hy : ys = a.items := by rw [← HYs.out, ysOf, if_pos hl]
        rw [hl, Bool.true_and, ← hy]
        unfold okT
        by_cases h9 : ys.length = 9
        · rw [decide_eq_true h9, Bool.true_and, List.all_eq_false]
          obtain ⟨i, h1, h2, h3⟩ : ∃ i, i < pre.length ∧ i < 9 ∧ gdA i (atI (pre.map EX.it) i) = false := by
            rcases hi.no with h | h
            · exact h
            · have := hSp.1; omega
          refine ⟨i, by simpa using h2, ?_⟩
          have e : atI ys i = atI (pre.map EX.it) i := by
            rw [hSp.2]
            simp only [atI, List.getD, List.getElem?_take, if_pos h1]
          rw [e, h3]
          simp
        · rw [decide_eq_false h9]; rfl
      · have : a.list = false := by simpa using hl
        rw [this]; rfl
    clear hi bT bO bK bI hrI h0
    have lT := HBT.out.lt
    have lO := HBO.out.lt
    have lK := HBK.out.lt
    have o0 := HBO.out.cell 0
    have k0 := HBK.out.cell 0
    simp only [List.getElem?_toArray, List.getElem?_cons_zero, List.getElem?_cons_succ] at o0 k0
    cases bb with
    | false =>
      gi_wp2
      refine wpIn_wide.2 ?_
      refine wp_region_noPanic ?_
      refine wp_region_any (by kernel_rfl) ?_
      (try (change wpAny _ _ _ _ _ _ _ (World.drew _)))
      refine (@id ((∀ W6, Stored W.drew W6 (X + 1) (txc T0 (.slice ua ul uc) (.slice va vl vc)) 30 → (?T4 : World → Prop) W6) → _) (fun key => ?main)) ?pf
      case main =>
        refine wpAny_ready (rs := [0, 1]) (by kernel_rfl) (by simp) ?_
        refine AllReady.cons (o := ⟨some 92, _, _, _, _, _⟩) rfl (fun K hK => ?_) (AllReady.cons (o := ⟨some 93, _, _, _, _, _⟩) rfl (fun K hK => ?_) AllReady.nil)
        · refine step_load_tx rfl _ rfl rfl HBT.out.drew ?_
          refine hK _ _ ?_
          clear hK K
          (try dsimp only); (try simp only [Act.put, List.setIfInBounds_toArray, List.set_cons_zero, List.set_cons_succ])
          refine wpAny_ready (rs := [1]) (by kernel_rfl) (by simp) ?_
          refine AllReady.cons (o := ⟨some 93, _, _, _, _, _⟩) rfl (fun K hK => ?_) AllReady.nil
          · go_simp
            refine hK _ _ ?_
            clear hK K
            (try dsimp only); (try simp only [Act.put, List.setIfInBounds_toArray, List.set_cons_zero, List.set_cons_succ])
            refine wpAny_take (i := 2) (oi := ⟨some 94, _, _, _, _, _⟩) (v := ?_) rfl (by kernel_rfl) (by kernel_rfl) (by kernel_rfl) (fun _ _ _ h => h) (Or.inl ⟨by rfl, ?_⟩) ?_
            rotate_left
            · (intro w; go_simp; try (with_reducible rfl))
            (try dsimp only); (try simp only [Act.put, List.setIfInBounds_toArray, List.set_cons_zero, List.set_cons_succ])
            refine wpAny_take (i := 3) (oi := ⟨some 95, _, _, _, _, _⟩) (v := undef) rfl (by kernel_rfl) (by kernel_rfl) (by kernel_rfl) (fun _ _ _ h => h) (Or.inr ⟨by rfl, rfl⟩) ?_
            (try dsimp only); (try simp only [Act.put, List.setIfInBounds_toArray, List.set_cons_zero, List.set_cons_succ])
            refine wpAny_take (i := 4) (oi := ⟨some 96, _, _, _, _, _⟩) (v := undef) rfl (by kernel_rfl) (by kernel_rfl) (by kernel_rfl) (fun _ _ _ h => h) (Or.inr ⟨by rfl, rfl⟩) ?_
            (try dsimp only); (try simp only [Act.put, List.setIfInBounds_toArray, List.set_cons_zero, List.set_cons_succ])
            refine wpAny_take (i := 5) (oi := ⟨some 97, _, _, _, _, _⟩) (v := ?_) rfl (by kernel_rfl) (by kernel_rfl) (by kernel_rfl) (fun _ _ _ h => h) (Or.inl ⟨by rfl, ?_⟩) ?_
            rotate_left
            · (intro w; go_simp; try (with_reducible rfl))
            (try dsimp only); (try simp only [Act.put, List.setIfInBounds_toArray, List.set_cons_zero, List.set_cons_succ])
            refine wpAny_ready (rs := [6]) (by kernel_rfl) (by simp) ?_
            refine AllReady.cons (o := ⟨none, _, _, _, _, _⟩) rfl (fun K hK => ?_) AllReady.nil
            · refine step_store_tx rfl _ _ rfl rfl rfl HBT.out.drew rfl ?_
              intro W6 hS6
              refine hK _ _ ?_
              clear hK K
              (try dsimp only); (try simp only [Act.put, List.setIfInBounds_toArray, List.set_cons_zero, List.set_cons_succ])
              exact key W6 hS6
        · go_simp
          refine hK _ _ ?_
          clear hK K
          (try dsimp only); (try simp only [Act.put, List.setIfInBounds_toArray, List.set_cons_zero, List.set_cons_succ])
          refine wpAny_take (i := 2) (oi := ⟨some 94, _, _, _, _, _⟩) (v := ?_) rfl (by kernel_rfl) (by kernel_rfl) (by kernel_rfl) (fun _ _ _ h => h) (Or.inl ⟨by rfl, ?_⟩) ?_
          rotate_left
          · (intro w; go_simp; try (with_reducible rfl))
          (try dsimp only); (try simp only [Act.put, List.setIfInBounds_toArray, List.set_cons_zero, List.set_cons_succ])
          refine wpAny_take (i := 3) (oi := ⟨some 95, _, _, _, _, _⟩) (v := undef) rfl (by kernel_rfl) (by kernel_rfl) (by kernel_rfl) (fun _ _ _ h => h) (Or.inr ⟨by rfl, rfl⟩) ?_
          (try dsimp only); (try simp only [Act.put, List.setIfInBounds_toArray, List.set_cons_zero, List.set_cons_succ])
          refine wpAny_take (i := 4) (oi := ⟨some 96, _, _, _, _, _⟩) (v := undef) rfl (by kernel_rfl) (by kernel_rfl) (by kernel_rfl) (fun _ _ _ h => h) (Or.inr ⟨by rfl, rfl⟩) ?_
          (try dsimp only); (try simp only [Act.put, List.setIfInBounds_toArray, List.set_cons_zero, List.set_cons_succ])
          refine wpAny_take (i := 5) (oi := ⟨some 97, _, _, _, _, _⟩) (v := ?_) rfl (by kernel_rfl) (by kernel_rfl) (by kernel_rfl) (fun _ _ _ h => h) (Or.inl ⟨by rfl, ?_⟩) ?_
          rotate_left
          · (intro w; go_simp; try (with_reducible rfl))
          (try dsimp only); (try simp only [Act.put, List.setIfInBounds_toArray, List.set_cons_zero, List.set_cons_succ])
          refine wpAny_ready (rs := [0]) (by kernel_rfl) (by simp) ?_
          refine AllReady.cons (o := ⟨some 92, _, _, _, _, _⟩) rfl (fun K hK => ?_) AllReady.nil
          · refine step_load_tx rfl _ rfl rfl HBT.out.drew ?_
            refine hK _ _ ?_
            clear hK K
            (try dsimp only); (try simp only [Act.put, List.setIfInBounds_toArray, List.set_cons_zero, List.set_cons_succ])
            refine wpAny_ready (rs := [6]) (by kernel_rfl) (by simp) ?_
            refine AllReady.cons (o := ⟨none, _, _, _, _, _⟩) rfl (fun K hK => ?_) AllReady.nil
            · refine step_store_tx rfl _ _ rfl rfl rfl HBT.out.drew rfl ?_
              intro W6 hS6
              refine hK _ _ ?_
              clear hK K
              (try dsimp only); (try simp only [Act.put, List.setIfInBounds_toArray, List.set_cons_zero, List.set_cons_succ])
              exact key W6 hS6
      case pf =>
        intro W6 hS6
        have bO6 := hS6.other HBO.out.drew (by omega)
        have q0 := bO6.cell 0
        have qf0 := bO6.frozen 0
        have ql := bO6.lt
        simp only [List.getElem?_toArray, List.getElem?_cons_zero, List.getElem?_cons_succ] at q0
        refine wpAny_ready (rs := [7]) (by kernel_rfl) (by simp) ?_
        refine AllReady.cons (o := ⟨none, _, _, _, _, _⟩) rfl (fun K hK => ?_) AllReady.nil
        go_simp
        refine hK _ _ ?_
        clear hK K
        (try dsimp only); (try simp only [Act.put, List.setIfInBounds_toArray, List.set_cons_zero, List.set_cons_succ])
        refine wpAny_done (by kernel_rfl) ?_ _
        refine NoPanic.normal ?_
        go_wp2_with fail
        gi_wp2
        have hK7 : (W6.setCell ⟨X + 1 + 1, 0, none⟩ (.bool false)).heap[D]? = some (.deferred (some [])) := (Below.heap_setCell _ _ _ D (by show D ≠ X + 1 + 1; omega)).trans ((hS6.block D (by omega)).trans hDf)
        simp only [Exit.noGoto]
        refine ⟨by simp, .inl ⟨_, _, rfl, run_takeDeferred hK7, ?_⟩⟩
        have bT7 : Bk ((W6.setCell ⟨X + 1 + 1, 0, none⟩ (.bool false)).putObj D (.deferred none)) (X + 1) (txc T0 (.slice ua ul uc) (.slice va vl vc)) 30 := bk_put (hS6.bR.other (a := ⟨X + 1 + 1, 0, none⟩) (by simp <;> omega) _) hK7 rfl
        have bO7 : Bk ((W6.setCell ⟨X + 1 + 1, 0, none⟩ (.bool false)).putObj D (.deferred none)) (X + 1 + 1) #[.bool false] 4 := bk_put (bO6.set 0 _ rfl) hK7 rfl
        have s0 := bO7.cell 0
        simp only [List.getElem?_toArray, List.getElem?_cons_zero, List.getElem?_cons_succ] at s0
        have hld := run_loadVar_mid (P := Try.prog) ((W6.setCell ⟨X + 1 + 1, 0, none⟩ (.bool false)).putObj D (.deferred none)) (X + 1) 0 30 ((txc T0 (.slice ua ul uc) (.slice va vl vc))).toList _ (fun j x hx => by rw [Nat.zero_add, bT7.cell]; simpa using hx) Try.underlying30 rfl infoT
        have hbl : Below w.heap.size w ((W6.setCell ⟨X + 1 + 1, 0, none⟩ (.bool false)).putObj D (.deferred none)) := ((hS6.below _ _ (by have := HN.out.2; omega) HBel.out.drew).setCell (p := ⟨X + 1 + 1, 0, none⟩) (by have := HN.out.2; show _ ≤ X + 1 + 1; omega) _).trans (below_put _ _ (by have := HN.out.2; omega))
        refine ⟨.tuple #[.agg (txc T0 (.slice ua ul uc) (.slice va vl vc)), .bool false], ?_, ⟨_, _, _, by rw [HR.out], ⟨_, _, _, rfl⟩, ⟨_, _, _, rfl⟩, fun h => ?_⟩, hbl⟩
        · have hl2 : (loadVar 4 ⟨X + 1 + 1, 0, none⟩).run Try.prog ((W6.setCell ⟨X + 1 + 1, 0, none⟩ (.bool false)).putObj D (.deferred none)) = .ok (.bool false) ((W6.setCell ⟨X + 1 + 1, 0, none⟩ (.bool false)).putObj D (.deferred none)) := by simp [go_sem, s0]
          simp only [results, Try.f38, Act.put]
          simp [asAddr, hld, hl2]
        · rw [HR.out] at h; cases h
    | true =>
      have hq9 : ((kx : Int) == 9) = false := by
        rw [beq_eq_false_iff_ne]
        rcases hbk with h | h
        · cases h
        · omega
      clear hbk
      gi_wp2
      refine wpIn_wide.2 ?_
      refine wp_region_noPanic ?_
      refine wp_region_any (by kernel_rfl) ?_
      (try (change wpAny _ _ _ _ _ _ _ (World.drew _)))
      refine (@id ((∀ W6, Stored W.drew W6 (X + 1) (txc T0 (.slice ua ul uc) (.slice va vl vc)) 30 → (?T5 : World → Prop) W6) → _) (fun key => ?main)) ?pf
      case main =>
        refine wpAny_ready (rs := [0, 1]) (by kernel_rfl) (by simp) ?_
        refine AllReady.cons (o := ⟨some 92, _, _, _, _, _⟩) rfl (fun K hK => ?_) (AllReady.cons (o := ⟨some 93, _, _, _, _, _⟩) rfl (fun K hK => ?_) AllReady.nil)
        · refine step_load_tx rfl _ rfl rfl HBT.out.drew ?_
          refine hK _ _ ?_
          clear hK K
          (try dsimp only); (try simp only [Act.put, List.setIfInBounds_toArray, List.set_cons_zero, List.set_cons_succ])
          refine wpAny_ready (rs := [1]) (by kernel_rfl) (by simp) ?_
          refine AllReady.cons (o := ⟨some 93, _, _, _, _, _⟩) rfl (fun K hK => ?_) AllReady.nil
          · go_simp
            refine hK _ _ ?_
            clear hK K
            (try dsimp only); (try simp only [Act.put, List.setIfInBounds_toArray, List.set_cons_zero, List.set_cons_succ])
            refine wpAny_take (i := 2) (oi := ⟨some 94, _, _, _, _, _⟩) (v := ?_) rfl (by kernel_rfl) (by kernel_rfl) (by kernel_rfl) (fun _ _ _ h => h) (Or.inl ⟨by rfl, ?_⟩) ?_
            rotate_left
            · (intro w; go_simp; try (with_reducible rfl))
            (try dsimp only); (try simp only [Act.put, List.setIfInBounds_toArray, List.set_cons_zero, List.set_cons_succ])
            refine wpAny_ready (rs := [3, 6]) (by kernel_rfl) (by simp) ?_
            refine AllReady.cons (o := ⟨some 95, _, _, _, _, _⟩) rfl (fun K hK => ?_) (AllReady.cons (o := ⟨none, _, _, _, _, _⟩) rfl (fun K hK => ?_) AllReady.nil)
            · go_simp
              refine hK _ _ ?_
              clear hK K
              (try dsimp only); (try simp only [Act.put, List.setIfInBounds_toArray, List.set_cons_zero, List.set_cons_succ])
              refine wpAny_take (i := 4) (oi := ⟨some 96, _, _, _, _, _⟩) (v := ?_) rfl (by kernel_rfl) (by kernel_rfl) (by kernel_rfl) (fun _ _ _ h => h) (Or.inl ⟨by rfl, ?_⟩) ?_
              rotate_left
              · (intro w; go_simp; try (with_reducible rfl))
              (try dsimp only); (try simp only [Act.put, List.setIfInBounds_toArray, List.set_cons_zero, List.set_cons_succ])
              refine wpAny_take (i := 5) (oi := ⟨some 97, _, _, _, _, _⟩) (v := ?_) rfl (by kernel_rfl) (by kernel_rfl) (by kernel_rfl) (fun _ _ _ h => h) (Or.inl ⟨by rfl, ?_⟩) ?_
              rotate_left
              · (intro w; go_simp; try (with_reducible rfl))
              (try dsimp only); (try simp only [Act.put, List.setIfInBounds_toArray, List.set_cons_zero, List.set_cons_succ])
              refine wpAny_ready (rs := [6]) (by kernel_rfl) (by simp) ?_
              refine AllReady.cons (o := ⟨none, _, _, _, _, _⟩) rfl (fun K hK => ?_) AllReady.nil
              · refine step_store_tx rfl _ _ rfl rfl rfl HBT.out.drew rfl ?_
                intro W6 hS6
                refine hK _ _ ?_
                clear hK K
                (try dsimp only); (try simp only [Act.put, List.setIfInBounds_toArray, List.set_cons_zero, List.set_cons_succ])
                exact key W6 hS6
            · refine step_store_tx rfl _ _ rfl rfl rfl HBT.out.drew rfl ?_
              intro W6 hS6
              refine hK _ _ ?_
              clear hK K
              (try dsimp only); (try simp only [Act.put, List.setIfInBounds_toArray, List.set_cons_zero, List.set_cons_succ])
              have bK6 := hS6.other HBK.out.drew (by omega)
              have k6 := bK6.cell 0
              simp only [List.getElem?_toArray, List.getElem?_cons_zero, List.getElem?_cons_succ] at k6
              clear bK6
              refine wpAny_ready (rs := [3]) (by kernel_rfl) (by simp) ?_
              refine AllReady.cons (o := ⟨some 95, _, _, _, _, _⟩) rfl (fun K hK => ?_) AllReady.nil
              · go_simp
                refine hK _ _ ?_
                clear hK K
                (try dsimp only); (try simp only [Act.put, List.setIfInBounds_toArray, List.set_cons_zero, List.set_cons_succ])
                refine wpAny_take (i := 4) (oi := ⟨some 96, _, _, _, _, _⟩) (v := ?_) rfl (by kernel_rfl) (by kernel_rfl) (by kernel_rfl) (fun _ _ _ h => h) (Or.inl ⟨by rfl, ?_⟩) ?_
                rotate_left
                · (intro w; go_simp; try (with_reducible rfl))
                (try dsimp only); (try simp only [Act.put, List.setIfInBounds_toArray, List.set_cons_zero, List.set_cons_succ])
                refine wpAny_take (i := 5) (oi := ⟨some 97, _, _, _, _, _⟩) (v := ?_) rfl (by kernel_rfl) (by kernel_rfl) (by kernel_rfl) (fun _ _ _ h => h) (Or.inl ⟨by rfl, ?_⟩) ?_
                rotate_left
                · (intro w; go_simp; try (with_reducible rfl))
                (try dsimp only); (try simp only [Act.put, List.setIfInBounds_toArray, List.set_cons_zero, List.set_cons_succ])
                exact key W6 hS6
        · go_simp
          refine hK _ _ ?_
          clear hK K
          (try dsimp only); (try simp only [Act.put, List.setIfInBounds_toArray, List.set_cons_zero, List.set_cons_succ])
          refine wpAny_take (i := 2) (oi := ⟨some 94, _, _, _, _, _⟩) (v := ?_) rfl (by kernel_rfl) (by kernel_rfl) (by kernel_rfl) (fun _ _ _ h => h) (Or.inl ⟨by rfl, ?_⟩) ?_
          rotate_left
          · (intro w; go_simp; try (with_reducible rfl))
          (try dsimp only); (try simp only [Act.put, List.setIfInBounds_toArray, List.set_cons_zero, List.set_cons_succ])
          refine wpAny_ready (rs := [0, 3]) (by kernel_rfl) (by simp) ?_
          refine AllReady.cons (o := ⟨some 92, _, _, _, _, _⟩) rfl (fun K hK => ?_) (AllReady.cons (o := ⟨some 95, _, _, _, _, _⟩) rfl (fun K hK => ?_) AllReady.nil)
          · refine step_load_tx rfl _ rfl rfl HBT.out.drew ?_
            refine hK _ _ ?_
            clear hK K
            (try dsimp only); (try simp only [Act.put, List.setIfInBounds_toArray, List.set_cons_zero, List.set_cons_succ])
            refine wpAny_ready (rs := [3, 6]) (by kernel_rfl) (by simp) ?_
            refine AllReady.cons (o := ⟨some 95, _, _, _, _, _⟩) rfl (fun K hK => ?_) (AllReady.cons (o := ⟨none, _, _, _, _, _⟩) rfl (fun K hK => ?_) AllReady.nil)
            · go_simp
              refine hK _ _ ?_
              clear hK K
              (try dsimp only); (try simp only [Act.put, List.setIfInBounds_toArray, List.set_cons_zero, List.set_cons_succ])
              refine wpAny_take (i := 4) (oi := ⟨some 96, _, _, _, _, _⟩) (v := ?_) rfl (by kernel_rfl) (by kernel_rfl) (by kernel_rfl) (fun _ _ _ h => h) (Or.inl ⟨by rfl, ?_⟩) ?_
              rotate_left
              · (intro w; go_simp; try (with_reducible rfl))
              (try dsimp only); (try simp only [Act.put, List.setIfInBounds_toArray, List.set_cons_zero, List.set_cons_succ])
              refine wpAny_take (i := 5) (oi := ⟨some 97, _, _, _, _, _⟩) (v := ?_) rfl (by kernel_rfl) (by kernel_rfl) (by kernel_rfl) (fun _ _ _ h => h) (Or.inl ⟨by rfl, ?_⟩) ?_
              rotate_left
              · (intro w; go_simp; try (with_reducible rfl))
              (try dsimp only); (try simp only [Act.put, List.setIfInBounds_toArray, List.set_cons_zero, List.set_cons_succ])
              refine wpAny_ready (rs := [6]) (by kernel_rfl) (by simp) ?_
              refine AllReady.cons (o := ⟨none, _, _, _, _, _⟩) rfl (fun K hK => ?_) AllReady.nil
              · refine step_store_tx rfl _ _ rfl rfl rfl HBT.out.drew rfl ?_
                intro W6 hS6
                refine hK _ _ ?_
                clear hK K
                (try dsimp only); (try simp only [Act.put, List.setIfInBounds_toArray, List.set_cons_zero, List.set_cons_succ])
                exact key W6 hS6
            · refine step_store_tx rfl _ _ rfl rfl rfl HBT.out.drew rfl ?_
              intro W6 hS6
              refine hK _ _ ?_
              clear hK K
              (try dsimp only); (try simp only [Act.put, List.setIfInBounds_toArray, List.set_cons_zero, List.set_cons_succ])
              have bK6 := hS6.other HBK.out.drew (by omega)
              have k6 := bK6.cell 0
              simp only [List.getElem?_toArray, List.getElem?_cons_zero, List.getElem?_cons_succ] at k6
              clear bK6
              refine wpAny_ready (rs := [3]) (by kernel_rfl) (by simp) ?_
              refine AllReady.cons (o := ⟨some 95, _, _, _, _, _⟩) rfl (fun K hK => ?_) AllReady.nil
              · go_simp
                refine hK _ _ ?_
                clear hK K
                (try dsimp only); (try simp only [Act.put, List.setIfInBounds_toArray, List.set_cons_zero, List.set_cons_succ])
                refine wpAny_take (i := 4) (oi := ⟨some 96, _, _, _, _, _⟩) (v := ?_) rfl (by kernel_rfl) (by kernel_rfl) (by kernel_rfl) (fun _ _ _ h => h) (Or.inl ⟨by rfl, ?_⟩) ?_
                rotate_left
                · (intro w; go_simp; try (with_reducible rfl))
                (try dsimp only); (try simp only [Act.put, List.setIfInBounds_toArray, List.set_cons_zero, List.set_cons_succ])
                refine wpAny_take (i := 5) (oi := ⟨some 97, _, _, _, _, _⟩) (v := ?_) rfl (by kernel_rfl) (by kernel_rfl) (by kernel_rfl) (fun _ _ _ h => h) (Or.inl ⟨by rfl, ?_⟩) ?_
                rotate_left
                · (intro w; go_simp; try (with_reducible rfl))
                (try dsimp only); (try simp only [Act.put, List.setIfInBounds_toArray, List.set_cons_zero, List.set_cons_succ])
                exact key W6 hS6
          · go_simp
            refine hK _ _ ?_
            clear hK K
            (try dsimp only); (try simp only [Act.put, List.setIfInBounds_toArray, List.set_cons_zero, List.set_cons_succ])
            refine wpAny_take (i := 4) (oi := ⟨some 96, _, _, _, _, _⟩) (v := ?_) rfl (by kernel_rfl) (by kernel_rfl) (by kernel_rfl) (fun _ _ _ h => h) (Or.inl ⟨by rfl, ?_⟩) ?_
            rotate_left
            · (intro w; go_simp; try (with_reducible rfl))
            (try dsimp only); (try simp only [Act.put, List.setIfInBounds_toArray, List.set_cons_zero, List.set_cons_succ])
            refine wpAny_take (i := 5) (oi := ⟨some 97, _, _, _, _, _⟩) (v := ?_) rfl (by kernel_rfl) (by kernel_rfl) (by kernel_rfl) (fun _ _ _ h => h) (Or.inl ⟨by rfl, ?_⟩) ?_
            rotate_left
            · (intro w; go_simp; try (with_reducible rfl))
            (try dsimp only); (try simp only [Act.put, List.setIfInBounds_toArray, List.set_cons_zero, List.set_cons_succ])
            refine wpAny_ready (rs := [0]) (by kernel_rfl) (by simp) ?_
            refine AllReady.cons (o := ⟨some 92, _, _, _, _, _⟩) rfl (fun K hK => ?_) AllReady.nil
            · refine step_load_tx rfl _ rfl rfl HBT.out.drew ?_
              refine hK _ _ ?_
              clear hK K
              (try dsimp only); (try simp only [Act.put, List.setIfInBounds_toArray, List.set_cons_zero, List.set_cons_succ])
              refine wpAny_ready (rs := [6]) (by kernel_rfl) (by simp) ?_
              refine AllReady.cons (o := ⟨none, _, _, _, _, _⟩) rfl (fun K hK => ?_) AllReady.nil
              · refine step_store_tx rfl _ _ rfl rfl rfl HBT.out.drew rfl ?_
                intro W6 hS6
                refine hK _ _ ?_
                clear hK K
                (try dsimp only); (try simp only [Act.put, List.setIfInBounds_toArray, List.set_cons_zero, List.set_cons_succ])
                exact key W6 hS6
      case pf =>
        intro W6 hS6
        have bO6 := hS6.other HBO.out.drew (by omega)
        have q0 := bO6.cell 0
        have qf0 := bO6.frozen 0
        have ql := bO6.lt
        simp only [List.getElem?_toArray, List.getElem?_cons_zero, List.getElem?_cons_succ] at q0
        refine wpAny_ready (rs := [7]) (by kernel_rfl) (by simp) ?_
        refine AllReady.cons (o := ⟨none, _, _, _, _, _⟩) rfl (fun K hK => ?_) AllReady.nil
        go_simp
        refine hK _ _ ?_
        clear hK K
        (try dsimp only); (try simp only [Act.put, List.setIfInBounds_toArray, List.set_cons_zero, List.set_cons_succ])
        refine wpAny_done (by kernel_rfl) ?_ _
        refine NoPanic.normal ?_
        go_wp2_with fail
        gi_wp2
        have hK7 : (W6.setCell ⟨X + 1 + 1, 0, none⟩ (.bool false)).heap[D]? = some (.deferred (some [])) := (Below.heap_setCell _ _ _ D (by show D ≠ X + 1 + 1; omega)).trans ((hS6.block D (by omega)).trans hDf)
        simp only [Exit.noGoto]
        refine ⟨by simp, .inl ⟨_, _, rfl, run_takeDeferred hK7, ?_⟩⟩
        have bT7 : Bk ((W6.setCell ⟨X + 1 + 1, 0, none⟩ (.bool false)).putObj D (.deferred none)) (X + 1) (txc T0 (.slice ua ul uc) (.slice va vl vc)) 30 := bk_put (hS6.bR.other (a := ⟨X + 1 + 1, 0, none⟩) (by simp <;> omega) _) hK7 rfl
        have bO7 : Bk ((W6.setCell ⟨X + 1 + 1, 0, none⟩ (.bool false)).putObj D (.deferred none)) (X + 1 + 1) #[.bool false] 4 := bk_put (bO6.set 0 _ rfl) hK7 rfl
        have s0 := bO7.cell 0
        simp only [List.getElem?_toArray, List.getElem?_cons_zero, List.getElem?_cons_succ] at s0
        have hld := run_loadVar_mid (P := Try.prog) ((W6.setCell ⟨X + 1 + 1, 0, none⟩ (.bool false)).putObj D (.deferred none)) (X + 1) 0 30 ((txc T0 (.slice ua ul uc) (.slice va vl vc))).toList _ (fun j x hx => by rw [Nat.zero_add, bT7.cell]; simpa using hx) Try.underlying30 rfl infoT
        have hbl : Below w.heap.size w ((W6.setCell ⟨X + 1 + 1, 0, none⟩ (.bool false)).putObj D (.deferred none)) := ((hS6.below _ _ (by have := HN.out.2; omega) HBel.out.drew).setCell (p := ⟨X + 1 + 1, 0, none⟩) (by have := HN.out.2; show _ ≤ X + 1 + 1; omega) _).trans (below_put _ _ (by have := HN.out.2; omega))
        refine ⟨.tuple #[.agg (txc T0 (.slice ua ul uc) (.slice va vl vc)), .bool false], ?_, ⟨_, _, _, by rw [HR.out], ⟨_, _, _, rfl⟩, ⟨_, _, _, rfl⟩, fun h => ?_⟩, hbl⟩
        · have hl2 : (loadVar 4 ⟨X + 1 + 1, 0, none⟩).run Try.prog ((W6.setCell ⟨X + 1 + 1, 0, none⟩ (.bool false)).putObj D (.deferred none)) = .ok (.bool false) ((W6.setCell ⟨X + 1 + 1, 0, none⟩ (.bool false)).putObj D (.deferred none)) := by simp [go_sem, s0]
          simp only [results, Try.f38, Act.put]
          simp [asAddr, hld, hl2]
        · rw [HR.out] at h; cases h

end Go.Proofs.Ytapjonmgjccpbaa

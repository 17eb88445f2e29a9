import Derived.Test.YtapjonmgjccpbaaJ8
import Derived.Test.YtapjonmgjccpbaaJ0
set_option linter.unusedSimpArgs false
set_option linter.unusedVariables false
set_option maxRecDepth 100000
namespace Go.Proofs.Ytapjonmgjccpbaa
open Go.RowKit Go.Shelf
attribute [local go_sem] Oper.semAt_some

/-! tx.takeBlob, tx.takeList. -/
theorem takeBlob (s : ByteArray) (w : World) : Calls Try.prog 72 #[.string s] w fun e w' => e = .returned (.tuple #[.string s, .bool true]) ∧ Below w.heap.size w w' := by
  go_enter Try.func72, Try.ntmps72
  go_wp2
  refine bodyPost_ret (v := .tuple #[.string s, .bool true]) ?_ rfl ⟨rfl, Below.refl _ _⟩
  simp [results, Try.results72, go_sem]
/-- Behind a round that took one more. -/
theorem tl_end {β : Type} {e ty : TypeId} {c : β → Value} {w W w2 w4 : World} {X N : Nat} {v v' : Value} {l : List β} {y : β} (o : Obj) (bV : Bk W (X + 1 + 1) #[v] ty) (hO : Or e c W N v l) (hb2 : Below W.heap.size W w2)
    (hown : w4.ownsRow N e 1 v' (l.length + 1) (l.map c ++ [c y])) (hgr : (w2.alloc o).grownBy w4 v.ownBlock) (hX : w.heap.size ≤ X) (hN : X + 4 + 2 ≤ N) (hB : Below w.heap.size w W) (hsz : N ≤ W.heap.size) :
    (∀ N', KeepsFrom N' W (w4.setCell ⟨X + 1 + 1, 0, none⟩ v')) ∧ KpL N (X + 1 + 1) (X + 1 + 1 + 1) W (w4.setCell ⟨X + 1 + 1, 0, none⟩ v') ∧ Or e c (w4.setCell ⟨X + 1 + 1, 0, none⟩ v') N v' (l ++ [y]) ∧ Bk (w4.setCell ⟨X + 1 + 1, 0, none⟩ v') (X + 1 + 1) #[v'] ty ∧
    (∀ b vs t, b < N → b ≠ X + 1 + 1 → Bk W b vs t → Bk (w4.setCell ⟨X + 1 + 1, 0, none⟩ v') b vs t) ∧ Below w.heap.size w (w4.setCell ⟨X + 1 + 1, 0, none⟩ v') ∧ N ≤ (w4.setCell ⟨X + 1 + 1, 0, none⟩ v').heap.size := by
  have hs2 := hb2.size
  have hrow : ∀ q, v.ownBlock = some q → N ≤ q ∧ q < W.heap.size := fun q hq => hO.ge hq
  have hblk : ∀ b, b < W.heap.size → some b ≠ v.ownBlock → w4.heap[b]? = W.heap[b]? := fun b h1 h2 => (hgr.block b (by simp; omega) h2).trans ((Below.heap_alloc w2 o b (by omega)).trans (hb2.block b h1))
  have hbk : ∀ b vs t, b < N → Bk W b vs t → Bk w4 b vs t := fun b vs t h1 h2 => (hblk b (by omega) (fun e => by have := (hrow b e.symm).1; omega)).trans h2
  have hz4 : W.heap.size ≤ w4.heap.size := by have := hgr.size; simp at this; omega
  have hB2 : Below w.heap.size w (w2.alloc o) := (hB.trans (hb2.mono hB.size)).alloc (Nat.le_trans hB.size hs2) o
  refine ⟨fun N' => ⟨by simp; exact hz4, fun k ob _ hk hnc => ?_⟩, fun b vs t h0 h1 _ h => (hbk b vs t h0 h).other (by simpa using h1) _, ?_, (hbk _ _ _ (by omega) bV).set 0 _ rfl, fun b vs t h0 h1 h => (hbk b vs t h0 h).other (by simpa using h1) _, ?_, by simp; omega⟩
  · have hkl : k < W.heap.size := (Array.getElem?_eq_some_iff.1 hk).1
    have hkV : k ≠ X + 1 + 1 := by
      intro e; subst e
      rw [show W.heap[X + 1 + 1]? = _ from bV] at hk
      simp at hk; subst hk; simp [Obj.isCells] at hnc
    have hkr : some k ≠ v.ownBlock := by
      intro e
      rcases hO.2 with ⟨h', _⟩ | ⟨g', cap', cur, h', _, hh, _⟩
      · rw [h'] at e; simp [Value.ownBlock] at e
      · rw [h'] at e; simp [Value.ownBlock] at e; subst e
        rw [hh] at hk; simp at hk; subst hk; simp [Obj.isCells] at hnc
    exact (Below.heap_setCell w4 _ _ k (by simpa using hkV)).trans ((hblk k hkl hkr).trans hk)
  · have h4 : Or e c w4 N v' (l ++ [y]) := by
      unfold Or
      rw [List.map_append, List.length_append]
      exact hown
    refine h4.other _ _ ?_
    cases hv : v'.ownBlock with
    | none => exact .inl rfl
    | some q => exact .inr (fun e => by have := (World.ownsRow.lt hown q hv).1; simp at e; omega)
  · exact (hB2.trans (grown_below hgr hB2.size (fun q hq => by have := (hrow q hq).1; omega))).setCell (p := ⟨X + 1 + 1, 0, none⟩) (by show _ ≤ X + 1 + 1; omega) _
def gdU (y : IT) : Bool := !y.list && (y.text.size == 8)
def lsU (a : IT) : Bool := a.list && a.items.all gdU
/-- What its rounds keep. -/
structure TIU (w W : World) (X N : Nat) (L : Bool) (pre : List EX) : Prop where
  row : ∃ v, Bk W (X + 1 + 1) #[v] 27 ∧ Or 24 cU W N v (pre.map fun x => mtV x.it.text)
  ok : Bk W (X + 1 + 1 + 1) #[.bool L] 4
  fn : Bk W (X + 1) #[(.func (.func 70) #[] #[])] 80
  gd : ∀ x ∈ pre, gdU x.it = true
  bel : Below w.heap.size w W
  sz : N ≤ W.heap.size
structure TBU (w W : World) (X : Nat) (pre : List EX) : Prop where
  row : ∃ ad l c, Bk W (X + 1 + 1) #[.slice ad l c] 27
  ok : Bk W (X + 1 + 1 + 1) #[.bool false] 4
  bad : ∃ x ∈ pre, gdU x.it = false
  bel : Below w.heap.size w W
theorem TIU.below {w A B : World} {X N : Nat} {L : Bool} {pre : List EX} (h : TIU w A X N L pre) (hb : Below A.heap.size A B) : TIU w B X N L pre := by
  obtain ⟨⟨v, h1, h2⟩, h3, h4, h5, h6, h7⟩ := h
  exact ⟨⟨v, h1.below hb h1.lt, h2.below' hb⟩, h3.below hb h3.lt, h4.below hb h4.lt, h5, h6.trans (hb.mono h6.size), Nat.le_trans h7 hb.size⟩
theorem TIU.put {w A : World} {X N l : Nat} {L : Bool} {pre : List EX} {o o' : Obj} (hi : TIU w A X N L pre) (hl : w.heap.size ≤ l) (h : A.heap[l]? = some o) (hc : o.isCells = false) : TIU w (A.putObj l o') X N L pre := by
  obtain ⟨⟨v, h1, h2⟩, h3, h4, h5, h6, h7⟩ := hi
  refine ⟨⟨v, bk_put h1 h hc, ?_⟩, bk_put h3 h hc, bk_put h4 h hc, h5, h6.trans (below_put _ _ hl), by simpa [World.putObj] using h7⟩
  refine ⟨h2.1, ?_⟩
  rcases h2.2 with q | ⟨g, cap, cur, rfl, q3, q4, q5⟩
  · exact .inl q
  · exact .inr ⟨g, cap, cur, rfl, q3, bk_put q4 h hc, q5⟩
theorem TBU.below {w A B : World} {X : Nat} {pre : List EX} (h : TBU w A X pre) (hb : Below A.heap.size A B) : TBU w B X pre := by
  obtain ⟨⟨ad, l, c, h1⟩, h3, h5, h6⟩ := h
  exact ⟨⟨ad, l, c, h1.below hb h1.lt⟩, h3.below hb h3.lt, h5, h6.trans (hb.mono h6.size)⟩
theorem TBU.put {w A : World} {X l : Nat} {pre : List EX} {o o' : Obj} (hi : TBU w A X pre) (hl : w.heap.size ≤ l) (h : A.heap[l]? = some o) (hc : o.isCells = false) : TBU w (A.putObj l o') X pre := by
  obtain ⟨⟨ad, ll, c, h1⟩, h3, h5, h6⟩ := hi
  exact ⟨⟨ad, ll, c, bk_put h1 h hc⟩, bk_put h3 h hc, h5, h6.trans (below_put _ _ hl)⟩
set_option maxHeartbeats 4000000 in
theorem takeListU (n : Nat) (a : IT) (ad : Option Addr) (l c : Nat) (w : World) (hr : Rd w (n + 1) a.items (.slice ad l c)) (hw : a.wt ≤ 1048576) :
    Calls Try.prog 69 #[.agg #[.bool a.list, .string a.text, .slice ad l c], (.func (.func 70) #[] #[])] w fun e w' => (∃ ad' l' c', e = .returned (.tuple #[.slice ad' l' c', .bool (lsU a)]) ∧ (lsU a = true → Or 24 cU w' w.heap.size (.slice ad' l' c') (a.items.map fun y => mtV y.text))) ∧ Below w.heap.size w w' := by
  have HE : Hid (∀ W, Below w.heap.size w W → Calls Try.prog 66 #[.agg #[.bool a.list, .string a.text, .slice ad l c]] W (EaQ (n + 1) a W)) := fun W hW => each4 (n + 1) a ad l c W (hr.below hW) (by omega)
  have HY : Hid (IT.wts (ysOf a) ≤ 1048576) := by
    show _ ≤ _
    obtain ⟨L, t, xs⟩ := a
    have hw : 1 + t.size + IT.wts xs ≤ 1048576 := hw
    cases L
    · simp [ysOf, IT.list, IT.wts]
    · show IT.wts xs ≤ _; omega
  have HT : Hid (∀ s : ByteArray, s.size ≤ 4611686018427387904 → ∀ w, Calls Try.prog 70 #[.string s] w fun e w' => e = .returned (.tuple #[cU (mtV s), .bool (s.size == 8)]) ∧ Below w.heap.size w w') := fun s hs w => mtake s hs w
  clear hr hw
  obtain ⟨X, hX⟩ : ∃ X, X = w.heap.size := ⟨_, rfl⟩
  obtain ⟨wr, hwr⟩ : ∃ wr, wr = (((w.alloc (.cells #[.bool a.list, .string a.text, .slice ad l c] 70)).alloc (.cells #[(.func (.func 70) #[] #[])] 80)).alloc (.cells #[.slice none 0 0] 27)).alloc (.cells #[.bool a.list] 4) := ⟨_, rfl⟩
  have HX : Hid (X = w.heap.size) := hX
  have bA : Bk wr X #[.bool a.list, .string a.text, .slice ad l c] 70 := by rw [hwr, hX]; exact (((Bk.new _ _ _).alloc _).alloc _).alloc _
  have bF : Bk wr (X + 1) #[(.func (.func 70) #[] #[])] 80 := by rw [hwr, hX]; exact ((Bk.new' _ _ _ (by simp)).alloc _).alloc _
  have bV : Bk wr (X + 1 + 1) #[.slice none 0 0] 27 := by rw [hwr, hX]; exact (Bk.new' _ _ _ (by simp)).alloc _
  have bO : Bk wr (X + 1 + 1 + 1) #[.bool a.list] 4 := by rw [hwr, hX]; exact Bk.new' _ _ _ (by simp)
  have hB : Below w.heap.size w wr := by rw [hwr]; exact ((((Below.refl _ _).alloc (Nat.le_refl _) _).alloc (by simp) _).alloc (by simp; omega) _).alloc (by simp; omega) _
  have hzr : wr.heap.size = X + 4 := by rw [hwr, hX]; simp
  have HWR : Hid (wr = (((w.alloc (.cells #[.bool a.list, .string a.text, .slice ad l c] 70)).alloc (.cells #[(.func (.func 70) #[] #[])] 80)).alloc (.cells #[.slice none 0 0] 27)).alloc (.cells #[.bool a.list] 4)) := hwr
  have HZ : Hid (wr.heap.size = X + 4) := hzr
  clear hwr hzr
  refine (callsIn_wide (n := 6)).1 ?_
  refine callsIn_of_wp_marks Try.func69 rfl trivial ?_ rfl
  simp only [Try.ntmps69, List.size_toArray, List.length_cons, List.length_nil, Nat.reduceAdd, Nat.reduceSub, Array.replicate_succ, Array.replicate_zero, List.push_toArray, List.append_toArray, List.nil_append, List.cons_append]
  gi_wp2
  refine wpIn_wide.2 (wp_scope_straight ((wpIn_wide (n := 6)).1 ?_))
  gi_wp2
  refine wpIn_label ?_
  rw [← hX, ← HWR.out]
  clear hX
  obtain ⟨x0, x1, x2⟩ := box_cells bA
  gi_wp2_with (refine ⟨trivial, ?_⟩; gi_at_call 66; refine (callsIn_wide.2 (HE.out _ hB)).mono ?_; rintro e w9 ⟨rfl, ⟨ad', l', c', bI, hrI⟩, hb9⟩)
  rw [HZ.out] at bI hrI hb9 ⊢
  generalize hys : ysOf a = ys at *
  have HYs : Hid (ysOf a = ys) := hys
  clear hys
  obtain ⟨N, hNe⟩ : ∃ N, N = w9.heap.size := ⟨_, rfl⟩
  have lI := bI.lt
  have hrI : RdP w9 (fun b => X + 4 + 2 ≤ b ∧ b < N) (n + 1) ys (.slice ad' l' c') := by
    have h1 := hrI.lt
    rw [← hNe] at h1
    exact h1
  have hl' : l' = ys.length := by
    obtain ⟨_, _, _, _, e2, -, -⟩ := hrI.at
    injection e2 with _ e2 _
  subst hl'
  have hy20 : ys.length ≤ 1048576 := Nat.le_trans (len_wts ys) HY.out
  have h0 : TIU w w9 X N a.list [] := ⟨⟨_, bV.below hb9 (by omega), Or.nil _ _ _ _⟩, bO.below hb9 (by omega), bF.below hb9 (by omega), (fun x hx => by cases hx), hB.trans (hb9.mono (by have := HX.out; omega)), by omega⟩
  have HN : Hid (X + 4 + 2 ≤ N ∧ w.heap.size = X) := ⟨by rw [hNe]; omega, HX.out.symm⟩
  have hNX : X + 4 + 2 ≤ N := HN.out.1
  have HWt : Hid (∀ x ∈ ys, x.text.size ≤ 1048576) := fun x hx => by
    obtain ⟨i, hi, rfl⟩ := List.getElem_of_mem hx
    have := wts_mem hi
    have h2 := HY.out
    have h3 : ys[i].text.size ≤ ys[i].wt := by cases ys[i]; simp only [IT.text, IT.wt]; omega
    omega
  clear bA bF bV bO hB hb9 x0 x1 x2 lI HE HWR HZ HX
  refine wpIn_rangeA rfl (by omega) (gf := 96) (lb := #[.pointer (some ⟨X + 4 + 1, 0, none⟩)]) rfl trivial (enters_of Try.func96 rfl rfl)
    (each1_seq _ n ys (X + 4 + 1) (X + 4 + 2) N (X + 1 + 1) (X + 1 + 1 + 1) ad' c' (by omega) w9 bI hrI (by omega) (by omega) (by omega) HY.out) KpL.trans (fun W l o o' _ h hc b vs t _ _ _ hb => bk_put hb h hc) (Below.refl _ _) (fun _ => rfl)
    (fun pre W => TIU w W X N a.list pre) (fun c pre W => c = .exit 0 ∧ TBU w W X pre) (fun s A B h hb => h.below hb) (fun c s A B h hb => ⟨h.1, h.2.below hb⟩) (fun s A l o o' hl h hc hi => hi.put (by have := HN.out.2; omega) h hc) (fun c s A l o o' hl h hc hi => ⟨hi.1, hi.2.put (by have := HN.out.2; omega) h hc⟩) h0
    (fun x a' W => ∃ Xi, a' = { tmps := #[.agg #[.bool a.list, .string a.text, .slice ad l c], (.func (.func 70) #[] #[]), .pointer (some ⟨X, 0, none⟩), .pointer (some ⟨X + 1, 0, none⟩), .slice none 0 0, .bool false, .pointer (some ⟨X + 1 + 1, 0, none⟩), .pointer (some ⟨X + 1 + 1 + 1, 0, none⟩), .pointer (some ⟨Xi, 0, none⟩), undef, undef, .pointer (some ⟨X, 0, none⟩), .bool a.list, .agg #[.bool a.list, .string a.text, .slice ad l c], (.func (.func 96) #[] #[.pointer (some ⟨X + 4 + 1, 0, none⟩)]), .agg #[.bool x.it.list, .string x.it.text, .slice x.ad x.l x.c], undef, undef, undef, undef, undef, undef, undef, undef, undef, undef, undef, undef, undef, undef, undef, undef, undef, undef, undef], defers := [] } ∧ N ≤ Xi ∧ Bk W Xi #[.bool x.it.list, .string x.it.text, .slice x.ad x.l x.c] 70 ∧ ∃ va k vc, Bk W (X + 1 + 1) #[.slice va k vc] 27 ∧ k < ys.length ∧ x.it.text.size ≤ 1048576)
    (fun x a' A l o o' _ h hc hx => by obtain ⟨Xi, h1, h2, h3, va, k, vc, h4, h5⟩ := hx; exact ⟨Xi, h1, h2, bk_put h3 h hc, va, k, vc, bk_put h4 h hc, h5⟩) ?assign ?body ?done ?stop
  case assign =>
    intro l pre x A0 W K hi0 hbA hgd hi hK
    simp only [xenc]
    gi_wp2
    have hb : Below W.heap.size W (W.alloc (.cells #[.bool x.it.list, .string x.it.text, .slice x.ad x.l x.c] 70)) := (Below.refl _ W).alloc (Nat.le_refl _) _
    obtain ⟨v, hv1, hv2⟩ := hi.row
    obtain ⟨va, vc, rfl, -⟩ := hv2.shape
    have hxm : x.it ∈ ys := by
      have h1 := hgd.2.2
      have : x.it ∈ (pre ++ [x]).map EX.it := by simp
      rw [h1] at this
      exact List.mem_of_mem_take this
    refine hK _ _ (kf_below hb) (fun b vs t _ _ _ h => h.alloc _) (hi.below hb) ⟨W.heap.size, rfl, hi.sz, Bk.new _ _ _, va, _, vc, hv1.alloc _, ?_, HWt.out _ hxm⟩
    have := hgd.2.1
    simpa using this
  case body =>
    rintro lr pre x a' W hi ⟨Xi, rfl, hXi, bXi, va', k', vc', bV', hk20, htz⟩
    obtain ⟨v, bV, hO⟩ := hi.row
    obtain rfl : v = .slice va' k' vc' := by
      have e := (show W.heap[X + 1 + 1]? = _ from bV).symm.trans bV'
      simpa using e
    have hlk : (pre.map fun x => mtV x.it.text).length = k' := by obtain ⟨_, _, e2, -⟩ := hO.shape; injection e2 with _ e2 _; exact e2.symm
    have HI : Hid (TIU w W X N a.list pre) := hi
    have HO : Hid (Or 24 cU W N (.slice va' k' vc') (pre.map fun x => mtV x.it.text)) := hO
    have HBV : Hid (Bk W (X + 1 + 1) #[.slice va' k' vc'] 27) := bV
    have HBX : Hid (Bk W Xi #[.bool x.it.list, .string x.it.text, .slice x.ad x.l x.c] 70) := bXi
    have f0 := hi.fn.cell 0
    have xi0 := bXi.cell 0
    have xi1 := bXi.cell 1
    simp only [List.getElem?_toArray, List.getElem?_cons_zero, List.getElem?_cons_succ] at f0 xi0 xi1
    obtain ⟨yv, hyv⟩ : ∃ yv, yv = mtV x.it.text := ⟨_, rfl⟩
    obtain ⟨fx, hfx⟩ : ∃ fx, fx = (x.it.text.size == 8) := ⟨_, rfl⟩
    have HTx : Hid (∀ w, Calls Try.prog 70 #[.string x.it.text] w fun e w' => e = .returned (.tuple #[cU yv, .bool fx]) ∧ Below w.heap.size w w') := fun w => by
      have := HT.out x.it.text (by omega) w
      rw [hyv, hfx]
      exact this
    have HG : Hid (gdU x.it = (!x.it.list && fx)) := by show _ = _; rw [hfx]; rfl
    have HYv : Hid (yv = mtV x.it.text) := hyv
    clear hyv hfx
    have lV := bV.lt
    have lO := hi.ok.lt
    have lXi := bXi.lt
    have HOwn : Hid (W.ownsRow N 24 1 (.slice va' k' vc') k' ((pre.map fun x => mtV x.it.text).map cU)) := by have h : W.ownsRow N _ 1 _ _ _ := hO; rw [hlk] at h; exact h
    obtain ⟨i0, hii, hz0, hz1, hz2⟩ := info_of infoU
    have HIn : Hid (Try.prog.info? 24 = some i0 ∧ i0.zero = some (.int .u64 0) ∧ i0.size = 1 ∧ i0.bytes = 8) := ⟨hii, hz0, hz1, hz2⟩
    have HLk : Hid ((pre.map fun x => mtV x.it.text).length = k') := hlk
    clear hi bV bV' bXi hO hlk hii hz0 hz1 hz2 h0 bI hrI
    generalize x.it.list = Lx at *
    generalize hTe : x.it.text = Tx at *
    have HTe : Hid (x.it.text = Tx) := hTe
    clear hTe
    have HC : Hid (∀ w2, Below W.heap.size W w2 → Bk w2 (X + 1 + 1) #[.slice va' k' vc'] 27 ∧ Bk w2 (X + 1 + 1 + 1) #[.bool a.list] 4 ∧ Bk w2 Xi #[.bool Lx, .string Tx, .slice x.ad x.l x.c] 70) := fun w2 hb => ⟨HBV.out.below hb lV, HI.out.ok.below hb lO, HBX.out.below hb lXi⟩
    have hbad : ∀ (w2 : World) (ac : Act), Below W.heap.size W w2 → gdU x.it = false → leftB w9.heap.size (KpL N (X + 1 + 1) (X + 1 + 1 + 1)) (fun pre W => TIU w W X N a.list pre) (fun c pre W => c = .exit 0 ∧ TBU w W X pre) (pre ++ [x]) W (.exit 0) ac (w2.setCell ⟨X + 1 + 1 + 1, 0, none⟩ (.bool false)) := fun w2 ac hb hgf => by
      refine ⟨(kf_below hb).trans ((KeepsOthers.setCell _ _ _).from _), rfl, ⟨va', k', vc', (HC.out w2 hb).1.other (by simp) _⟩, (HC.out w2 hb).2.1.set 0 _ rfl, ⟨x, by simp, hgf⟩, (HI.out.bel.trans (hb.mono HI.out.bel.size)).setCell (p := ⟨X + 1 + 1 + 1, 0, none⟩) (by have := HN.out.2; show _ ≤ X + 1 + 1 + 1; omega) _⟩
    have HBad : Hid (∀ (w2 : World) (ac : Act), Below W.heap.size W w2 → gdU x.it = false → leftB w9.heap.size (KpL N (X + 1 + 1) (X + 1 + 1 + 1)) (fun pre W => TIU w W X N a.list pre) (fun c pre W => c = .exit 0 ∧ TBU w W X pre) (pre ++ [x]) W (.exit 0) ac (w2.setCell ⟨X + 1 + 1 + 1, 0, none⟩ (.bool false))) := hbad
    clear hbad
    cases Lx with
    | true =>
      gi_wp2_with (refine ⟨trivial, ?_⟩; gi_at_call 70; refine (CallsIn.inRound lr (callsIn_wide.2 (HTx.out _))).mono ?_; rintro e w2 ⟨rfl, hb2⟩; obtain ⟨c1, c2, c3⟩ := HC.out w2 hb2; have v0 := c1.cell 0; have vf0 := c1.frozen 0; have o0 := c2.cell 0; have of0 := c2.frozen 0; have y0 := c3.cell 0; have lv2 := c1.lt; have lo2 := c2.lt; simp only [List.getElem?_toArray, List.getElem?_cons_zero, List.getElem?_cons_succ] at v0 o0 y0; clear c1 c2 c3)
      exact HBad.out w2 _ hb2 (by rw [HG.out]; rfl)
    | false =>
      cases fx with
      | false =>
        gi_wp2_with (refine ⟨trivial, ?_⟩; gi_at_call 70; refine (CallsIn.inRound lr (callsIn_wide.2 (HTx.out _))).mono ?_; rintro e w2 ⟨rfl, hb2⟩; obtain ⟨c1, c2, c3⟩ := HC.out w2 hb2; have v0 := c1.cell 0; have vf0 := c1.frozen 0; have o0 := c2.cell 0; have of0 := c2.frozen 0; have y0 := c3.cell 0; have lv2 := c1.lt; have lo2 := c2.lt; simp only [List.getElem?_toArray, List.getElem?_cons_zero, List.getElem?_cons_succ] at v0 o0 y0; clear c1 c2 c3)
        exact HBad.out w2 _ hb2 (by rw [HG.out]; rfl)
      | true =>
        gi_wp2_with (first
          | (refine ⟨trivial, ?_⟩; gi_at_call 70; refine (CallsIn.inRound lr (callsIn_wide.2 (HTx.out _))).mono ?_; rintro e w2 ⟨rfl, hb2⟩; obtain ⟨c1, c2, c3⟩ := HC.out w2 hb2; have v0 := c1.cell 0; have vf0 := c1.frozen 0; have o0 := c2.cell 0; have of0 := c2.frozen 0; have y0 := c3.cell 0; have lv2 := c1.lt; have lo2 := c2.lt; simp only [List.getElem?_toArray, List.getElem?_cons_zero, List.getElem?_cons_succ] at v0 o0 y0; clear c1 c2 c3)
          | (gi_at_builtin; refine wpListIn_append_own _ rfl _ _ 27 rfl N 24 i0 (.int .u64 0) 1 8 Try.underlying27 HIn.out.1 HIn.out.2.1 HIn.out.2.2.1 HIn.out.2.2.2 rfl (by decide) (.slice va' k' vc') k' _ rfl (by have h : w2.ownsRow N _ 1 _ _ _ := HO.out.below' hb2; rw [HLk.out] at h; exact h.alloc _) ⟨w2.heap.size, 0, none⟩ 1 1 [cU yv] rfl rfl (cell_one_new _ _ _) (by simp [Value.oneCell']) (by unfold maxLen; omega) (by omega) (by simp; have := HI.out.sz; have := hb2.size; omega) ?_; intro v4 w4 hown4 hgr4 _; obtain ⟨g4, cap4, hv4⟩ : ∃ g cap, v4 = Value.slice (some ⟨g, 0, none⟩) (k' + 1) cap := (by rcases hown4.2 with ⟨_, hz⟩ | ⟨g, cap, _, e, _⟩; (· exact absurd hz (by omega)); (· exact ⟨g, cap, e⟩)); subst hv4; have b4 := bk_grown ((HC.out w2 hb2).1.alloc (.cells #[cU yv] 24)) hgr4 (fun q hq => by have := (HO.out.ge hq).1; omega); have v40 := b4.cell 0; have vf40 := b4.frozen 0; have lv4 := b4.lt; simp only [List.getElem?_toArray, List.getElem?_cons_zero, List.getElem?_cons_succ] at v40; clear b4))
        have hown5 : w4.ownsRow N 24 1 (.slice (some ⟨g4, 0, none⟩) (k' + 1) cap4) ((pre.map fun x => mtV x.it.text).length + 1) ((pre.map fun x => mtV x.it.text).map cU ++ [cU yv]) := by rw [HLk.out]; exact hown4
        obtain ⟨q1, q2, q3, q4, q5, q6, q7⟩ := tl_end (w := w) (y := yv) _ HBV.out HO.out hb2 hown5 hgr4 (by have := HN.out.2; omega) hNX HI.out.bel HI.out.sz
        refine ⟨q1 _, q2, ⟨⟨_, q4, ?_⟩, q5 _ _ _ (by omega) (by omega) HI.out.ok, q5 _ _ _ (by omega) (by omega) HI.out.fn, fun z hz => ?_, q6, q7⟩⟩
        · rw [List.map_append]
          rw [HYv.out, ← HTe.out] at q3
          exact q3
        · rcases List.mem_append.1 hz with h | h
          · exact HI.out.gd z h
          · simp at h
            subst h
            rw [HG.out]; rfl
  case done =>
    rintro D xs W hD hS hi hK
    obtain ⟨v, bV, hO⟩ := hi.row
    obtain ⟨va, vc, rfl, -⟩ := hO.shape
    have v0 := bV.cell 0
    have o0 := hi.ok.cell 0
    simp only [List.getElem?_toArray, List.getElem?_cons_zero, List.getElem?_cons_succ] at v0 o0
    have hS : xs.map EX.it = ys := hS
    have hxm : (xs.map fun x => mtV x.it.text) = ys.map fun y => mtV y.text := by rw [← hS, List.map_map]; rfl
    have hgy : ∀ y ∈ ys, gdU y = true := fun y hy => by
      rw [← hS] at hy
      obtain ⟨x, hx, rfl⟩ := List.mem_map.1 hy
      exact hi.gd x hx
    have HR : Hid (lsU a = a.list ∧ (a.list = true → Or 24 cU W w.heap.size (.slice va (xs.map fun x => mtV x.it.text).length vc) (a.items.map fun y => mtV y.text))) := by
      have hyl : a.list = true → ys = a.items := fun h => by rw [← HYs.out, ysOf, if_pos h]
      refine ⟨?_, fun h => ?_⟩
      · unfold lsU
        cases hl : a.list
        · rfl
        · rw [List.all_eq_true.2 (by rw [← hyl hl]; exact hgy)]; rfl
      · rw [← hyl h, ← hxm]
        exact hO.based (by have := HN.out; omega)
    have HI : Hid (Below w.heap.size w W) := hi.bel
    clear hi bV hO hS hxm hgy bI hrI h0
    generalize (xs.map fun x => mtV x.it.text).length = kk at *
    generalize a.list = La at *
    gi_wp2
    refine wpIn_wide.2 ?_
    go_region
    all_goals
      gi_wp2
      have hKd : W.drew.heap[D]? = some (.deferred (some [])) := hK
      simp only [Exit.noGoto]
      refine ⟨by simp, .inl ⟨_, _, rfl, run_takeDeferred hKd, ?_⟩⟩
      refine ⟨.tuple #[.slice va kk vc, .bool La], ?_, ⟨va, kk, vc, by rw [HR.out.1], fun h => ?_⟩, HI.out.drew.trans (below_put _ _ (by have := HN.out; omega))⟩
      · simp [results, Try.f69, go_sem]
      · rw [HR.out.1] at h
        have h2 := HR.out.2 h
        refine ⟨h2.1, ?_⟩
        rcases h2.2 with q | ⟨g, cap, cur, e, q3, q4, q5⟩
        · exact .inl q
        · exact .inr ⟨g, cap, cur, e, q3, bk_put (show W.drew.heap[g]? = _ from q4) hKd rfl, q5⟩
  case stop =>
    rintro D c pre W hD hSp ⟨rfl, hi⟩ hK
    obtain ⟨va, kk, vc, bV⟩ := hi.row
    have v0 := bV.cell 0
    have o0 := hi.ok.cell 0
    simp only [List.getElem?_toArray, List.getElem?_cons_zero, List.getElem?_cons_succ] at v0 o0
    have HR : Hid (lsU a = false) := by
      obtain ⟨x, hx, hxb⟩ := hi.bad
      have hm : x.it ∈ ys := by
        have : x.it ∈ pre.map EX.it := List.mem_map_of_mem hx
        rw [hSp.2] at this
        exact List.mem_of_mem_take this
      show lsU a = false
      unfold lsU
      cases hl : a.list
      · rfl
      · rw [Bool.true_and, List.all_eq_false]
        refine ⟨x.it, ?_, by rw [hxb]; simp⟩
        rw [← HYs.out, ysOf, if_pos hl] at hm
        exact hm
    have HI : Hid (Below w.heap.size w W) := hi.bel
    clear hi bV bI hrI h0
    gi_wp2
    refine wpIn_wide.2 ?_
    go_region
    all_goals
      gi_wp2
      have hKd : W.drew.heap[D]? = some (.deferred (some [])) := hK
      simp only [Exit.noGoto]
      refine ⟨by simp, .inl ⟨_, _, rfl, run_takeDeferred hKd, ?_⟩⟩
      refine ⟨.tuple #[.slice va kk vc, .bool false], ?_, ⟨va, kk, vc, by rw [HR.out], fun h => by rw [HR.out] at h; cases h⟩, HI.out.drew.trans (below_put _ _ (by have := HN.out; omega))⟩
      simp [results, Try.f69, go_sem]
def gdS (y : IT) : Bool := !y.list && true
def lsS (a : IT) : Bool := a.list && a.items.all gdS
/-- What its rounds keep. -/
structure TIS (w W : World) (X N : Nat) (L : Bool) (pre : List EX) : Prop where
  row : ∃ v, Bk W (X + 1 + 1) #[v] 28 ∧ Or 9 cS W N v (pre.map fun x => x.it.text)
  ok : Bk W (X + 1 + 1 + 1) #[.bool L] 4
  fn : Bk W (X + 1) #[(.func (.func 72) #[] #[])] 119
  gd : ∀ x ∈ pre, gdS x.it = true
  bel : Below w.heap.size w W
  sz : N ≤ W.heap.size
structure TBS (w W : World) (X : Nat) (pre : List EX) : Prop where
  row : ∃ ad l c, Bk W (X + 1 + 1) #[.slice ad l c] 28
  ok : Bk W (X + 1 + 1 + 1) #[.bool false] 4
  bad : ∃ x ∈ pre, gdS x.it = false
  bel : Below w.heap.size w W
theorem TIS.below {w A B : World} {X N : Nat} {L : Bool} {pre : List EX} (h : TIS w A X N L pre) (hb : Below A.heap.size A B) : TIS w B X N L pre := by
  obtain ⟨⟨v, h1, h2⟩, h3, h4, h5, h6, h7⟩ := h
  exact ⟨⟨v, h1.below hb h1.lt, h2.below' hb⟩, h3.below hb h3.lt, h4.below hb h4.lt, h5, h6.trans (hb.mono h6.size), Nat.le_trans h7 hb.size⟩
theorem TIS.put {w A : World} {X N l : Nat} {L : Bool} {pre : List EX} {o o' : Obj} (hi : TIS w A X N L pre) (hl : w.heap.size ≤ l) (h : A.heap[l]? = some o) (hc : o.isCells = false) : TIS w (A.putObj l o') X N L pre := by
  obtain ⟨⟨v, h1, h2⟩, h3, h4, h5, h6, h7⟩ := hi
  refine ⟨⟨v, bk_put h1 h hc, ?_⟩, bk_put h3 h hc, bk_put h4 h hc, h5, h6.trans (below_put _ _ hl), by simpa [World.putObj] using h7⟩
  refine ⟨h2.1, ?_⟩
  rcases h2.2 with q | ⟨g, cap, cur, rfl, q3, q4, q5⟩
  · exact .inl q
  · exact .inr ⟨g, cap, cur, rfl, q3, bk_put q4 h hc, q5⟩
theorem TBS.below {w A B : World} {X : Nat} {pre : List EX} (h : TBS w A X pre) (hb : Below A.heap.size A B) : TBS w B X pre := by
  obtain ⟨⟨ad, l, c, h1⟩, h3, h5, h6⟩ := h
  exact ⟨⟨ad, l, c, h1.below hb h1.lt⟩, h3.below hb h3.lt, h5, h6.trans (hb.mono h6.size)⟩
theorem TBS.put {w A : World} {X l : Nat} {pre : List EX} {o o' : Obj} (hi : TBS w A X pre) (hl : w.heap.size ≤ l) (h : A.heap[l]? = some o) (hc : o.isCells = false) : TBS w (A.putObj l o') X pre := by
  obtain ⟨⟨ad, ll, c, h1⟩, h3, h5, h6⟩ := hi
  exact ⟨⟨ad, ll, c, bk_put h1 h hc⟩, bk_put h3 h hc, h5, h6.trans (below_put _ _ hl)⟩
set_option maxHeartbeats 4000000 in
theorem takeListS (n : Nat) (a : IT) (ad : Option Addr) (l c : Nat) (w : World) (hr : Rd w (n + 1) a.items (.slice ad l c)) (hw : a.wt ≤ 1048576) :
    Calls Try.prog 71 #[.agg #[.bool a.list, .string a.text, .slice ad l c], (.func (.func 72) #[] #[])] w fun e w' => (∃ ad' l' c', e = .returned (.tuple #[.slice ad' l' c', .bool (lsS a)]) ∧ (lsS a = true → Or 9 cS w' w.heap.size (.slice ad' l' c') (a.items.map fun y => y.text))) ∧ Below w.heap.size w w' := by
  have HE : Hid (∀ W, Below w.heap.size w W → Calls Try.prog 66 #[.agg #[.bool a.list, .string a.text, .slice ad l c]] W (EaQ (n + 1) a W)) := fun W hW => each4 (n + 1) a ad l c W (hr.below hW) (by omega)
  have HY : Hid (IT.wts (ysOf a) ≤ 1048576) := by
    show _ ≤ _
    obtain ⟨L, t, xs⟩ := a
    have hw : 1 + t.size + IT.wts xs ≤ 1048576 := hw
    cases L
    · simp [ysOf, IT.list, IT.wts]
    · show IT.wts xs ≤ _; omega
  have HT : Hid (∀ s : ByteArray, s.size ≤ 4611686018427387904 → ∀ w, Calls Try.prog 72 #[.string s] w fun e w' => e = .returned (.tuple #[cS s, .bool true]) ∧ Below w.heap.size w w') := fun s hs w => takeBlob s w
  clear hr hw
  obtain ⟨X, hX⟩ : ∃ X, X = w.heap.size := ⟨_, rfl⟩
  obtain ⟨wr, hwr⟩ : ∃ wr, wr = (((w.alloc (.cells #[.bool a.list, .string a.text, .slice ad l c] 70)).alloc (.cells #[(.func (.func 72) #[] #[])] 119)).alloc (.cells #[.slice none 0 0] 28)).alloc (.cells #[.bool a.list] 4) := ⟨_, rfl⟩
  have HX : Hid (X = w.heap.size) := hX
  have bA : Bk wr X #[.bool a.list, .string a.text, .slice ad l c] 70 := by rw [hwr, hX]; exact (((Bk.new _ _ _).alloc _).alloc _).alloc _
  have bF : Bk wr (X + 1) #[(.func (.func 72) #[] #[])] 119 := by rw [hwr, hX]; exact ((Bk.new' _ _ _ (by simp)).alloc _).alloc _
  have bV : Bk wr (X + 1 + 1) #[.slice none 0 0] 28 := by rw [hwr, hX]; exact (Bk.new' _ _ _ (by simp)).alloc _
  have bO : Bk wr (X + 1 + 1 + 1) #[.bool a.list] 4 := by rw [hwr, hX]; exact Bk.new' _ _ _ (by simp)
  have hB : Below w.heap.size w wr := by rw [hwr]; exact ((((Below.refl _ _).alloc (Nat.le_refl _) _).alloc (by simp) _).alloc (by simp; omega) _).alloc (by simp; omega) _
  have hzr : wr.heap.size = X + 4 := by rw [hwr, hX]; simp
  have HWR : Hid (wr = (((w.alloc (.cells #[.bool a.list, .string a.text, .slice ad l c] 70)).alloc (.cells #[(.func (.func 72) #[] #[])] 119)).alloc (.cells #[.slice none 0 0] 28)).alloc (.cells #[.bool a.list] 4)) := hwr
  have HZ : Hid (wr.heap.size = X + 4) := hzr
  clear hwr hzr
  refine (callsIn_wide (n := 6)).1 ?_
  refine callsIn_of_wp_marks Try.func71 rfl trivial ?_ rfl
  simp only [Try.ntmps71, List.size_toArray, List.length_cons, List.length_nil, Nat.reduceAdd, Nat.reduceSub, Array.replicate_succ, Array.replicate_zero, List.push_toArray, List.append_toArray, List.nil_append, List.cons_append]
  gi_wp2
  refine wpIn_wide.2 (wp_scope_straight ((wpIn_wide (n := 6)).1 ?_))
  gi_wp2
  refine wpIn_label ?_
  rw [← hX, ← HWR.out]
  clear hX
  obtain ⟨x0, x1, x2⟩ := box_cells bA
  gi_wp2_with (refine ⟨trivial, ?_⟩; gi_at_call 66; refine (callsIn_wide.2 (HE.out _ hB)).mono ?_; rintro e w9 ⟨rfl, ⟨ad', l', c', bI, hrI⟩, hb9⟩)
  rw [HZ.out] at bI hrI hb9 ⊢
  generalize hys : ysOf a = ys at *
  have HYs : Hid (ysOf a = ys) := hys
  clear hys
  obtain ⟨N, hNe⟩ : ∃ N, N = w9.heap.size := ⟨_, rfl⟩
  have lI := bI.lt
  have hrI : RdP w9 (fun b => X + 4 + 2 ≤ b ∧ b < N) (n + 1) ys (.slice ad' l' c') := by
    have h1 := hrI.lt
    rw [← hNe] at h1
    exact h1
  have hl' : l' = ys.length := by
    obtain ⟨_, _, _, _, e2, -, -⟩ := hrI.at
    injection e2 with _ e2 _
  subst hl'
  have hy20 : ys.length ≤ 1048576 := Nat.le_trans (len_wts ys) HY.out
  have h0 : TIS w w9 X N a.list [] := ⟨⟨_, bV.below hb9 (by omega), Or.nil _ _ _ _⟩, bO.below hb9 (by omega), bF.below hb9 (by omega), (fun x hx => by cases hx), hB.trans (hb9.mono (by have := HX.out; omega)), by omega⟩
  have HN : Hid (X + 4 + 2 ≤ N ∧ w.heap.size = X) := ⟨by rw [hNe]; omega, HX.out.symm⟩
  have hNX : X + 4 + 2 ≤ N := HN.out.1
  have HWt : Hid (∀ x ∈ ys, x.text.size ≤ 1048576) := fun x hx => by
    obtain ⟨i, hi, rfl⟩ := List.getElem_of_mem hx
    have := wts_mem hi
    have h2 := HY.out
    have h3 : ys[i].text.size ≤ ys[i].wt := by cases ys[i]; simp only [IT.text, IT.wt]; omega
    omega
  clear bA bF bV bO hB hb9 x0 x1 x2 lI HE HWR HZ HX
  refine wpIn_rangeA rfl (by omega) (gf := 96) (lb := #[.pointer (some ⟨X + 4 + 1, 0, none⟩)]) rfl trivial (enters_of Try.func96 rfl rfl)
    (each1_seq _ n ys (X + 4 + 1) (X + 4 + 2) N (X + 1 + 1) (X + 1 + 1 + 1) ad' c' (by omega) w9 bI hrI (by omega) (by omega) (by omega) HY.out) KpL.trans (fun W l o o' _ h hc b vs t _ _ _ hb => bk_put hb h hc) (Below.refl _ _) (fun _ => rfl)
    (fun pre W => TIS w W X N a.list pre) (fun c pre W => c = .exit 0 ∧ TBS w W X pre) (fun s A B h hb => h.below hb) (fun c s A B h hb => ⟨h.1, h.2.below hb⟩) (fun s A l o o' hl h hc hi => hi.put (by have := HN.out.2; omega) h hc) (fun c s A l o o' hl h hc hi => ⟨hi.1, hi.2.put (by have := HN.out.2; omega) h hc⟩) h0
    (fun x a' W => ∃ Xi, a' = { tmps := #[.agg #[.bool a.list, .string a.text, .slice ad l c], (.func (.func 72) #[] #[]), .pointer (some ⟨X, 0, none⟩), .pointer (some ⟨X + 1, 0, none⟩), .slice none 0 0, .bool false, .pointer (some ⟨X + 1 + 1, 0, none⟩), .pointer (some ⟨X + 1 + 1 + 1, 0, none⟩), .pointer (some ⟨Xi, 0, none⟩), undef, undef, .pointer (some ⟨X, 0, none⟩), .bool a.list, .agg #[.bool a.list, .string a.text, .slice ad l c], (.func (.func 96) #[] #[.pointer (some ⟨X + 4 + 1, 0, none⟩)]), .agg #[.bool x.it.list, .string x.it.text, .slice x.ad x.l x.c], undef, undef, undef, undef, undef, undef, undef, undef, undef, undef, undef, undef, undef, undef, undef, undef, undef, undef, undef], defers := [] } ∧ N ≤ Xi ∧ Bk W Xi #[.bool x.it.list, .string x.it.text, .slice x.ad x.l x.c] 70 ∧ ∃ va k vc, Bk W (X + 1 + 1) #[.slice va k vc] 28 ∧ k < ys.length ∧ x.it.text.size ≤ 1048576)
    (fun x a' A l o o' _ h hc hx => by obtain ⟨Xi, h1, h2, h3, va, k, vc, h4, h5⟩ := hx; exact ⟨Xi, h1, h2, bk_put h3 h hc, va, k, vc, bk_put h4 h hc, h5⟩) ?assign ?body ?done ?stop
  case assign =>
    intro l pre x A0 W K hi0 hbA hgd hi hK
    simp only [xenc]
    gi_wp2
    have hb : Below W.heap.size W (W.alloc (.cells #[.bool x.it.list, .string x.it.text, .slice x.ad x.l x.c] 70)) := (Below.refl _ W).alloc (Nat.le_refl _) _
    obtain ⟨v, hv1, hv2⟩ := hi.row
    obtain ⟨va, vc, rfl, -⟩ := hv2.shape
    have hxm : x.it ∈ ys := by
      have h1 := hgd.2.2
      have : x.it ∈ (pre ++ [x]).map EX.it := by simp
      rw [h1] at this
      exact List.mem_of_mem_take this
    refine hK _ _ (kf_below hb) (fun b vs t _ _ _ h => h.alloc _) (hi.below hb) ⟨W.heap.size, rfl, hi.sz, Bk.new _ _ _, va, _, vc, hv1.alloc _, ?_, HWt.out _ hxm⟩
    have := hgd.2.1
    simpa using this
  case body =>
    rintro lr pre x a' W hi ⟨Xi, rfl, hXi, bXi, va', k', vc', bV', hk20, htz⟩
    obtain ⟨v, bV, hO⟩ := hi.row
    obtain rfl : v = .slice va' k' vc' := by
      have e := (show W.heap[X + 1 + 1]? = _ from bV).symm.trans bV'
      simpa using e
    have hlk : (pre.map fun x => x.it.text).length = k' := by obtain ⟨_, _, e2, -⟩ := hO.shape; injection e2 with _ e2 _; exact e2.symm
    have HI : Hid (TIS w W X N a.list pre) := hi
    have HO : Hid (Or 9 cS W N (.slice va' k' vc') (pre.map fun x => x.it.text)) := hO
    have HBV : Hid (Bk W (X + 1 + 1) #[.slice va' k' vc'] 28) := bV
    have HBX : Hid (Bk W Xi #[.bool x.it.list, .string x.it.text, .slice x.ad x.l x.c] 70) := bXi
    have f0 := hi.fn.cell 0
    have xi0 := bXi.cell 0
    have xi1 := bXi.cell 1
    simp only [List.getElem?_toArray, List.getElem?_cons_zero, List.getElem?_cons_succ] at f0 xi0 xi1
    obtain ⟨yv, hyv⟩ : ∃ yv, yv = x.it.text := ⟨_, rfl⟩
    obtain ⟨fx, hfx⟩ : ∃ fx, fx = true := ⟨_, rfl⟩
    have HTx : Hid (∀ w, Calls Try.prog 72 #[.string x.it.text] w fun e w' => e = .returned (.tuple #[cS yv, .bool fx]) ∧ Below w.heap.size w w') := fun w => by
      have := HT.out x.it.text (by omega) w
      rw [hyv, hfx]
      exact this
    have HG : Hid (gdS x.it = (!x.it.list && fx)) := by show _ = _; rw [hfx]; rfl
    have HYv : Hid (yv = x.it.text) := hyv
    clear hyv hfx
    have lV := bV.lt
    have lO := hi.ok.lt
    have lXi := bXi.lt
    have HOwn : Hid (W.ownsRow N 9 1 (.slice va' k' vc') k' ((pre.map fun x => x.it.text).map cS)) := by have h : W.ownsRow N _ 1 _ _ _ := hO; rw [hlk] at h; exact h
    obtain ⟨i0, hii, hz0, hz1, hz2⟩ := info_of infoS
    have HIn : Hid (Try.prog.info? 9 = some i0 ∧ i0.zero = some (.string ⟨#[]⟩) ∧ i0.size = 1 ∧ i0.bytes = 16) := ⟨hii, hz0, hz1, hz2⟩
    have HLk : Hid ((pre.map fun x => x.it.text).length = k') := hlk
    clear hi bV bV' bXi hO hlk hii hz0 hz1 hz2 h0 bI hrI
    generalize x.it.list = Lx at *
    generalize hTe : x.it.text = Tx at *
    have HTe : Hid (x.it.text = Tx) := hTe
    clear hTe
    have HC : Hid (∀ w2, Below W.heap.size W w2 → Bk w2 (X + 1 + 1) #[.slice va' k' vc'] 28 ∧ Bk w2 (X + 1 + 1 + 1) #[.bool a.list] 4 ∧ Bk w2 Xi #[.bool Lx, .string Tx, .slice x.ad x.l x.c] 70) := fun w2 hb => ⟨HBV.out.below hb lV, HI.out.ok.below hb lO, HBX.out.below hb lXi⟩
    have hbad : ∀ (w2 : World) (ac : Act), Below W.heap.size W w2 → gdS x.it = false → leftB w9.heap.size (KpL N (X + 1 + 1) (X + 1 + 1 + 1)) (fun pre W => TIS w W X N a.list pre) (fun c pre W => c = .exit 0 ∧ TBS w W X pre) (pre ++ [x]) W (.exit 0) ac (w2.setCell ⟨X + 1 + 1 + 1, 0, none⟩ (.bool false)) := fun w2 ac hb hgf => by
      refine ⟨(kf_below hb).trans ((KeepsOthers.setCell _ _ _).from _), rfl, ⟨va', k', vc', (HC.out w2 hb).1.other (by simp) _⟩, (HC.out w2 hb).2.1.set 0 _ rfl, ⟨x, by simp, hgf⟩, (HI.out.bel.trans (hb.mono HI.out.bel.size)).setCell (p := ⟨X + 1 + 1 + 1, 0, none⟩) (by have := HN.out.2; show _ ≤ X + 1 + 1 + 1; omega) _⟩
    have HBad : Hid (∀ (w2 : World) (ac : Act), Below W.heap.size W w2 → gdS x.it = false → leftB w9.heap.size (KpL N (X + 1 + 1) (X + 1 + 1 + 1)) (fun pre W => TIS w W X N a.list pre) (fun c pre W => c = .exit 0 ∧ TBS w W X pre) (pre ++ [x]) W (.exit 0) ac (w2.setCell ⟨X + 1 + 1 + 1, 0, none⟩ (.bool false))) := hbad
    clear hbad
    cases Lx with
    | true =>
      gi_wp2_with (refine ⟨trivial, ?_⟩; gi_at_call 72; refine (CallsIn.inRound lr (callsIn_wide.2 (HTx.out _))).mono ?_; rintro e w2 ⟨rfl, hb2⟩; obtain ⟨c1, c2, c3⟩ := HC.out w2 hb2; have v0 := c1.cell 0; have vf0 := c1.frozen 0; have o0 := c2.cell 0; have of0 := c2.frozen 0; have y0 := c3.cell 0; have lv2 := c1.lt; have lo2 := c2.lt; simp only [List.getElem?_toArray, List.getElem?_cons_zero, List.getElem?_cons_succ] at v0 o0 y0; clear c1 c2 c3)
      exact HBad.out w2 _ hb2 (by rw [HG.out]; rfl)
    | false =>
      cases fx with
      | false =>
        gi_wp2_with (refine ⟨trivial, ?_⟩; gi_at_call 72; refine (CallsIn.inRound lr (callsIn_wide.2 (HTx.out _))).mono ?_; rintro e w2 ⟨rfl, hb2⟩; obtain ⟨c1, c2, c3⟩ := HC.out w2 hb2; have v0 := c1.cell 0; have vf0 := c1.frozen 0; have o0 := c2.cell 0; have of0 := c2.frozen 0; have y0 := c3.cell 0; have lv2 := c1.lt; have lo2 := c2.lt; simp only [List.getElem?_toArray, List.getElem?_cons_zero, List.getElem?_cons_succ] at v0 o0 y0; clear c1 c2 c3)
        exact HBad.out w2 _ hb2 (by rw [HG.out]; rfl)
      | true =>
        gi_wp2_with (first
          | (refine ⟨trivial, ?_⟩; gi_at_call 72; refine (CallsIn.inRound lr (callsIn_wide.2 (HTx.out _))).mono ?_; rintro e w2 ⟨rfl, hb2⟩; obtain ⟨c1, c2, c3⟩ := HC.out w2 hb2; have v0 := c1.cell 0; have vf0 := c1.frozen 0; have o0 := c2.cell 0; have of0 := c2.frozen 0; have y0 := c3.cell 0; have lv2 := c1.lt; have lo2 := c2.lt; simp only [List.getElem?_toArray, List.getElem?_cons_zero, List.getElem?_cons_succ] at v0 o0 y0; clear c1 c2 c3)
          | (gi_at_builtin; refine wpListIn_append_own _ rfl _ _ 28 rfl N 9 i0 (.string ⟨#[]⟩) 1 16 Try.underlying28 HIn.out.1 HIn.out.2.1 HIn.out.2.2.1 HIn.out.2.2.2 rfl (by decide) (.slice va' k' vc') k' _ rfl (by have h : w2.ownsRow N _ 1 _ _ _ := HO.out.below' hb2; rw [HLk.out] at h; exact h.alloc _) ⟨w2.heap.size, 0, none⟩ 1 1 [cS yv] rfl rfl (cell_one_new _ _ _) (by simp [Value.oneCell']) (by unfold maxLen; omega) (by omega) (by simp; have := HI.out.sz; have := hb2.size; omega) ?_; intro v4 w4 hown4 hgr4 _; obtain ⟨g4, cap4, hv4⟩ : ∃ g cap, v4 = Value.slice (some ⟨g, 0, none⟩) (k' + 1) cap := (by rcases hown4.2 with ⟨_, hz⟩ | ⟨g, cap, _, e, _⟩; (· exact absurd hz (by omega)); (· exact ⟨g, cap, e⟩)); subst hv4; have b4 := bk_grown ((HC.out w2 hb2).1.alloc (.cells #[cS yv] 9)) hgr4 (fun q hq => by have := (HO.out.ge hq).1; omega); have v40 := b4.cell 0; have vf40 := b4.frozen 0; have lv4 := b4.lt; simp only [List.getElem?_toArray, List.getElem?_cons_zero, List.getElem?_cons_succ] at v40; clear b4))
        have hown5 : w4.ownsRow N 9 1 (.slice (some ⟨g4, 0, none⟩) (k' + 1) cap4) ((pre.map fun x => x.it.text).length + 1) ((pre.map fun x => x.it.text).map cS ++ [cS yv]) := by rw [HLk.out]; exact hown4
        obtain ⟨q1, q2, q3, q4, q5, q6, q7⟩ := tl_end (w := w) (y := yv) _ HBV.out HO.out hb2 hown5 hgr4 (by have := HN.out.2; omega) hNX HI.out.bel HI.out.sz
        refine ⟨q1 _, q2, ⟨⟨_, q4, ?_⟩, q5 _ _ _ (by omega) (by omega) HI.out.ok, q5 _ _ _ (by omega) (by omega) HI.out.fn, fun z hz => ?_, q6, q7⟩⟩
        · rw [List.map_append]
          rw [HYv.out, ← HTe.out] at q3
          exact q3
        · rcases List.mem_append.1 hz with h | h
          · exact HI.out.gd z h
          · simp at h
            subst h
            rw [HG.out]; rfl
  case done =>
    rintro D xs W hD hS hi hK
    obtain ⟨v, bV, hO⟩ := hi.row
    obtain ⟨va, vc, rfl, -⟩ := hO.shape
    have v0 := bV.cell 0
    have o0 := hi.ok.cell 0
    simp only [List.getElem?_toArray, List.getElem?_cons_zero, List.getElem?_cons_succ] at v0 o0
    have hS : xs.map EX.it = ys := hS
    have hxm : (xs.map fun x => x.it.text) = ys.map fun y => y.text := by rw [← hS, List.map_map]; rfl
    have hgy : ∀ y ∈ ys, gdS y = true := fun y hy => by
      rw [← hS] at hy
      obtain ⟨x, hx, rfl⟩ := List.mem_map.1 hy
      exact hi.gd x hx
    have HR : Hid (lsS a = a.list ∧ (a.list = true → Or 9 cS W w.heap.size (.slice va (xs.map fun x => x.it.text).length vc) (a.items.map fun y => y.text))) := by
      have hyl : a.list = true → ys = a.items := fun h => by rw [← HYs.out, ysOf, if_pos h]
      refine ⟨?_, fun h => ?_⟩
      · unfold lsS
        cases hl : a.list
        · rfl
        · rw [List.all_eq_true.2 (by rw [← hyl hl]; exact hgy)]; rfl
      · rw [← hyl h, ← hxm]
        exact hO.based (by have := HN.out; omega)
    have HI : Hid (Below w.heap.size w W) := hi.bel
    clear hi bV hO hS hxm hgy bI hrI h0
    generalize (xs.map fun x => x.it.text).length = kk at *
    generalize a.list = La at *
    gi_wp2
    refine wpIn_wide.2 ?_
    go_region
    all_goals
      gi_wp2
      have hKd : W.drew.heap[D]? = some (.deferred (some [])) := hK
      simp only [Exit.noGoto]
      refine ⟨by simp, .inl ⟨_, _, rfl, run_takeDeferred hKd, ?_⟩⟩
      refine ⟨.tuple #[.slice va kk vc, .bool La], ?_, ⟨va, kk, vc, by rw [HR.out.1], fun h => ?_⟩, HI.out.drew.trans (below_put _ _ (by have := HN.out; omega))⟩
      · simp [results, Try.f71, go_sem]
      · rw [HR.out.1] at h
        have h2 := HR.out.2 h
        refine ⟨h2.1, ?_⟩
        rcases h2.2 with q | ⟨g, cap, cur, e, q3, q4, q5⟩
        · exact .inl q
        · exact .inr ⟨g, cap, cur, e, q3, bk_put (show W.drew.heap[g]? = _ from q4) hKd rfl, q5⟩
  case stop =>
    rintro D c pre W hD hSp ⟨rfl, hi⟩ hK
    obtain ⟨va, kk, vc, bV⟩ := hi.row
    have v0 := bV.cell 0
    have o0 := hi.ok.cell 0
    simp only [List.getElem?_toArray, List.getElem?_cons_zero, List.getElem?_cons_succ] at v0 o0
    have HR : Hid (lsS a = false) := by
      obtain ⟨x, hx, hxb⟩ := hi.bad
      have hm : x.it ∈ ys := by
        have : x.it ∈ pre.map EX.it := List.mem_map_of_mem hx
        rw [hSp.2] at this
        exact List.mem_of_mem_take this
      show lsS a = false
      unfold lsS
      cases hl : a.list
      · rfl
      · rw [Bool.true_and, List.all_eq_false]
        refine ⟨x.it, ?_, by rw [hxb]; simp⟩
        rw [← HYs.out, ysOf, if_pos hl] at hm
        exact hm
    have HI : Hid (Below w.heap.size w W) := hi.bel
    clear hi bV bI hrI h0
    gi_wp2
    refine wpIn_wide.2 ?_
    go_region
    all_goals
      gi_wp2
      have hKd : W.drew.heap[D]? = some (.deferred (some [])) := hK
      simp only [Exit.noGoto]
      refine ⟨by simp, .inl ⟨_, _, rfl, run_takeDeferred hKd, ?_⟩⟩
      refine ⟨.tuple #[.slice va kk vc, .bool false], ?_, ⟨va, kk, vc, by rw [HR.out], fun h => by rw [HR.out] at h; cases h⟩, HI.out.drew.trans (below_put _ _ (by have := HN.out; omega))⟩
      simp [results, Try.f71, go_sem]
end Go.Proofs.Ytapjonmgjccpbaa

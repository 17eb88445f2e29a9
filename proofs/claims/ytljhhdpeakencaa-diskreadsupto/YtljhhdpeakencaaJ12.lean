/- Texts joined: Cal9 NDCr9. -/
import Derived.Test.YtljhhdpeakencaaNDExa
section
set_option linter.unusedSimpArgs false
set_option linter.unusedVariables false
namespace Go.Proofs.Ytljhhdpeakencaa
open Go.RowKit

/-! tarnlaw9.calls: a script of acts of one kind, beside writes. -/
theorem infoAct : (Try.prog.info? 40).map (fun i => (i.zero, i.size, i.bytes)) = some (some (.agg #[.int .i64 0, .int .i64 0, .int .i64 0, .int .i64 0, .slice none 0 0, .slice none 0 0]), 6, 80) := by kernel_rfl
abbrev Pr := Ac × Value × Value
def pcells (p : Pr) : List Value := (acc p.1 p.2.1 p.2.2).toList
theorem pcells_length (ps : List Pr) : (ps.flatMap pcells).length = ps.length * 6 := by
  induction ps with
  | nil => rfl
  | cons p l ih => simp only [List.flatMap_cons, List.length_append, ih, List.length_cons]; simp [pcells]; omega
theorem pcells_at (ps : List Pr) : ∀ (i : Nat) (h : i < ps.length) (t : Nat), t < 6 → (ps.flatMap pcells)[i * 6 + t]? = (pcells ps[i])[t]? := by
  induction ps with
  | nil => intro i h; simp at h
  | cons p l ih =>
    intro i h t ht
    cases i with
    | zero => rw [List.flatMap_cons, Nat.zero_mul, Nat.zero_add, List.getElem?_append_left (by simp [pcells]; omega)]; rfl
    | succ i =>
      rw [List.flatMap_cons, List.getElem?_append_right (by simp [pcells]; omega)]
      have e : (i + 1) * 6 + t - (pcells p).length = i * 6 + t := by simp [pcells]; omega
      rw [e, ih i (by simpa using h) t ht]
      simp
structure PrOk (W0 : World) (p : Pr) : Prop where
  bs : Rb W0 p.2.1 p.1.bs
  ps : Rp W0 p.2.2 p.1.ps
  aw : Acw p.1
theorem la_of_row {W0 W : World} {base : Nat} {v : Value} {ps : List Pr} (h : W.ownsRow base 40 6 v ps.length (ps.flatMap pcells)) (hb : Below W0.heap.size W0 W) (hp : ∀ p ∈ ps, PrOk W0 p) (hm : ps.length ≤ 1048576) : La W v (ps.map Prod.fst) := by
  have h' := h
  rcases h.2 with ⟨rfl, hz⟩ | ⟨g, cap, cur, rfl, _, hh, hle, _⟩
  · exact ⟨none, 0, by rw [List.length_map, hz], by rw [List.length_map]; omega, by rw [List.length_map]; omega, fun i hi => by rw [List.length_map] at hi; omega⟩
  · refine ⟨some ⟨g, 0, none⟩, cap, by rw [List.length_map], by rw [List.length_map]; exact hle, by rw [List.length_map]; exact hm, fun i hi => ?_⟩
    rw [List.length_map] at hi
    have hq := hp ps[i] (List.getElem_mem hi)
    refine ⟨g, 0, ps[i].2.1, ps[i].2.2, rfl, fun j x hx => ?_, ?_, ?_, ?_⟩
    · have hj : j < 6 := (List.getElem?_eq_some_iff.1 hx).1
      rw [Nat.zero_add, World.ownsRow.cellAt h' (i * 6 + j) (by omega), pcells_at ps i hi j hj]
      have e : (ps.map Prod.fst)[i]'(by rw [List.length_map]; exact hi) = ps[i].1 := List.getElem_map _
      rw [e] at hx
      exact hx
    · rw [List.getElem_map]; exact hq.bs.below hb
    · rw [List.getElem_map]; exact hq.ps.below hb
    · rw [List.getElem_map]; exact hq.aw
theorem cells_new (w : World) (vs : Array Value) (t : TypeId) : ∀ j u, vs.toList[j]? = some u → (w.alloc (.cells vs t)).cell? ((⟨w.heap.size, 0, none⟩ : Addr).add j) = some u := fun j u hj => by
  rw [Addr.add_lit, Nat.zero_add, (Bk.new w vs t).cell j, ← Array.getElem?_toList]
  exact hj
theorem one_cells (o n p k : Int) (ba pa : Option Addr) (r : Nat × Nat × Nat × Nat × List UInt8 × List Int) : ∀ u ∈ pcells ((⟨o, n, p, k, r.2.2.2.2.1, r.2.2.2.2.2⟩, .slice ba r.1 r.2.1, .slice pa r.2.2.1 r.2.2.2.1) : Pr), u.oneCell' = true := fun u hu => by
  simp [pcells] at hu
  rcases hu with rfl | rfl | rfl | rfl | rfl | rfl <;> rfl
structure CW (W0 W : World) (Q k : Nat) (fv L : Value) (ps : List Pr) : Prop where
  bq : Bk W Q #[fv, L] 25
  row : W.ownsRow W0.heap.size 40 6 L ps.length (ps.flatMap pcells)
  ok : ∀ p ∈ ps, PrOk W0 p
  len : ps.length = k
  qb : W0.heap.size ≤ Q
  bel : Below W0.heap.size W0 W
theorem CW.below {W0 W W' : World} {Q k : Nat} {fv L : Value} {ps : List Pr} (h : CW W0 W Q k fv L ps) (hb : Below W.heap.size W W') : CW W0 W' Q k fv L ps :=
  ⟨h.bq.below hb h.bq.lt, ownsRow_same h.row (fun b e => hb.block b (h.row.lt b e).2), h.ok, h.len, h.qb, h.bel.trans (hb.mono h.bel.size)⟩
theorem CW.ne {W0 W : World} {Q k : Nat} {fv L : Value} {ps : List Pr} (h : CW W0 W Q k fv L ps) : some Q ≠ L.ownBlock := fun e => by
  rcases h.row.2 with ⟨rfl, _⟩ | ⟨g, cap, cur, rfl, _, hh, _⟩
  · simp [Value.ownBlock] at e
  · simp [Value.ownBlock] at e
    subst e
    rw [show W.heap[Q]? = _ from h.bq] at hh
    simp at hh
theorem CW.step {W0 W A w1 : World} {Q k : Nat} {fv L v1 : Value} {ps : List Pr} {p : Pr} {o : Obj} (h : CW W0 W Q k fv L ps) (hp : PrOk W0 p) (hb : Below W.heap.size W A) (h1 : w1.ownsRow W0.heap.size 40 6 v1 (ps.length + 1) (ps.flatMap pcells ++ pcells p)) (hg : (A.alloc o).grownBy w1 L.ownBlock) : CW W0 (w1.setCell ⟨Q, 1, none⟩ v1) Q (k + 1) fv v1 (ps ++ [p]) := by
  have hq := ((h.bq.below hb h.bq.lt).alloc o).grown hg h.ne
  have hz := hb.size
  have hz0 := h.bel.size
  have hlt := h.bq.lt
  refine ⟨hq.set 1 v1 rfl, ?_, fun x hx => ?_, by rw [List.length_append, h.len]; rfl, h.qb, ?_⟩
  · rw [List.length_append, List.length_singleton, List.flatMap_append]
    refine ownsRow_same (by simpa using h1) (fun b e => Below.heap_setCell w1 ⟨Q, 1, none⟩ v1 b (fun e2 => ?_))
    have e2 : b = Q := e2
    subst e2
    rcases h1.2 with ⟨rfl, _⟩ | ⟨g, cap, cur, rfl, _, hh, _⟩
    · simp [Value.ownBlock] at e
    · simp [Value.ownBlock] at e
      subst e
      rw [show w1.heap[g]? = _ from hq] at hh
      simp at hh
  · rcases List.mem_append.1 hx with hx | hx
    · exact h.ok x hx
    · simp at hx; subst hx; exact hp
  · exact (((h.bel.trans (hb.mono hz0)).alloc (by omega) _).grown hg (by simp; omega) (fun b e => (h.row.lt b e).1)).setCell (p := ⟨Q, 1, none⟩) h.qb v1
set_option maxRecDepth 100000 in
set_option maxHeartbeats 8000000 in
theorem calls_walk (w : World) (fv lv : Value) (ls : List (List UInt8)) (xs : List Ac) (n : Int) (hF : Rl w fv ls) (hL : La w lv xs) (hn : ls.length ≤ 1048576) (hs : ∀ l ∈ ls, l.length ≤ 1048576) (hnb : -9223372036854775808 ≤ n ∧ n ≤ 9223372036854775807) :
    Calls Try.prog 52 #[.agg #[fv, lv], .int .i64 n] w fun e w' => e = .returned (.bool true) ∧ Below w.heap.size w w' := by
  have HF : Hid (Rl w fv ls) := hF
  have HL : Hid (La w lv xs) := hL
  have HS : Hid (ls.length ≤ 1048576 ∧ ∀ l ∈ ls, l.length ≤ 1048576) := ⟨hn, hs⟩
  obtain ⟨fa, fc, rfl, hF9⟩ := hF
  obtain ⟨la, lc, rfl, hlc, hlm, hat⟩ := hL
  obtain ⟨i0, hi, hz0, hz1, hz2⟩ := info_of infoAct
  clear hF9 hat hs
  obtain ⟨m, hm⟩ : ∃ m, m = xs.length := ⟨_, rfl⟩
  have Hm : Hid (m = xs.length) := hm
  rw [← hm] at hlc hlm HL ⊢
  obtain ⟨fl, hfl⟩ : ∃ fl, fl = ls.length := ⟨_, rfl⟩
  rw [← hfl] at HF hn ⊢
  clear hm hfl
  go_enter Try.func52, Try.ntmps52
  go_upto_region 1 with fail
  obtain ⟨W0, hW0⟩ : ∃ W0, W0 = w.alloc (.cells #[.slice fa fl fc, .slice la m lc] 25) := ⟨_, rfl⟩
  rw [← hW0]
  have hX : Bk W0 w.heap.size #[.slice fa fl fc, .slice la m lc] 25 := by rw [hW0]; exact Bk.new _ _ _
  have hB0 : Below w.heap.size w W0 := by rw [hW0]; exact (Below.refl _ _).alloc (Nat.le_refl _) _
  have HB0 : Hid (Below w.heap.size w W0) := hB0
  clear hW0
  have x0 := hX.cell 0
  have x1 := hX.cell 1
  have xl := hX.lt
  simp only [List.getElem?_toArray, List.getElem?_cons_zero, List.getElem?_cons_succ] at x0 x1
  obtain ⟨X, hXx⟩ : ∃ X, X = w.heap.size := ⟨_, rfl⟩
  rw [← hXx] at x0 x1 xl ⊢
  replace HF : Hid (∀ W, Below W0.heap.size W0 W → Rl W (.slice fa fl fc) ls) := fun W hW => (HF.out.below hB0).below hW
  replace HL : Hid (∀ W, Below W0.heap.size W0 W → La W (.slice la m lc) xs) := fun W hW => (HL.out.below hB0).below hW
  clear hX hXx hB0
  have HHv : Hid (Calls Try.prog 22 #[.agg #[.slice fa fl fc, .slice la m lc]] W0 fun e w' => SomeB e ∧ Below W0.heap.size W0 w') := heavy9 W0 _ _ ls xs (HF.out _ (Below.refl _ _)) (HL.out _ (Below.refl _ _)) HS.out.1 HS.out.2
  go_wp2_with (go_at_call 22; refine stop9 ?_)
  unfold Hold9
  refine Calls.mono HHv.out ?_
  rintro e w1 ⟨⟨c, rfl⟩, hb1⟩
  replace x0 := (hb1.cell (p := ⟨X, 0, none⟩) xl).trans x0
  replace x1 := (hb1.cell (p := ⟨X, 1, none⟩) xl).trans x1
  have HB1 : Hid (Below W0.heap.size W0 w1) := hb1
  have xl1 : X < w1.heap.size := Nat.lt_of_lt_of_le xl hb1.size
  have x1w : ∀ W, Below w1.heap.size w1 W → W.cell? ⟨X, 1, none⟩ = some (.slice la m lc) ∧ X < W.heap.size := fun W hW => ⟨(hW.cell (p := ⟨X, 1, none⟩) xl1).trans x1, Nat.lt_of_lt_of_le xl1 hW.size⟩
  have HX1 : Hid _ := x1w
  clear hb1 HHv x1w
  cases c with
  | true =>
    go_wp2_with fail
    go_ret
    exact ⟨rfl, HB0.out.trans (HB1.out.mono HB0.out.size)⟩
  | false =>
    go_upto_region 4 with fail
    obtain ⟨W2, hW2⟩ : ∃ W2, W2 = w1.alloc (.cells #[.slice fa fl fc, .slice none 0 0] 25) := ⟨_, rfl⟩
    rw [← hW2]
    have HC0 : Hid (CW w1 W2 w1.heap.size 0 (.slice fa fl fc) (.slice none 0 0) []) := ⟨by rw [hW2]; exact Bk.new _ _ _, World.ownsRow_nil _ _ _ 6, fun p hp => (by cases hp), rfl, Nat.le_refl _, by rw [hW2]; exact (Below.refl _ _).alloc (Nat.le_refl _) _⟩
    clear hW2
    obtain ⟨Q, hQ⟩ : ∃ Q, Q = w1.heap.size := ⟨_, rfl⟩
    rw [← hQ] at HC0 ⊢
    clear hQ x0 x1
    go_wp2_with fail
    go_loopw [6] (fun i wr => ∃ (k : Nat) (L : Value) (ps : List Pr), k ≤ m ∧ i = .int .i64 (k : Int) ∧ CW w1 wr Q k (.slice fa fl fc) L ps) (fun i _ => m - (intOf i).toNat)
    case atStart => exact ⟨0, _, _, by omega, rfl, HC0.out⟩
    case round =>
      clear HC0
      obtain ⟨k, L, ps, hk, rfl, hC⟩ := hrel
      obtain ⟨aL, nL, cL, rfl⟩ := ownsRow_sl hC.row
      have HC : Hid (CW w1 wr Q k (.slice fa fl fc) (.slice aL nL cL) ps) := hC
      obtain ⟨x1, xlr⟩ := HX1.out wr hC.bel
      clear hC
      by_cases hlt : k < m
      · have hlt' : (k : Int) < (m : Int) := by omega
        have hix : k < xs.length := by have := Hm.out; omega
        obtain ⟨b, off, bv, pv, e3, hr, hbv, hpv, hw⟩ := la_at (HL.out w1 HB1.out) k hix
        subst e3
        have HBv : Hid (Rb w1 bv (xs[k]'hix).bs) := hbv
        have HPv : Hid (Rp w1 pv (xs[k]'hix).ps) := hpv
        have HW : Hid (Acw (xs[k]'hix)) := hw
        generalize xs[k]'hix = a at *
        have hr2 : ∀ j x, (acc a bv pv).toList[j]? = some x → wr.cell? ⟨b, off + k * 6 + j, none⟩ = some x := fun j x hx => (HC.out.bel.cell (World.block_lt_of_cell? w1 _ (hr j x hx))).trans (hr j x hx)
        have k0 := hr2 0 _ rfl
        have k1 := hr2 1 _ rfl
        have k2 := hr2 2 _ rfl
        have k3 := hr2 3 _ rfl
        have k4 := hr2 4 _ rfl
        have k5 := hr2 5 _ rfl
        rw [Nat.add_zero] at k0
        obtain ⟨ba, bc9, ebv, hb9⟩ := hbv
        subst ebv
        obtain ⟨pa, pc, epv, hp9⟩ := hpv
        subst epv
        clear hr hr2 hb9 hp9 hw
        obtain ⟨bl, hbl⟩ : ∃ bl, bl = a.bs.length := ⟨_, rfl⟩
        obtain ⟨pl, hpl⟩ : ∃ pl, pl = a.ps.length := ⟨_, rfl⟩
        rw [← hbl] at HBv k4
        rw [← hpl] at HPv k5
        clear hbl hpl
        by_cases h3 : k % 3 = 0
        · have e3 : (k : Int) % 3 = 0 := by omega
          have e3' : Int.tmod (k : Int) 3 = 0 := by rw [Int.tmod_eq_emod_of_nonneg (by omega)]; exact e3
          have e4 : IntKind.i64.wrap ((k : Int) % 3) = 0 := by rw [e3]; rfl
          go_upto_region 12 with fail
          obtain ⟨W, hW⟩ : ∃ W, W = wr.alloc (.cells #[.int .i64 3, .int .i64 a.n, .int .i64 a.pos, .int .i64 a.k, .slice ba bl bc9, .slice pa pl pc] 40) := ⟨_, rfl⟩
          rw [← hW]
          have hX9 : Bk W wr.heap.size #[.int .i64 3, .int .i64 a.n, .int .i64 a.pos, .int .i64 a.k, .slice ba bl bc9, .slice pa pl pc] 40 := by rw [hW]; exact Bk.new _ _ _
          have hbW : Below wr.heap.size wr W := by rw [hW]; exact (Below.refl _ _).alloc (Nat.le_refl _) _
          have hCW := HC.out.below hbW
          have HBW : Hid (Below wr.heap.size wr W) := hbW
          have HCW : Hid (CW w1 W Q k (.slice fa fl fc) (.slice aL nL cL) ps) := hCW
          have q1 := hCW.bq.cell 1
          have f1 := hCW.bq.frozen 1
          have lq := hCW.bq.lt
          have y0 := hX9.cell 0
          have y1 := hX9.cell 1
          have y2 := hX9.cell 2
          have y3 := hX9.cell 3
          have y4 := hX9.cell 4
          have y5 := hX9.cell 5
          have yl := hX9.lt
          simp only [List.getElem?_toArray, List.getElem?_cons_zero, List.getElem?_cons_succ] at q1 y0 y1 y2 y3 y4 y5
          have hrow := hCW.row
          have hpl : ps.length = k := hCW.len
          have hne := hCW.ne
          have HPk : Hid (PrOk w1 ((⟨3, a.n, a.pos, a.k, a.bs, a.ps⟩, .slice ba bl bc9, .slice pa pl pc) : Pr)) := ⟨HBv.out, HPv.out, ⟨by show (-9223372036854775808 : Int) ≤ 3 ∧ (3 : Int) ≤ 9223372036854775807; decide, HW.out.n, HW.out.pos, HW.out.k, HW.out.bs, HW.out.ps⟩⟩
          clear hW hX9 hbW hCW k0 k1 k2 k3 k4 k5 x1 xlr
          generalize wr.heap.size = X9 at *
          go_wp2_with (at_builtin; refine stop9 ?_)
          unfold Hold9
          refine wpList_append_own _ rfl _ _ 23 rfl w1.heap.size 40 i0 (.agg #[.int .i64 0, .int .i64 0, .int .i64 0, .int .i64 0, .slice none 0 0, .slice none 0 0]) 6 80 Try.underlying23 hi hz0 hz1 hz2 rfl (by decide) _ ps.length _ rfl (hrow.alloc _) ⟨W.heap.size, 0, none⟩ 1 1 (pcells ((⟨3, a.n, a.pos, a.k, a.bs, a.ps⟩, .slice ba bl bc9, .slice pa pl pc) : Pr)) rfl rfl (cells_new _ _ _) (one_cells _ _ _ _ _ _ (bl, bc9, pl, pc, a.bs, a.ps)) (by unfold maxLen; omega) (by omega) (by have := HCW.out.bel.size; simp; omega) ?_
          intro v1 w2 hown1 hgrow1 hnil1
          have h6 := HCW.out.step HPk.out (Below.refl _ _) hown1 hgrow1
          have e10 : w2.heap[Q]? = W.heap[Q]? := (hgrow1.block Q (by simp; omega) hne).trans (Below.heap_alloc W _ Q lq)
          have q2 : w2.cell? ⟨Q, 1, none⟩ = some (.slice aL nL cL) := (World.cell?_of_block (a := ⟨Q, 1, none⟩) e10).trans q1
          have f2 : w2.frozen? ⟨Q, 1, none⟩ = false := (World.frozen?_of_block (a := ⟨Q, 1, none⟩) e10).trans f1
          have l2 : Q < w2.heap.size := by have := hgrow1.size; simp at this; omega
          obtain ⟨aL2, nL2, cL2, rfl⟩ := ownsRow_sl hown1
          have H6 : Hid (CW w1 (w2.setCell ⟨Q, 1, none⟩ (.slice aL2 nL2 cL2)) Q (k + 1) (.slice fa fl fc) (.slice aL2 nL2 cL2) (ps ++ [((⟨3, a.n, a.pos, a.k, a.bs, a.ps⟩, .slice ba bl bc9, .slice pa pl pc) : Pr)])) := h6
          clear h6 e10 hgrow1 hown1 hnil1 hrow hne q1 f1 lq
          go_wp2_with fail
          go_roundw
          case rel => exact ⟨k + 1, _, _, by omega, by go_num, H6.out⟩
          case measure => simp [intOf]; omega
        · have e3 : 0 < (k : Int) % 3 := by omega
          have e3' : 0 < Int.tmod (k : Int) 3 := by rw [Int.tmod_eq_emod_of_nonneg (by omega)]; exact e3
          go_upto_region 10 with fail
          obtain ⟨W, hW⟩ : ∃ W, W = wr.alloc (.cells #[.int .i64 n, .int .i64 a.n, .int .i64 a.pos, .int .i64 a.k, .slice ba bl bc9, .slice pa pl pc] 40) := ⟨_, rfl⟩
          rw [← hW]
          have hX9 : Bk W wr.heap.size #[.int .i64 n, .int .i64 a.n, .int .i64 a.pos, .int .i64 a.k, .slice ba bl bc9, .slice pa pl pc] 40 := by rw [hW]; exact Bk.new _ _ _
          have hbW : Below wr.heap.size wr W := by rw [hW]; exact (Below.refl _ _).alloc (Nat.le_refl _) _
          have hCW := HC.out.below hbW
          have HBW : Hid (Below wr.heap.size wr W) := hbW
          have HCW : Hid (CW w1 W Q k (.slice fa fl fc) (.slice aL nL cL) ps) := hCW
          have q1 := hCW.bq.cell 1
          have f1 := hCW.bq.frozen 1
          have lq := hCW.bq.lt
          have y0 := hX9.cell 0
          have y1 := hX9.cell 1
          have y2 := hX9.cell 2
          have y3 := hX9.cell 3
          have y4 := hX9.cell 4
          have y5 := hX9.cell 5
          have yl := hX9.lt
          simp only [List.getElem?_toArray, List.getElem?_cons_zero, List.getElem?_cons_succ] at q1 y0 y1 y2 y3 y4 y5
          have hrow := hCW.row
          have hpl : ps.length = k := hCW.len
          have hne := hCW.ne
          have HPk : Hid (PrOk w1 ((⟨n, a.n, a.pos, a.k, a.bs, a.ps⟩, .slice ba bl bc9, .slice pa pl pc) : Pr)) := ⟨HBv.out, HPv.out, ⟨hnb, HW.out.n, HW.out.pos, HW.out.k, HW.out.bs, HW.out.ps⟩⟩
          clear hW hX9 hbW hCW k0 k1 k2 k3 k4 k5 x1 xlr
          generalize wr.heap.size = X9 at *
          go_wp2_with (at_builtin; refine stop9 ?_)
          unfold Hold9
          refine wpList_append_own _ rfl _ _ 23 rfl w1.heap.size 40 i0 (.agg #[.int .i64 0, .int .i64 0, .int .i64 0, .int .i64 0, .slice none 0 0, .slice none 0 0]) 6 80 Try.underlying23 hi hz0 hz1 hz2 rfl (by decide) _ ps.length _ rfl (hrow.alloc _) ⟨W.heap.size, 0, none⟩ 1 1 (pcells ((⟨n, a.n, a.pos, a.k, a.bs, a.ps⟩, .slice ba bl bc9, .slice pa pl pc) : Pr)) rfl rfl (cells_new _ _ _) (one_cells _ _ _ _ _ _ (bl, bc9, pl, pc, a.bs, a.ps)) (by unfold maxLen; omega) (by omega) (by have := HCW.out.bel.size; simp; omega) ?_
          intro v1 w2 hown1 hgrow1 hnil1
          have h6 := HCW.out.step HPk.out (Below.refl _ _) hown1 hgrow1
          have e10 : w2.heap[Q]? = W.heap[Q]? := (hgrow1.block Q (by simp; omega) hne).trans (Below.heap_alloc W _ Q lq)
          have q2 : w2.cell? ⟨Q, 1, none⟩ = some (.slice aL nL cL) := (World.cell?_of_block (a := ⟨Q, 1, none⟩) e10).trans q1
          have f2 : w2.frozen? ⟨Q, 1, none⟩ = false := (World.frozen?_of_block (a := ⟨Q, 1, none⟩) e10).trans f1
          have l2 : Q < w2.heap.size := by have := hgrow1.size; simp at this; omega
          obtain ⟨aL2, nL2, cL2, rfl⟩ := ownsRow_sl hown1
          have H6 : Hid (CW w1 (w2.setCell ⟨Q, 1, none⟩ (.slice aL2 nL2 cL2)) Q (k + 1) (.slice fa fl fc) (.slice aL2 nL2 cL2) (ps ++ [((⟨n, a.n, a.pos, a.k, a.bs, a.ps⟩, .slice ba bl bc9, .slice pa pl pc) : Pr)])) := h6
          clear h6 e10 hgrow1 hown1 hnil1 hrow hne q1 f1 lq
          go_wp2_with fail
          go_roundw
          case rel => exact ⟨k + 1, _, _, by omega, by go_num, H6.out⟩
          case measure => simp [intOf]; omega
      · have hlt' : ¬ (k : Int) < (m : Int) := by omega
        have hQ := HC.out.bq.cell 1
        have hQ0 := HC.out.bq.cell 0
        have lq := HC.out.bq.lt
        simp only [List.getElem?_toArray, List.getElem?_cons_zero, List.getElem?_cons_succ] at hQ hQ0
        have HDe : Hid (Calls Try.prog 3 #[.agg #[.slice fa fl fc, .slice aL nL cL]] wr fun e w' => e = .returned (.bool true) ∧ Below wr.heap.size wr w') := diskExact_walk wr _ _ ls (ps.map Prod.fst) (HF.out _ (HB1.out.trans (HC.out.bel.mono HB1.out.size))) (la_of_row HC.out.row HC.out.bel HC.out.ok (by have := HC.out.len; omega)) HS.out.1 HS.out.2
        go_wp2_with (go_at_call 3; refine stop9 ?_)
        unfold Hold9
        refine Calls.mono HDe.out ?_
        rintro e w3 ⟨rfl, hb3⟩
        have HE : Hid (Below w.heap.size w w3) := HB0.out.trans ((HB1.out.trans ((HC.out.bel.trans (hb3.mono HC.out.bel.size)).mono HB1.out.size)).mono HB0.out.size)
        clear hb3
        go_wp2_with fail
        go_ret
        exact ⟨rfl, HE.out⟩
end Go.Proofs.Ytljhhdpeakencaa
end
section
set_option linter.unusedSimpArgs false
set_option linter.unusedVariables false
namespace Go.Proofs.Ytljhhdpeakencaa
open Go.RowKit

/-! tarnlaw9.DiskCrashes, walked. -/
set_option maxRecDepth 100000 in
set_option maxHeartbeats 1000000 in
theorem diskCrashes_walk (w : World) (fv lv : Value) (ls : List (List UInt8)) (xs : List Ac) (hF : Rl w fv ls) (hL : La w lv xs) (hn : ls.length ≤ 1048576) (hs : ∀ l ∈ ls, l.length ≤ 1048576) :
    Calls Try.prog 11 #[.agg #[fv, lv]] w fun e w' => e = .returned (.bool true) ∧ Below w.heap.size w w' := by
  have HC : Hid (∀ W, Below w.heap.size w W → Calls Try.prog 52 #[.agg #[fv, lv], .int .i64 12] W fun e w' => e = .returned (.bool true) ∧ Below W.heap.size W w') := fun W hW => calls_walk W fv lv ls xs 12 (hF.below hW) (hL.below hW) hn hs (by decide)
  obtain ⟨fa, fc, rfl, hF9⟩ := hF
  obtain ⟨la, lc, rfl, hlc, hlm, hat⟩ := hL
  clear hF9 hat
  go_enter Try.func11, Try.ntmps11
  go_wp2_with (go_at_call 52; refine stop9 ?_)
  unfold Hold9
  refine Calls.mono (HC.out _ ((Below.refl _ _).alloc (Nat.le_refl _) _)) ?_
  rintro e w3 ⟨rfl, hb3⟩
  have HB : Hid (Below w.heap.size w w3) := ((Below.refl w.heap.size w).alloc (Nat.le_refl _) _).trans (hb3.mono (by simp))
  clear hb3
  go_wp2_with fail
  go_ret
  exact ⟨rfl, HB.out⟩
end Go.Proofs.Ytljhhdpeakencaa
end

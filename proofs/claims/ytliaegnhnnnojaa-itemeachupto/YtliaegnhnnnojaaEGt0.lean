import Derived.Test.YtliaegnhnnnojaaEEs
import Derived.Test.YtliaegnhnnnojaaTkA0
set_option linter.unusedSimpArgs false
set_option linter.unusedVariables false
set_option maxRecDepth 100000
namespace Go.Proofs.Ytliaegnhnnnojaa
open Go.RowKit Go.Shelf
attribute [local go_sem] Oper.semAt_some

/-! What tarnlaw4.gather's rounds keep. -/
def pys (pre : List EX) : List (IT × Value) := pre.map fun x => (x.it, .slice x.ad x.l x.c)
structure GI (w W : World) (N n m : Nat) (pre : List EX) : Prop where
  row : ∃ va vc, Bk W (w.heap.size + 2) #[.slice va pre.length vc] 24 ∧ Bld W N n (.slice va pre.length vc) (pys pre)
  nb : Bk W (w.heap.size + 1) #[.int .i64 (m : Int)] 3
  bel : Below w.heap.size w W
  sz : N ≤ W.heap.size
  le : pre.length ≤ m
theorem GI.below {w A B : World} {N n m : Nat} {pre : List EX} (h : GI w A N n m pre) (hb : Below A.heap.size A B) : GI w B N n m pre := by
  obtain ⟨⟨va, vc, h1, h2⟩, h3, h4, h5, h6⟩ := h
  exact ⟨⟨va, vc, h1.below hb h1.lt, h2.below hb⟩, h3.below hb h3.lt, h4.trans (hb.mono h4.size), Nat.le_trans h5 hb.size, h6⟩
theorem GI.put {w A : World} {N n m l : Nat} {pre : List EX} {o o' : Obj} (hi : GI w A N n m pre) (hl : w.heap.size ≤ l) (h : A.heap[l]? = some o) (hc : o.isCells = false) : GI w (A.putObj l o') N n m pre := by
  obtain ⟨⟨va, vc, h1, h2⟩, h3, h4, h5, h6⟩ := hi
  exact ⟨⟨va, vc, bk_put h1 h hc, h2.put h hc⟩, bk_put h3 h hc, h4.trans (below_put _ _ hl), by simpa [World.putObj] using h5, h6⟩
/-- What a round is handed. -/
structure GAx (w W : World) (N n : Nat) (x : EX) (X B : Nat) : Prop where
  bX : Bk W X #[.bool x.it.list, .string x.it.text, .slice x.ad x.l x.c] 26
  rd : RdP W (B ≤ ·) n x.it.items (.slice x.ad x.l x.c)
  lo : N ≤ B ∧ N ≤ X
  old : ∃ va k vc, Bk W (w.heap.size + 2) #[.slice va k vc] 24 ∧ k + 1 ≤ 1099511627776 ∧ ∀ q, (Value.slice va k vc).ownBlock = some q → q < B ∧ q ≠ X
theorem GAx.put {w A : World} {N n X B l : Nat} {x : EX} {o o' : Obj} (hx : GAx w A N n x X B) (h : A.heap[l]? = some o) (hc : o.isCells = false) : GAx w (A.putObj l o') N n x X B := by
  obtain ⟨h1, h2, h3, va, k, vc, h4, h5⟩ := hx
  exact ⟨bk_put h1 h hc, h2.put h hc, h3, va, k, vc, bk_put h4 h hc, h5⟩
theorem GAx.mk' {w A0 W : World} {N n m : Nat} {ys : List IT} {pre : List EX} {x : EX} (hi0 : GI w A0 N n m pre) (hbA : Below A0.heap.size A0 W) (hgd : xgd n ys A0.heap.size pre x W) (hs : ys.length ≤ 1048576) : GAx w (W.alloc (.cells #[.bool x.it.list, .string x.it.text, .slice x.ad x.l x.c] 26)) N n x W.heap.size A0.heap.size := by
  obtain ⟨hrd, hl, -⟩ := hgd
  obtain ⟨⟨va, vc, h1, h2⟩, h3, h4, h5, h6⟩ := hi0
  have hzs := hbA.size
  refine ⟨Bk.new _ _ _, hrd.keep (fun b _ hl => Below.heap_alloc W _ b hl), ⟨h5, by omega⟩, va, pre.length, vc, (h1.below hbA h1.lt).alloc _, by omega, fun k hk => ?_⟩
  have := (h2.row.lt k hk).2
  exact ⟨this, by omega⟩
/-- Behind a round that went on. -/
theorem ga_end {w W w4 : World} {N n m : Nat} {pre : List EX} {x : EX} {X B g cap : Nat} (hN : w.heap.size + 3 ≤ N) (hlm : pre.length < m) (va : Option Addr) (vc : Nat) (hV : Bk W (w.heap.size + 2) #[.slice va pre.length vc] 24) (hBl : Bld W N n (.slice va pre.length vc) (pys pre)) (hi : GI w W N n m pre) (hax : GAx w W N n x X B)
    (hk : ∀ k, (Value.slice va pre.length vc).ownBlock = some k → k < B ∧ k ≠ X) (o : Obj)
    (hown : w4.ownsRow (N) 26 3 (.slice (some ⟨g, 0, none⟩) (pre.length + 1) cap) (pre.length + 1) (icells (pys pre) ++ [.bool false, .string ⟨#[]⟩, .slice none 0 0])) (hgr : (W.drew.alloc o).grownBy w4 (Value.slice va pre.length vc).ownBlock) (hsn : Sn (W.drew.alloc o) (.slice va pre.length vc) (.slice (some ⟨g, 0, none⟩) (pre.length + 1) cap)) (hg : N ≤ g) :
    (∀ N', KeepsFrom N' W ((((w4.setCell ⟨g, pre.length * 3, none⟩ (.bool x.it.list)).setCell ⟨g, pre.length * 3 + 1, none⟩ (.string x.it.text)).setCell ⟨g, pre.length * 3 + 2, none⟩ (.slice x.ad x.l x.c)).setCell ⟨w.heap.size + 2, 0, none⟩ (.slice (some ⟨g, 0, none⟩) (pre.length + 1) cap))) ∧ KpL N (w.heap.size + 2) (w.heap.size + 2) W ((((w4.setCell ⟨g, pre.length * 3, none⟩ (.bool x.it.list)).setCell ⟨g, pre.length * 3 + 1, none⟩ (.string x.it.text)).setCell ⟨g, pre.length * 3 + 2, none⟩ (.slice x.ad x.l x.c)).setCell ⟨w.heap.size + 2, 0, none⟩ (.slice (some ⟨g, 0, none⟩) (pre.length + 1) cap)) ∧ GI w ((((w4.setCell ⟨g, pre.length * 3, none⟩ (.bool x.it.list)).setCell ⟨g, pre.length * 3 + 1, none⟩ (.string x.it.text)).setCell ⟨g, pre.length * 3 + 2, none⟩ (.slice x.ad x.l x.c)).setCell ⟨w.heap.size + 2, 0, none⟩ (.slice (some ⟨g, 0, none⟩) (pre.length + 1) cap)) N n m (pre ++ [x]) := by
  have hpl : (pys pre).length = pre.length := by simp [pys]
  have hcl := icells_length (pys pre)
  rw [hpl] at hcl
  have hsz := hi.sz
  have hz0 : (W.drew.alloc o).heap.size = W.heap.size + 1 := by simp
  -- the item laid into its place
  obtain ⟨s1, g1⟩ := World.ownsRow.stored hown (pre.length * 3) (.bool x.it.list)
  obtain ⟨s2, g2⟩ := World.ownsRow.stored s1 (pre.length * 3 + 1) (.string x.it.text)
  obtain ⟨s3, g3⟩ := World.ownsRow.stored s2 (pre.length * 3 + 2) (.slice x.ad x.l x.c)
  have hlist : ((((icells (pys pre) ++ ([.bool false, .string ⟨#[]⟩, .slice none 0 0] : List Value)).set (pre.length * 3) (.bool x.it.list)).set (pre.length * 3 + 1) (.string x.it.text)).set (pre.length * 3 + 2) (.slice x.ad x.l x.c)) = icells (pys pre) ++ icell (x.it, .slice x.ad x.l x.c) := by
    rw [List.set_append_right _ _ (by omega), List.set_append_right _ _ (by omega), List.set_append_right _ _ (by omega), hcl]
    simp [icell, show pre.length * 3 + 1 - pre.length * 3 = 1 by omega, show pre.length * 3 + 2 - pre.length * 3 = 2 by omega]
  rw [hlist] at s3
  have g6 : w4.grownBy (((w4.setCell ⟨g, pre.length * 3, none⟩ (.bool x.it.list)).setCell ⟨g, pre.length * 3 + 1, none⟩ (.string x.it.text)).setCell ⟨g, pre.length * 3 + 2, none⟩ (.slice x.ad x.l x.c)) (some g) := grown_trans (grown_trans g1 g2 (.inl rfl)) g3 (.inl rfl)
  generalize ((w4.setCell ⟨g, pre.length * 3, none⟩ (.bool x.it.list)).setCell ⟨g, pre.length * 3 + 1, none⟩ (.string x.it.text)).setCell ⟨g, pre.length * 3 + 2, none⟩ (.slice x.ad x.l x.c) = W6 at *
  clear s1 s2 g1 g2 g3 hlist
  have hg0 : (W.drew.alloc o).grownBy W6 (Value.slice va pre.length vc).ownBlock := grown_trans hgr g6 hsn
  have hbW : Below W.heap.size W (W.drew.alloc o) := (Below.refl _ W).drew.alloc (Nat.le_refl _) o
  have hrow : ∀ q, (Value.slice va pre.length vc).ownBlock = some q → N ≤ q ∧ q < W.heap.size := fun q hq => hBl.row.lt q hq
  have hB6 : Bld W6 N n (.slice (some ⟨g, 0, none⟩) (pre.length + 1) cap) (pys pre ++ [(x.it, .slice x.ad x.l x.c)]) :=
    (hBl.below hbW).snoc (hax.rd.keep fun b _ hl => hbW.block b hl) ⟨_, _, _, rfl⟩ hax.lo.1 (fun q hq => (hk q hq).1) (by rw [hpl]; exact s3) hg0 hsn
  have keep6 : ∀ (b : Nat) vs t, b < N → Bk W b vs t → Bk W6 b vs t := fun b vs t hb h => bk_grown (h.drew.alloc o) hg0 (fun q hq => by have := (hrow q hq).1; omega)
  refine ⟨fun N' => ⟨?_, fun k ob _ hk' hnc => ?_⟩, fun b vs t hb h1 h2 h => (keep6 b vs t hb h).other (by simpa using h1) _, ⟨some ⟨g, 0, none⟩, cap, ?_, ?_⟩, ?_, ?_, ?_, ?_⟩
  · have := hg0.size; simp at this ⊢; omega
  · have hkl : k < W.heap.size := (Array.getElem?_eq_some_iff.1 hk').1
    have hkV : k ≠ w.heap.size + 2 := by
      intro e; subst e
      rw [show W.heap[w.heap.size + 2]? = _ from hV] at hk'
      simp at hk'; subst hk'; simp [Obj.isCells] at hnc
    have hkr : some k ≠ (Value.slice va pre.length vc).ownBlock := by
      intro e
      rcases hBl.row.2 with ⟨h', _⟩ | ⟨g', cap', cur, h', _, hh, _⟩
      · rw [h'] at e; simp [Value.ownBlock] at e
      · rw [h'] at e; simp [Value.ownBlock] at e; subst e
        rw [hh] at hk'; simp at hk'; subst hk'; simp [Obj.isCells] at hnc
    refine (Below.heap_setCell W6 _ _ k (by simpa using hkV)).trans ((hg0.block k (by omega) hkr).trans ?_)
    exact (Below.heap_alloc W.drew o k hkl).trans hk'
  · have : (pre ++ [x]).length = pre.length + 1 := by simp
    rw [this]
    exact (keep6 _ _ _ (by omega) hV).set 0 _ rfl
  · have : (pre ++ [x]).length = pre.length + 1 := by simp
    have e : pys (pre ++ [x]) = pys pre ++ [(x.it, .slice x.ad x.l x.c)] := by simp [pys]
    rw [this, e]
    refine ⟨World.ownsRow.kept hB6.row ⟨rfl, rfl, rfl, by simp, fun q _ hq => Below.heap_setCell W6 _ _ q (fun e => hq (by rw [e]))⟩ (.inr (show (some g : Option Nat) ≠ some (w.heap.size + 2) by simp; omega)), fun p hp => ⟨(hB6.each p hp).1, (hB6.each p hp).2.keep fun b hb _ => Below.heap_setCell W6 _ _ b (fun e => by have := hb.1; simp at e; omega)⟩⟩
  · exact (keep6 _ _ _ (by omega) hi.nb).other (by simp) _
  · exact ((hi.bel.trans (hbW.mono hi.bel.size)).trans (grown_below hg0 (by omega) (fun q hq => by have := (hrow q hq).1; omega))).setCell (p := ⟨w.heap.size + 2, 0, none⟩) (by simp) _
  · have := hg0.size; simp at this ⊢; omega
  · rw [List.length_append]; show pre.length + 1 ≤ m; omega
end Go.Proofs.Ytliaegnhnnnojaa

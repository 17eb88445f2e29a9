import Derived.Test.YtliaegnhnnnojaaPts
import Derived.Test.YtliaegnhnnnojaaApI
import Derived.Scope
set_option linter.unusedSimpArgs false
set_option linter.unusedVariables false
namespace Go.Proofs.Ytliaegnhnnnojaa
open Go.RowKit Go.Shelf
attribute [local go_sem] Oper.semAt_some

/-! What item.takeAll's rounds keep. -/
def pxs (pre : List PX) : List (IT × Value) := pre.map fun x => (x.it, .slice x.ad x.l x.c)
/-- What holds ahead of a round. -/
structure TI (w W : World) (r : Nat) (pre : List PX) : Prop where
  row : ∃ va vc, Bk W w.heap.size #[.slice va pre.length vc] 24 ∧ Bld W (w.heap.size + 4) (r + 2) (.slice va pre.length vc) (pxs pre)
  ft : Bk W (w.heap.size + 1) #[.int .i64 0] 29
  ok : ∀ x ∈ pre, x.e = 0
  bel : Below w.heap.size w W
  sz : w.heap.size + 4 ≤ W.heap.size
structure TX (w W : World) : Prop where
  ft : Bk W (w.heap.size + 1) #[.int .i64 1] 29
  bel : Below w.heap.size w W
theorem TI.below {w A B : World} {r : Nat} {pre : List PX} (h : TI w A r pre) (hb : Below A.heap.size A B) : TI w B r pre := by
  obtain ⟨⟨va, vc, h1, h2⟩, h3, h4, h5, h6⟩ := h
  exact ⟨⟨va, vc, h1.below hb h1.lt, h2.below hb⟩, h3.below hb h3.lt, h4, h5.trans (hb.mono h5.size), Nat.le_trans h6 hb.size⟩
theorem TX.below {w A B : World} (h : TX w A) (hb : Below A.heap.size A B) : TX w B := ⟨h.ft.below hb h.ft.lt, h.bel.trans (hb.mono h.bel.size)⟩
/-- What reads as items lies in blocks of cells. -/
theorem RdP.put {A : World} {P : Nat → Prop} {l : Nat} {o o' : Obj} (h : A.heap[l]? = some o) (hc : o.isCells = false) : ∀ {n : Nat} {xs : List IT} {v : Value}, RdP A P n xs v → RdP (A.putObj l o') P n xs v
  | 0, _, _, hr => hr
  | n + 1, xs, v, hr => by
    obtain ⟨hl, ad, cap, hv, hr⟩ := hr
    refine ⟨hl, ad, cap, hv, fun i hi => ?_⟩
    obtain ⟨b, off, ha, hP, a, l', c, h0, h1, h2, h3⟩ := hr i hi
    have hne : b ≠ l := by
      intro e
      subst e
      unfold World.cell? at h0
      rw [h] at h0
      cases o <;> simp_all [Obj.isCells]
    have hb : (A.putObj l o').heap[b]? = A.heap[b]? := World.putObj_heap_other hne
    exact ⟨b, off, ha, ⟨hP.1, hP.2.imp id fun ⟨vs, t, e⟩ => ⟨vs, t, hb.trans e⟩⟩, a, l', c, (World.cell?_of_block hb).trans h0, (World.cell?_of_block hb).trans h1, (World.cell?_of_block hb).trans h2, RdP.put h hc h3⟩
theorem Bld.put {A : World} {base n l : Nat} {o o' : Obj} {v : Value} {ps : List (IT × Value)} (h : A.heap[l]? = some o) (hc : o.isCells = false) (hB : Bld A base n v ps) : Bld (A.putObj l o') base n v ps := by
  refine ⟨⟨hB.row.1, ?_⟩, fun p hp => ⟨(hB.each p hp).1, (hB.each p hp).2.put h hc⟩⟩
  rcases hB.row.2 with h2 | ⟨g, cap, cur, rfl, h3, h4, h5⟩
  · exact .inl h2
  · exact .inr ⟨g, cap, cur, rfl, h3, bk_put h4 h hc, h5⟩
theorem TI.put {w A : World} {r l : Nat} {pre : List PX} {o o' : Obj} (hi : TI w A r pre) (hl : w.heap.size ≤ l) (h : A.heap[l]? = some o) (hc : o.isCells = false) : TI w (A.putObj l o') r pre := by
  obtain ⟨⟨va, vc, h1, h2⟩, h3, h4, h5, h6⟩ := hi
  exact ⟨⟨va, vc, bk_put h1 h hc, h2.put h hc⟩, bk_put h3 h hc, h4, h5.trans (below_put _ _ hl), by simpa [World.putObj] using h6⟩
theorem TX.put {w A : World} {l : Nat} {o o' : Obj} (hi : TX w A) (hl : w.heap.size ≤ l) (h : A.heap[l]? = some o) (hc : o.isCells = false) : TX w (A.putObj l o') := ⟨bk_put hi.ft h hc, hi.bel.trans (below_put _ _ hl)⟩
/-- What a round is handed. -/
structure TAx (w W : World) (r : Nat) (x : PX) (X B : Nat) : Prop where
  bX : Bk W X #[.bool x.it.list, .string x.it.text, .slice x.ad x.l x.c] 26
  rd : RdP W (B ≤ ·) (r + 2) x.it.items (.slice x.ad x.l x.c)
  lo : w.heap.size + 4 ≤ B ∧ w.heap.size + 4 ≤ X
  old : ∃ va n vc, Bk W w.heap.size #[.slice va n vc] 24 ∧ n + 1 ≤ 1099511627776 ∧ ∀ k, (Value.slice va n vc).ownBlock = some k → k < B ∧ k ≠ X
theorem TAx.put {w A : World} {r X B l : Nat} {x : PX} {o o' : Obj} (hx : TAx w A r x X B) (h : A.heap[l]? = some o) (hc : o.isCells = false) : TAx w (A.putObj l o') r x X B := by
  obtain ⟨h1, h2, h3, va, n, vc, h4, h5⟩ := hx
  exact ⟨bk_put h1 h hc, h2.put h hc, h3, va, n, vc, bk_put h4 h hc, h5⟩
theorem TAx.mk' {w A0 W : World} {r : Nat} {s : ByteArray} {pre : List PX} {x : PX} (hi0 : TI w A0 r pre) (hbA : Below A0.heap.size A0 W) (hgd : pgd r s A0.heap.size pre x W) (hs : s.size ≤ 1099511627776) : TAx w (W.alloc (.cells #[.bool x.it.list, .string x.it.text, .slice x.ad x.l x.c] 26)) r x W.heap.size A0.heap.size := by
  obtain ⟨hrd, ys, z, p, e, hg, hp, -, -⟩ := hgd
  obtain ⟨⟨va, vc, h1, h2⟩, h3, h4, h5, h6⟩ := hi0
  have hzs := hbA.size
  have hys : ys.length = pre.length := by have := congrArg List.length e; simp at this; omega
  have hlen := hg.1.len (tk_prog r)
  simp only [List.length_map] at hlen
  refine ⟨Bk.new _ _ _, hrd.keep (fun b _ hl => Below.heap_alloc W _ b hl), ⟨h6, by omega⟩, va, pre.length, vc, (h1.below hbA h1.lt).alloc _, by omega, fun k hk => ?_⟩
  have := (h2.row.lt k hk).2
  exact ⟨this, by omega⟩
def TaQ (r : Nat) (s : ByteArray) (w : World) (e : Ending) (w' : World) : Prop :=
  ((∃ xs ad l c, tkAll (tk r) s = some xs ∧ e = .returned (.tuple #[.slice ad l c, .int .i64 0]) ∧ RdP w' (w.heap.size ≤ ·) (r + 3) xs (.slice ad l c)) ∨ (tkAll (tk r) s = none ∧ e = .returned (.tuple #[.slice none 0 0, .int .i64 1]))) ∧ Below w.heap.size w w'
theorem stepIn_append_src {l n' : Nat} {P : Program} {ops : Array Oper} {o : Oper} {a : Act} {w : World} {K : Act → World → Prop} {Q : Exit → Act → World → Prop} {E : Prop} (hgd : o.guard = none) (s x : Operand) (t tx : TypeId)
    (ho : o.op = .call { callee := .builtin .append, args := #[s, x], argTypes := #[t, tx] })
    (base : Nat) (e : TypeId) (i : TypeInfo) (z : Value) (size bytes : Nat) (ht : P.underlying t = some (.slice e)) (hi : P.info? e = some i) (hz : i.zero = some z)
    (hsize : i.size = size) (hby : i.bytes = bytes) (hzs : z.cells.size = size)
    (v xv : Value) (n : Nat) (xs : List Value) (m : Nat) (news : List Value) (hs : a.eval s = v) (hx : a.eval x = xv) (hown : w.ownsRow base e size v n xs) (hsrc : Src P size tx xv m news w)
    (h63 : n + m ≤ maxLen) (hbytes : (n + m) * bytes ≤ 140737488355328) (hbase : base ≤ w.heap.size) (hm : 0 < m) (N : Nat) (hN : n + m = N)
    (h : ∀ g cap w', w'.ownsRow base e size (.slice (some ⟨g, 0, none⟩) N cap) N (xs ++ news) → w.grownBy w' v.ownBlock → Sn w v (.slice (some ⟨g, 0, none⟩) N cap) → g < w'.heap.size → base ≤ g → K (a.put o.dst (.slice (some ⟨g, 0, none⟩) N cap)) w') :
    if Region.wanted o (yielded ops a.tmps) = true then Oper.wpIn (Fence.wide.inRound l) n' P o a w K Q else E := by
  subst hN
  rw [if_pos (by simp [Region.wanted, hgd])]
  obtain ⟨v', w', hr, h2, h3, h4⟩ := run_append_own_src (P := P) w base t tx o.type e i z size bytes ht hi hz hsize hby hzs v n xs hown xv m news hsrc h63 hbytes hbase
  refine ⟨fun _ _ => trivial, ?_⟩
  rw [Oper.semAt_plain (Fence.wide.inRound l) a.eval o (by rw [ho]; intro c; simp)]
  unfold execOp
  simp only [ho, resolve, invoke, builtin, Sem.run_bind, Sem.run_pure, Result.andThen_ok, List.map_toArray, List.map_cons, List.map_nil, hs, hx, hr]
  have h2' := h2
  rcases h2.2 with ⟨rfl, hz'⟩ | ⟨g, cap, cur, rfl, hg, hh, _⟩
  · omega
  · exact h g cap w' h2' h3 h4 (Array.getElem?_eq_some_iff.1 hh).1 hg
theorem set_comm (w : World) (a b : Addr) (u v : Value) (h : a.block ≠ b.block) : (w.setCell a u).setCell b v = (w.setCell b v).setCell a u := by
  unfold World.setCell
  congr 1
  apply Array.ext
  · simp
  · intro i h1 h2
    simp only [Array.getElem_modify]
    split <;> split <;> simp_all
/-- Behind a round that went on. -/
theorem ta_end {w W w4 : World} {r : Nat} {pre : List PX} {x : PX} {X B g cap : Nat} (va : Option Addr) (vc : Nat) (hV : Bk W w.heap.size #[.slice va pre.length vc] 24) (hBl : Bld W (w.heap.size + 4) (r + 2) (.slice va pre.length vc) (pxs pre)) (hi : TI w W r pre) (he : x.e = 0) (hax : TAx w W r x X B)
    (hk : ∀ k, (Value.slice va pre.length vc).ownBlock = some k → k < B ∧ k ≠ X) (o : Obj)
    (hown : w4.ownsRow (w.heap.size + 4) 26 3 (.slice (some ⟨g, 0, none⟩) (pre.length + 1) cap) (pre.length + 1) (icells (pxs pre) ++ [.bool false, .string ⟨#[]⟩, .slice none 0 0])) (hgr : (W.drew.alloc o).grownBy w4 (Value.slice va pre.length vc).ownBlock) (hsn : Sn (W.drew.alloc o) (.slice va pre.length vc) (.slice (some ⟨g, 0, none⟩) (pre.length + 1) cap)) (hg : w.heap.size + 4 ≤ g) :
    (∀ N, KeepsFrom N W ((((w4.setCell ⟨g, pre.length * 3, none⟩ (.bool x.it.list)).setCell ⟨g, pre.length * 3 + 1, none⟩ (.string x.it.text)).setCell ⟨g, pre.length * 3 + 2, none⟩ (.slice x.ad x.l x.c)).setCell ⟨w.heap.size, 0, none⟩ (.slice (some ⟨g, 0, none⟩) (pre.length + 1) cap))) ∧ KpL (w.heap.size + 4) w.heap.size (w.heap.size + 1) W ((((w4.setCell ⟨g, pre.length * 3, none⟩ (.bool x.it.list)).setCell ⟨g, pre.length * 3 + 1, none⟩ (.string x.it.text)).setCell ⟨g, pre.length * 3 + 2, none⟩ (.slice x.ad x.l x.c)).setCell ⟨w.heap.size, 0, none⟩ (.slice (some ⟨g, 0, none⟩) (pre.length + 1) cap)) ∧ TI w ((((w4.setCell ⟨g, pre.length * 3, none⟩ (.bool x.it.list)).setCell ⟨g, pre.length * 3 + 1, none⟩ (.string x.it.text)).setCell ⟨g, pre.length * 3 + 2, none⟩ (.slice x.ad x.l x.c)).setCell ⟨w.heap.size, 0, none⟩ (.slice (some ⟨g, 0, none⟩) (pre.length + 1) cap)) r (pre ++ [x]) := by
  have hpl : (pxs pre).length = pre.length := by simp [pxs]
  have hcl := icells_length (pxs pre)
  rw [hpl] at hcl
  have hsz := hi.sz
  have hz0 : (W.drew.alloc o).heap.size = W.heap.size + 1 := by simp
  -- the item laid into its place
  obtain ⟨s1, g1⟩ := World.ownsRow.stored hown (pre.length * 3) (.bool x.it.list)
  obtain ⟨s2, g2⟩ := World.ownsRow.stored s1 (pre.length * 3 + 1) (.string x.it.text)
  obtain ⟨s3, g3⟩ := World.ownsRow.stored s2 (pre.length * 3 + 2) (.slice x.ad x.l x.c)
  have hlist : ((((icells (pxs pre) ++ ([.bool false, .string ⟨#[]⟩, .slice none 0 0] : List Value)).set (pre.length * 3) (.bool x.it.list)).set (pre.length * 3 + 1) (.string x.it.text)).set (pre.length * 3 + 2) (.slice x.ad x.l x.c)) = icells (pxs pre) ++ icell (x.it, .slice x.ad x.l x.c) := by
    rw [List.set_append_right _ _ (by omega), List.set_append_right _ _ (by omega), List.set_append_right _ _ (by omega), hcl]
    simp [icell, show pre.length * 3 + 1 - pre.length * 3 = 1 by omega, show pre.length * 3 + 2 - pre.length * 3 = 2 by omega]
  rw [hlist] at s3
  have g6 : w4.grownBy (((w4.setCell ⟨g, pre.length * 3, none⟩ (.bool x.it.list)).setCell ⟨g, pre.length * 3 + 1, none⟩ (.string x.it.text)).setCell ⟨g, pre.length * 3 + 2, none⟩ (.slice x.ad x.l x.c)) (some g) := grown_trans (grown_trans g1 g2 (.inl rfl)) g3 (.inl rfl)
  generalize ((w4.setCell ⟨g, pre.length * 3, none⟩ (.bool x.it.list)).setCell ⟨g, pre.length * 3 + 1, none⟩ (.string x.it.text)).setCell ⟨g, pre.length * 3 + 2, none⟩ (.slice x.ad x.l x.c) = W6 at *
  clear s1 s2 g1 g2 g3 hlist
  have hg0 : (W.drew.alloc o).grownBy W6 (Value.slice va pre.length vc).ownBlock := grown_trans hgr g6 hsn
  have hbW : Below W.heap.size W (W.drew.alloc o) := (Below.refl _ W).drew.alloc (Nat.le_refl _) o
  have hrow : ∀ q, (Value.slice va pre.length vc).ownBlock = some q → w.heap.size + 4 ≤ q ∧ q < W.heap.size := fun q hq => hBl.row.lt q hq
  have hB6 : Bld W6 (w.heap.size + 4) (r + 2) (.slice (some ⟨g, 0, none⟩) (pre.length + 1) cap) (pxs pre ++ [(x.it, .slice x.ad x.l x.c)]) :=
    (hBl.below hbW).snoc (hax.rd.keep fun b _ hl => hbW.block b hl) ⟨_, _, _, rfl⟩ hax.lo.1 (fun q hq => (hk q hq).1) (by rw [hpl]; exact s3) hg0 hsn
  have keep6 : ∀ (b : Nat) vs t, b < w.heap.size + 4 → Bk W b vs t → Bk W6 b vs t := fun b vs t hb h => bk_grown (h.drew.alloc o) hg0 (fun q hq => by have := (hrow q hq).1; omega)
  refine ⟨fun N => ⟨?_, fun k ob _ hk' hnc => ?_⟩, fun b vs t hb h1 h2 h => (keep6 b vs t hb h).other (by simpa using h1) _, ⟨some ⟨g, 0, none⟩, cap, ?_, ?_⟩, ?_, ?_, ?_, ?_⟩
  · have := hg0.size; simp at this ⊢; omega
  · have hkl : k < W.heap.size := (Array.getElem?_eq_some_iff.1 hk').1
    have hkV : k ≠ w.heap.size := by
      intro e; subst e
      rw [show W.heap[w.heap.size]? = _ from hV] at hk'
      simp at hk'; subst hk'; simp [Obj.isCells] at hnc
    have hkr : some k ≠ (Value.slice va pre.length vc).ownBlock := by
      intro e
      rcases hBl.row.2 with ⟨h', _⟩ | ⟨g', cap', cur, h', _, hh, _⟩
      · rw [h'] at e; simp [Value.ownBlock] at e
      · rw [h'] at e; simp [Value.ownBlock] at e; subst e
        rw [hh] at hk'; simp at hk'; subst hk'; simp [Obj.isCells] at hnc
    refine (Below.heap_setCell W6 _ _ k (by simpa using hkV)).trans ((hg0.block k (by omega) hkr).trans ?_)
    exact (Below.heap_alloc W.drew o k hkl).trans hk'
  · have : (pre ++ [x]).length = pre.length + 1 := by simp
    rw [this]
    exact (keep6 _ _ _ (by omega) hV).set 0 _ rfl
  · have : (pre ++ [x]).length = pre.length + 1 := by simp
    have e : pxs (pre ++ [x]) = pxs pre ++ [(x.it, .slice x.ad x.l x.c)] := by simp [pxs]
    rw [this, e]
    refine ⟨World.ownsRow.kept hB6.row ⟨rfl, rfl, rfl, by simp, fun q _ hq => Below.heap_setCell W6 _ _ q (fun e => hq (by rw [e]))⟩ (.inr (show (some g : Option Nat) ≠ some w.heap.size by simp; omega)), fun p hp => ⟨(hB6.each p hp).1, (hB6.each p hp).2.keep fun b hb _ => Below.heap_setCell W6 _ _ b (fun e => by have := hb.1; simp at e; omega)⟩⟩
  · exact (keep6 _ _ _ (by omega) hi.ft).other (by simp) _
  · intro y hy
    rcases List.mem_append.1 hy with hy | hy
    · exact hi.ok y hy
    · simp at hy; subst hy; exact he
  · exact ((hi.bel.trans (hbW.mono hi.bel.size)).trans (grown_below hg0 (by omega) (fun q hq => by have := (hrow q hq).1; omega))).setCell (p := ⟨w.heap.size, 0, none⟩) (by simp) _
  · have := hg0.size; simp at this ⊢; omega
end Go.Proofs.Ytliaegnhnnnojaa

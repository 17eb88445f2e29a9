/- Texts joined: ECs Cmp TkL. -/
import Derived.Test.YtapjonmgjccpbaaECp
import Derived.Test.YtapjonmgjccpbaaJ2
import Derived.Test.YtapjonmgjccpbaaJ3
import Derived.Test.YtapjonmgjccpbaaJ5
section
set_option linter.unusedSimpArgs false
set_option linter.unusedVariables false
set_option maxRecDepth 100000
namespace Go.Proofs.Ytapjonmgjccpbaa
open Go.RowKit

/-! item.copies: a copy of one's own. -/
/-- A row of items of which the first k have been copied. -/
structure Cp (w W : World) (n k : Nat) (v : Value) (xs : List IT) (ps : List (IT × Value)) : Prop where
  row : W.ownsRow w.heap.size 70 3 v ps.length (icells ps)
  fst : ps.map Prod.fst = xs
  new : ∀ i (hi : i < ps.length), i < k → (∃ a l c, ps[i].2 = .slice a l c) ∧ RdP W (fun b => w.heap.size ≤ b ∧ some b ≠ v.ownBlock) n ps[i].1.items ps[i].2
  old : ∀ i (hi : i < ps.length), k ≤ i → (∃ a l c, ps[i].2 = .slice a l c) ∧ Rd w n ps[i].1.items ps[i].2
  bel : Below w.heap.size w W
theorem Cp.len {w W : World} {n k : Nat} {v : Value} {xs : List IT} {ps : List (IT × Value)} (h : Cp w W n k v xs ps) : ps.length = xs.length := by
  have := congrArg List.length h.fst
  simpa using this
theorem Cp.done {w W : World} {n : Nat} {v : Value} {xs : List IT} {ps : List (IT × Value)} (h : Cp w W n xs.length v xs ps) (hl : xs.length ≤ 9223372036854775807) : RdP W (w.heap.size ≤ ·) (n + 1) xs v := by
  have hB : Bld W w.heap.size n v ps := ⟨h.row, fun p hp => by
    obtain ⟨i, hi, rfl⟩ := List.mem_iff_getElem.1 hp
    exact h.new i hi (by have := h.len; omega)⟩
  have := hB.rd (by have := h.len; omega)
  rw [h.fst] at this
  exact this
/-- One more is copied. -/
theorem Cp.next {w W W2 : World} {n k g cap B m : Nat} {xs : List IT} {ps : List (IT × Value)} (h : Cp w W n k (.slice (some ⟨g, 0, none⟩) m cap) xs ps) (hm : m = ps.length) (hk : k < ps.length) (hb : Below W.heap.size W W2) {ad : Option Addr} {l c : Nat} (hB : W.heap.size ≤ B)
    (hr : RdP W2 (B ≤ ·) n ps[k].1.items (.slice ad l c)) :
    Cp w (((W2.setCell ⟨g, k * 3, none⟩ (.bool ps[k].1.list)).setCell ⟨g, k * 3 + 1, none⟩ (.string ps[k].1.text)).setCell ⟨g, k * 3 + 2, none⟩ (.slice ad l c)) n (k + 1) (.slice (some ⟨g, 0, none⟩) m cap) xs (ps.set k (ps[k].1, .slice ad l c)) := by
  subst hm
  have hg : w.heap.size ≤ g ∧ g < W.heap.size := h.row.lt g rfl
  have hrow2 : W2.ownsRow w.heap.size 70 3 (.slice (some ⟨g, 0, none⟩) ps.length cap) ps.length (icells ps) := World.ownsRow.kept h.row (grown_of_below (r := none) hb) (.inr (by simp [Value.ownBlock]))
  obtain ⟨s1, g1⟩ := World.ownsRow.stored hrow2 (k * 3) (.bool ps[k].1.list)
  obtain ⟨s2, g2⟩ := World.ownsRow.stored s1 (k * 3 + 1) (.string ps[k].1.text)
  obtain ⟨s3, g3⟩ := World.ownsRow.stored s2 (k * 3 + 2) (.slice ad l c)
  rw [icells_set ps k hk ps[k].1 (.slice ad l c)] at s3
  have hoth : ∀ b, b ≠ g → (((W2.setCell ⟨g, k * 3, none⟩ (.bool ps[k].1.list)).setCell ⟨g, k * 3 + 1, none⟩ (.string ps[k].1.text)).setCell ⟨g, k * 3 + 2, none⟩ (.slice ad l c)).heap[b]? = W2.heap[b]? := fun b hbg => ((Below.heap_setCell _ _ _ b hbg).trans (Below.heap_setCell _ _ _ b hbg)).trans (Below.heap_setCell _ _ _ b hbg)
  refine ⟨by rw [List.length_set]; exact s3, ?_, ?_, ?_, ?_⟩
  · rw [List.map_set, ← h.fst]
    apply List.ext_getElem
    · simp
    · intro i h1 h2
      rw [List.getElem_set]
      split
      · rename_i e; subst e; simp
      · rfl
  · intro i hi hik
    have hi' : i < ps.length := by simpa using hi
    by_cases e : k = i
    · subst e
      simp only [List.getElem_set_self]
      refine ⟨⟨ad, l, c, rfl⟩, ?_⟩
      refine (hr.keep fun b hb' _ => hoth b (by have : B ≤ b := hb'; omega)).weak fun b hb' => ?_
      have hb'' : B ≤ b := hb'
      refine ⟨by omega, ?_⟩
      simp only [Value.ownBlock]
      intro e
      injection e with e
      omega
    · rw [List.getElem_set_ne e]
      have := h.new i hi' (by omega)
      refine ⟨this.1, this.2.keep fun b hb' hl => ?_⟩
      have hne : b ≠ g := fun e => hb'.2 (by rw [e]; rfl)
      exact (hoth b hne).trans (hb.block b hl)
  · intro i hi hik
    have hi' : i < ps.length := by simpa using hi
    rw [List.getElem_set_ne (show k ≠ i by omega)]
    exact h.old i hi' (by omega)
  · exact (((h.bel.trans (hb.mono h.bel.size)).setCell (p := ⟨g, k * 3, none⟩) hg.1 _).setCell (p := ⟨g, k * 3 + 1, none⟩) hg.1 _).setCell (p := ⟨g, k * 3 + 2, none⟩) hg.1 _
theorem wts_mem {xs : List IT} {k : Nat} (hk : k < xs.length) : xs[k].wt ≤ IT.wts xs := wt_get xs k hk
set_option maxHeartbeats 2000000 in
theorem copies_step (n : Nat) (h : CdS n) : CsS (n + 1) := by
  intro xs ad cap w hr hw
  have HI : Hid (CdS n) := h
  have HW : Hid (IT.wts xs ≤ 1099511627776) := hw
  have hll := len_wts xs
  have HC : Hid (Calls Try.prog 115 #[.slice ad xs.length cap] w (ClQ n xs w)) := cloneI n xs ad cap w hr (by omega)
  have hxl : xs.length ≤ 1099511627776 := by omega
  clear h hw hr hll
  go_enter Try.func95, Try.ntmps95
  go_wp2_with fail
  refine HC.out.mono ?_
  rintro e w1 ⟨ps0, v', rfl, hp1, hp2, hrow, hb1⟩
  have hlen0 : ps0.length = xs.length := by have := congrArg List.length hp1; simpa using this
  have H0 : Hid (Cp w w1 n 0 v' xs ps0) := ⟨hrow, hp1, fun i hi h => absurd h (by omega), fun i hi _ => hp2 ps0[i] (List.getElem_mem hi), hb1⟩
  obtain ⟨va, vc, hv⟩ : ∃ va vc, v' = .slice va xs.length vc := by
    rcases hrow.2 with ⟨rfl, hz⟩ | ⟨g, cap, cur, rfl, _⟩
    · exact ⟨none, 0, by rw [← hlen0, hz]⟩
    · exact ⟨_, cap, by rw [hlen0]⟩
  subst hv
  clear hp1 hp2 hrow hb1 HC hlen0
  go_wp2_with fail
  go_loopw [10] (fun i wr => ∃ (k : Nat) (ps : List (IT × Value)), k ≤ xs.length ∧ i = .int .i64 k ∧ Hid (Cp w wr n k (.slice va xs.length vc) xs ps)) (fun i _ => xs.length - (intOf i).toNat)
  case atStart => exact ⟨0, ps0, by omega, rfl, H0.out⟩
  case round =>
    obtain ⟨k, ps, hk, rfl, hcp⟩ := hrel
    clear H0
    by_cases hlt : k < xs.length
    · have hlt' : (k : Int) < (xs.length : Int) := by omega
      have hpl := hcp.out.len
      obtain ⟨g, cur, rfl, hgB, hbk⟩ : ∃ g cur, va = some ⟨g, 0, none⟩ ∧ w.heap.size ≤ g ∧ Bk wr g cur 70 := by
        rcases hcp.out.row.2 with ⟨h1, h2⟩ | ⟨g, cap', cur, h1, h2, h3, _⟩
        · omega
        · injection h1 with h1 _ _
          exact ⟨g, cur, h1, h2, h3⟩
      obtain ⟨i0, i1, i2⟩ := icells_at ps k (by omega)
      have hcell : ∀ j u, (icells ps)[j]? = some u → wr.cell? ⟨g, j, none⟩ = some u := fun j u hj => by
        have := World.ownsRow.cells hcp.out.row (g := g) rfl j u hj
        rw [Addr.add_lit, Nat.zero_add] at this
        exact this
      have c0 := hcell _ _ i0
      have c1 := hcell _ _ i1
      obtain ⟨⟨s0, s1, s2, hs⟩, hrd⟩ := hcp.out.old k (by omega) (Nat.le_refl _)
      rw [hs] at i2 hrd
      have c2 := hcell _ _ i2
      have lg := hbk.lt
      have hxk : ps[k].1 = xs[k] := by
        have h1 : (ps.map Prod.fst)[k]'(by simp; omega) = xs[k] := by congr 1; exact hcp.out.fst
        simpa using h1
      have hwk := wts_mem hlt
      have HCd : Hid (∀ W, Below w.heap.size w W → Calls Try.prog 97 #[.agg #[.bool ps[k].1.list, .string ps[k].1.text, .slice s0 s1 s2]] W fun e w' => (∃ ad' l' c', e = .returned (.agg #[.bool ps[k].1.list, .string ps[k].1.text, .slice ad' l' c']) ∧ RdP w' (W.heap.size ≤ ·) n ps[k].1.items (.slice ad' l' c')) ∧ Below W.heap.size W w') := fun W hW => HI.out ps[k].1 s0 s1 s2 W (hrd.below hW) (by rw [hxk]; have := HW.out; omega)
      have HNx : Hid (∀ (W2 : World) (B : Nat) (ad' : Option Addr) (l' c' : Nat), Below wr.heap.size wr W2 → wr.heap.size ≤ B → RdP W2 (B ≤ ·) n ps[k].1.items (.slice ad' l' c') → ∃ ps', Cp w (((W2.setCell ⟨g, k * 3, none⟩ (.bool ps[k].1.list)).setCell ⟨g, k * 3 + 1, none⟩ (.string ps[k].1.text)).setCell ⟨g, k * 3 + 2, none⟩ (.slice ad' l' c')) n (k + 1) (.slice (some ⟨g, 0, none⟩) xs.length vc) xs ps') := fun W2 B ad' l' c' h1 h2 h3 => ⟨_, hcp.out.next hpl.symm (by omega) h1 h2 h3⟩
      have Hbel : Hid (Below w.heap.size w wr) := hcp.out.bel
      have HBk : Hid (Bk wr g cur 70) := hbk
      generalize ps[k].1.list = Lk at *
      generalize ps[k].1.text = Tk at *
      generalize ps[k].1.items = Ik at *
      clear hcell i0 i1 i2 hs hrd hxk hwk hcp hpl hbk
      go_wp2_with fail
      have hb0 : Below wr.heap.size wr (wr.alloc (.cells #[.bool Lk, .string Tk, .slice s0 s1 s2] 70)) := (Below.refl _ wr).alloc (Nat.le_refl _) _
      have hz0 : (wr.alloc (.cells #[.bool Lk, .string Tk, .slice s0 s1 s2] 70)).heap.size = wr.heap.size + 1 := by simp
      refine (HCd.out _ (Hbel.out.trans (hb0.mono Hbel.out.size))).mono ?_
      rintro e w2 ⟨⟨ad', l', c', rfl, hrd2⟩, hb2⟩
      have hb2' : Below wr.heap.size wr w2 := hb0.trans (hb2.mono hb0.size)
      have bk2 := HBk.out.below hb2' lg
      have c0 := (hb2'.cell (p := ⟨g, k * 3, none⟩) lg).trans c0
      have c1 := (hb2'.cell (p := ⟨g, k * 3 + 1, none⟩) lg).trans c1
      have c2 := (hb2'.cell (p := ⟨g, k * 3 + 2, none⟩) lg).trans c2
      have f0 := bk2.frozen (k * 3)
      have f1 := bk2.frozen (k * 3 + 1)
      have f2 := bk2.frozen (k * 3 + 2)
      have lg2 := bk2.lt
      have HX : Hid (∃ ps', Cp w (((w2.setCell ⟨g, k * 3, none⟩ (.bool Lk)).setCell ⟨g, k * 3 + 1, none⟩ (.string Tk)).setCell ⟨g, k * 3 + 2, none⟩ (.slice ad' l' c')) n (k + 1) (.slice (some ⟨g, 0, none⟩) xs.length vc) xs ps') := HNx.out w2 _ ad' l' c' hb2' (by rw [hz0]; omega) hrd2
      clear HCd HNx hb2 hb2' hb0 hrd2 hz0 bk2 HBk Hbel
      go_wp2_with fail
      go_roundw
      case rel =>
        obtain ⟨ps', hX⟩ := HX.out
        exact ⟨k + 1, ps', by omega, by go_num, hX⟩
      case measure => simp [intOf]; omega
    · have hlt' : ¬ (k : Int) < (xs.length : Int) := by omega
      obtain rfl : k = xs.length := by omega
      go_wp2_with fail
      go_ret
      exact ⟨⟨_, _, _, rfl, hcp.out.done (by omega)⟩, hcp.out.bel⟩
theorem copies_all : ∀ n, CsS n
  | 0 => fun xs ad cap w hr _ => hr.elim
  | n + 1 => copies_step n (copied_of n (copies_all n))
end Go.Proofs.Ytapjonmgjccpbaa
end
section
set_option linter.unusedSimpArgs false
set_option linter.unusedVariables false
namespace Go.Proofs.Ytapjonmgjccpbaa
open Go.RowKit Go.Shelf
attribute [local go_sem] Oper.semAt_some

theorem dn_alk {N M j : Nat} (hj : j ≤ 4) (h : ∀ p ∈ dn j, lb N p.1 = lb M p.1) : Alk (4 - j) N M := by
  have one : ∀ i, 4 - j ≤ i → i < 4 → lb N i = lb M i := by
    intro i h1 h2
    exact h ⟨i, h2⟩ (by simp only [dn, List.mem_map, List.mem_range]; exact ⟨3 - i, by omega, by ext; simp; omega⟩)
  exact ⟨fun h => one 0 h (by omega), fun h => one 1 h (by omega), fun h => one 2 h (by omega), fun h => one 3 h (by omega)⟩
set_option maxRecDepth 100000 in
set_option maxHeartbeats 2000000 in
theorem cmp (N M : Nat) (hN : N < M256) (hM : M < M256) (w : World) :
    Calls Try.prog 20 #[V N, V M] w fun e W' => e = .returned (.int .i64 (cmpV N M)) ∧ Below w.heap.size w W' := by
  have HN : Hid (N < M256) := hN
  have HM : Hid (M < M256) := hM
  clear hN hM
  refine (callsIn_wide (n := 6)).1 ?_
  refine callsIn_of_wp_marks Try.func20 rfl trivial ?_ rfl
  simp only [Try.ntmps20, List.size_toArray, List.length_cons, List.length_nil, Nat.reduceAdd, Nat.reduceSub, Array.replicate_succ, Array.replicate_zero, List.push_toArray, List.append_toArray, List.nil_append, List.cons_append]
  gi_wp2_with (refine ⟨trivial, ?_⟩; gi_at_call 50; refine (back_in _ _ trivial rfl _ _ _ _).mono ?_; rintro e w' ⟨rfl, rfl⟩)
  have bA := Bk.new w (A4 (lb N 0) (lb N 1) (lb N 2) (lb N 3)) 26
  have bB := Bk.new (w.alloc (.cells (A4 (lb N 0) (lb N 1) (lb N 2) (lb N 3)) 26)) (A4 (lb M 0) (lb M 1) (lb M 2) (lb M 3)) 26
  have bR := Boxed.new ((w.alloc (.cells (A4 (lb N 0) (lb N 1) (lb N 2) (lb N 3)) 26)).alloc (.cells (A4 (lb M 0) (lb M 1) (lb M 2) (lb M 3)) 26)) 3 (.int .i64 0)
  have bN := Bk.new (((w.alloc (.cells (A4 (lb N 0) (lb N 1) (lb N 2) (lb N 3)) 26)).alloc (.cells (A4 (lb M 0) (lb M 1) (lb M 2) (lb M 3)) 26)).alloc (.cells #[.int .i64 0] 3)) #[.slice (some ⟨w.heap.size, 0, none⟩) 4 4] 27
  rw [World.size_alloc] at bB
  rw [World.size_alloc, World.size_alloc] at bR
  rw [World.size_alloc, World.size_alloc, World.size_alloc] at bN
  have hB0 : Below w.heap.size w ((((w.alloc (.cells (A4 (lb N 0) (lb N 1) (lb N 2) (lb N 3)) 26)).alloc (.cells (A4 (lb M 0) (lb M 1) (lb M 2) (lb M 3)) 26)).alloc (.cells #[.int .i64 0] 3)).alloc (.cells #[.slice (some ⟨w.heap.size, 0, none⟩) 4 4] 27)) := ((((Below.refl _ w).alloc (Nat.le_refl _) _).alloc (by simp) _).alloc (by simp; omega) _).alloc (by simp; omega) _
  refine wpIn_rangeFunc_ownG rfl (by omega) (gf := 79) (lb := #[.pointer (some ⟨w.heap.size + 1 + 1 + 1, 0, none⟩)]) rfl trivial (enters_of Try.func79 (by kernel_rfl) rfl)
    (back_stops _ _ trivial rfl (by omega) (w.heap.size + 1 + 1 + 1) (w.heap.size + 4) w.heap.size N _ (by omega) (by omega) (by simp) (bN.cell 0) (fun j hj => lb_cells (((bA.alloc _).alloc _).alloc _) j hj)) belowK_t (belowK_b (by simp)) (Below.refl _ _) (fun _ => rfl)
    (fun pre W => ((∀ p ∈ pre, lb N p.1 = lb M p.1) ∧ (∀ j, j < 4 → W.cell? ⟨w.heap.size + 1, j, none⟩ = some (.int .u64 (lb M j))) ∧ W.cell? ⟨w.heap.size + 1 + 1, 0, none⟩ = some (.int .i64 0) ∧ W.frozen? ⟨w.heap.size + 1 + 1, 0, none⟩ = false) ∧ Below w.heap.size w W)
    (fun c pre W => (c = .ret ∧ ∃ ini last, pre = ini ++ [last] ∧ (∀ p ∈ ini, lb N p.1 = lb M p.1) ∧ ((lb N last.1 < lb M last.1 ∧ W.cell? ⟨w.heap.size + 1 + 1, 0, none⟩ = some (.int .i64 (-1))) ∨ (lb M last.1 < lb N last.1 ∧ W.cell? ⟨w.heap.size + 1 + 1, 0, none⟩ = some (.int .i64 1)))) ∧ Below w.heap.size w W)
    (OwnFrom.and (Own.from (fun s A B row hs hg hr => ⟨hs.1, fun j hj => cell_kept (hs.2.1 j hj) hg hr, cell_kept hs.2.2.1 hg hr, (frozen_kept hs.2.2.1 hg hr).trans hs.2.2.2⟩) _) (ownFrom_below (Nat.le_refl _) (by simp; omega)))
    (fun c => OwnFrom.and (Own.from (fun s A B row hs hg hr => by obtain ⟨hc, ini, last, e1, e2, e3⟩ := hs; exact ⟨hc, ini, last, e1, e2, e3.elim (fun h => .inl ⟨h.1, cell_kept h.2 hg hr⟩) (fun h => .inr ⟨h.1, cell_kept h.2 hg hr⟩)⟩) _) (ownFrom_below (Nat.le_refl _) (by simp; omega)))
    ⟨⟨by simp, fun j hj => lb_cells ((bB.alloc _).alloc _) j hj, (bR.alloc _).cell, (bR.alloc _).frozen⟩, hB0⟩
    (fun x => { tmps := #[V N, V M, .pointer (some ⟨w.heap.size, 0, none⟩), .pointer (some ⟨w.heap.size + 1, 0, none⟩), .pointer (some ⟨w.heap.size + 1 + 1, 0, none⟩), .int .i64 (x.1 : Int), .int .u64 (lb N x.1), .slice (some ⟨w.heap.size, 0, none⟩) 4 4, .func (.func 79) #[] #[.pointer (some ⟨w.heap.size + 1 + 1 + 1, 0, none⟩)], .int .i64 (x.1 : Int), .int .u64 (lb N x.1), undef, undef, undef, undef, undef, undef, undef, undef, undef, undef], defers := [] }) ?assign ?body ?done ?stop
  case assign =>
    intro l x W K hK
    gi_wp2
    exact hK
  case body =>
    rintro l pre x W ⟨⟨hp, hbc, hcr, hfr⟩, hB⟩ _
    have hx4 := x.2
    have hbx := hbc x.1 x.2
    have HB : Hid (∀ j, j < 4 → W.cell? ⟨w.heap.size + 1, j, none⟩ = some (.int .u64 (lb M j))) := hbc
    clear hbc
    gi_wp2
    · have hlt : lb N x.1 < lb M x.1 := by assumption
      exact ⟨(KeepsOthers.setCell _ _ _).from _, ⟨rfl, pre, x, rfl, hp, .inl ⟨hlt, World.cell?_setCell_same' _ _ _ (by rw [hcr]; rfl)⟩⟩, hB.setCell (p := ⟨w.heap.size + 1 + 1, 0, none⟩) (by simp; omega) _⟩
    · have hlt : lb M x.1 < lb N x.1 := by assumption
      exact ⟨(KeepsOthers.setCell _ _ _).from _, ⟨rfl, pre, x, rfl, hp, .inr ⟨hlt, World.cell?_setCell_same' _ _ _ (by rw [hcr]; rfl)⟩⟩, hB.setCell (p := ⟨w.heap.size + 1 + 1, 0, none⟩) (by simp; omega) _⟩
    · have h1 : lb M x.1 ≤ lb N x.1 := by assumption
      have h2 : lb N x.1 ≤ lb M x.1 := by assumption
      exact ⟨KeepsFrom.refl _ _, Below.refl _ _, ⟨fun p hp' => (List.mem_append.1 hp').elim (hp p) (fun e => by simp at e; subst e; omega), HB.out, hcr, hfr⟩, hB⟩
  case done =>
    rintro D ys W hD rfl ⟨⟨hne, hbc, hcr, hfr⟩, hB⟩ hK
    clear hbc
    gi_wp2
    have hK' := (KeepsOthers.setCell W ⟨w.heap.size + 1 + 1, 0, none⟩ (.int .i64 0)).same D _ hK rfl
    refine ⟨by simp, .inl ⟨_, _, rfl, run_takeDeferred hK', ?_⟩⟩
    have hc5 := cell_kept (World.cell?_setCell_same' W ⟨w.heap.size + 1 + 1, 0, none⟩ (.int .i64 0) (by rw [hcr]; rfl)) (grownBy_putObj' _ D (.deferred none)) (fun r e => by cases e; exact ⟨_, hK', rfl⟩)
    have hsame := alkSame HN.out HM.out (dn_alk (Nat.le_refl 4) hne)
    refine ⟨.int .i64 0, ?_, by rw [← hsame, cmpV_same], (hB.setCell (p := ⟨w.heap.size + 1 + 1, 0, none⟩) (by simp; omega) _).trans (belowK_b (w := w) (Nat.le_refl _) _ D _ _ (by simp at hD; omega) hK' rfl rfl)⟩
    simp [results, Try.f20, go_sem, hc5]
  case stop =>
    rintro D c pre W hD ⟨k, hk, rfl⟩ ⟨⟨rfl, ini, last, e1, e2, e3⟩, hB⟩ hK
    gi_wp2
    refine ⟨by simp, .inl ⟨_, _, rfl, run_takeDeferred hK, ?_⟩⟩
    obtain ⟨j, rfl, rfl, hl⟩ := dn_last hk e1
    have ha := dn_alk (by omega) e2
    have e : 4 - j = last.1 + 1 := by omega
    rw [e] at ha
    rcases e3 with ⟨h1, h2⟩ | ⟨h1, h2⟩
    · have hc5 := cell_kept h2 (grownBy_putObj' _ D (.deferred none)) (fun r e => by cases e; exact ⟨_, hK, rfl⟩)
      refine ⟨.int .i64 (-1), ?_, by rw [cmpV_less (alkLess HN.out HM.out last.2 ha h1)], hB.trans (belowK_b (w := w) (Nat.le_refl _) W D _ _ (by simp at hD; omega) hK rfl rfl)⟩
      simp [results, Try.f20, go_sem, hc5]
    · have hc5 := cell_kept h2 (grownBy_putObj' _ D (.deferred none)) (fun r e => by cases e; exact ⟨_, hK, rfl⟩)
      refine ⟨.int .i64 1, ?_, by rw [cmpV_more (alkMore HN.out HM.out last.2 ha h1)], hB.trans (belowK_b (w := w) (Nat.le_refl _) W D _ _ (by simp at hD; omega) hK rfl rfl)⟩
      simp [results, Try.f20, go_sem, hc5]
end Go.Proofs.Ytapjonmgjccpbaa
end
section
set_option linter.unusedSimpArgs false
set_option linter.unusedVariables false
namespace Go.Proofs.Ytapjonmgjccpbaa
open Go.RowKit

/-! item.takeLength by contract. -/
def tlGood (s : ByteArray) : Bool := tkGood s && (decide (55 < tkV s) && decide (tkV s ≤ 65536))
def tlN (s : ByteArray) : Nat := if tlGood s then tkV s else 0
def tlE (s : ByteArray) : Int := if tlGood s then 0 else 1
theorem cmpV_le (n m : Nat) : (cmpV n m ≤ 0) ↔ n ≤ m := by unfold cmpV; split <;> (try split) <;> omega
theorem cmpV_gt (n m : Nat) : (0 < cmpV n m) ↔ m < n := by unfold cmpV; split <;> (try split) <;> omega
theorem c4 {w : World} {b : Nat} {x y z u : Value} {t : TypeId} (h : Bk w b #[x, y, z, u] t) : w.cell? ⟨b, 0, none⟩ = some x ∧ w.cell? ⟨b, 1, none⟩ = some y ∧ w.cell? ⟨b, 2, none⟩ = some z ∧ w.cell? ⟨b, 3, none⟩ = some u := by
  refine ⟨(h.cell 0).trans ?_, (h.cell 1).trans ?_, (h.cell 2).trans ?_, (h.cell 3).trans ?_⟩ <;> simp
set_option maxRecDepth 100000 in
set_option maxHeartbeats 1000000 in
theorem takeLength (s : ByteArray) (w : World) :
    Calls Try.prog 123 #[.string s] w fun e w' => e = .returned (.tuple #[.int .i64 (tlN s : Int), .int .i64 (tlE s)]) ∧ Below w.heap.size w w' := by
  have hT : Hid (∀ w, Calls Try.prog 99 #[.string s] w fun e w' => e = .returned (.tuple #[V (tkV s), .int .i64 (tkE s)]) ∧ Below w.heap.size w w') := fun w => take s w
  have hlt := tkV_lt s
  cases hg : tkGood s with
  | false =>
    have HE : Hid (tlN s = 0 ∧ tlE s = 1) := by constructor <;> simp [tlN, tlE, tlGood, hg]
    have he : tkE s = 1 := by simp [tkE, hg]
    rw [he] at hT
    clear he hg
    go_enter Try.func123, Try.ntmps123
    go_wp2_with (go_at_call 99; refine (hT.out _).mono ?_; rintro e w1 ⟨rfl, hb1⟩)
    go_ret2
    exact ⟨by rw [HE.out.1, HE.out.2]; rfl, hb1.alloc hb1.size _⟩
  | true =>
    have he : tkE s = 0 := by simp [tkE, hg]
    rw [he] at hT
    have HE : Hid (tlN s = (if 55 < tkV s ∧ tkV s ≤ 65536 then tkV s else 0) ∧ tlE s = (if 55 < tkV s ∧ tkV s ≤ 65536 then 0 else 1)) := by constructor <;> simp [tlN, tlE, tlGood, hg]
    clear he hg
    generalize tkV s = N at *
    have HN : Hid (N < M256) := hlt
    clear hlt
    have h55 : Hid (∀ w, Calls Try.prog 20 #[V N, .agg (A4 55 0 0 0)] w fun e W' => e = .returned (.int .i64 (cmpV N 55)) ∧ Below w.heap.size w W') := fun w => by have := cmp N 55 HN.out (by decide) w; rw [V_small 55 (by omega)] at this; exact this
    have h65 : Hid (∀ w, Calls Try.prog 20 #[V N, .agg (A4 65536 0 0 0)] w fun e W' => e = .returned (.int .i64 (cmpV N 65536)) ∧ Below w.heap.size w W') := fun w => by have := cmp N 65536 HN.out (by decide) w; rw [V_small 65536 (by omega)] at this; exact this
    have k1 := cmpV_le N 55
    have k2 := cmpV_gt N 65536
    generalize cmpV N 55 = A at *
    generalize cmpV N 65536 = B at *
    by_cases c1 : N ≤ 55
    · have d1 : decide (A ≤ 0) = true := decide_eq_true (k1.2 c1)
      have HR : Hid (tlN s = 0 ∧ tlE s = 1) := by have := HE.out; rw [if_neg (by omega), if_neg (by omega)] at this; exact this
      clear k1 k2 c1 HE
      go_enter Try.func123, Try.ntmps123
      go_wp2_with (first | (go_at_call 99; refine (hT.out _).mono ?_; rintro e w1 ⟨rfl, hb1⟩) | (go_at_call 20; refine (h55.out _).mono ?_; rintro e w2 ⟨rfl, hb2⟩))
      go_ret2
      exact ⟨by rw [HR.out.1, HR.out.2]; rfl, (hb1.alloc hb1.size _).trans (hb2.mono (by simp; have := hb1.size; omega))⟩
    · have d1 : decide (A ≤ 0) = false := decide_eq_false (fun h => c1 (k1.1 h))
      by_cases c2 : 65536 < N
      · have d2 : decide (0 < B) = true := decide_eq_true (k2.2 c2)
        have HR : Hid (tlN s = 0 ∧ tlE s = 1) := by have := HE.out; rw [if_neg (by omega), if_neg (by omega)] at this; exact this
        clear k1 k2 c1 c2 HE
        go_enter Try.func123, Try.ntmps123
        go_wp2_with (go_at_call 99; refine (hT.out _).mono ?_; rintro e w1 ⟨rfl, hb1⟩; have bN := Bk.new w1 #[.int .u64 (lb N 0), .int .u64 (lb N 1), .int .u64 (lb N 2), .int .u64 (lb N 3)] 26)
        refine (h55.out _).mono ?_
        rintro e w2 ⟨rfl, hb2⟩
        have bN2 := bN.below hb2 bN.lt
        obtain ⟨n0, n1, n2, n3⟩ := c4 bN2
        have lN2 := bN2.lt
        go_wp2_with fail
        refine (h65.out _).mono ?_
        rintro e w3 ⟨rfl, hb3⟩
        obtain ⟨m0, m1, m2, m3⟩ := c4 (bN2.below hb3 lN2)
        have hBB : Below w.heap.size w w3 := ((hb1.alloc hb1.size _).trans (hb2.mono (by simp; have := hb1.size; omega))).trans (hb3.mono (by have := hb1.size; have := hb2.size; simp at this; omega))
        clear n0 n1 n2 n3 bN bN2 hb2 hb3
        go_wp2_with fail
        go_ret2
        exact ⟨by rw [HR.out.1, HR.out.2]; rfl, hBB⟩
      · have d2 : decide (0 < B) = false := decide_eq_false (fun h => c2 (k2.1 h))
        have HR : Hid (tlN s = N ∧ tlE s = 0) := by have := HE.out; rw [if_pos (by omega), if_pos (by omega)] at this; exact this
        have hl0 : lb N 0 = (N : Int) := (lb_small N (by omega)).1
        have hN64 : N ≤ 65536 := by omega
        have hwr : IntKind.i64.wrap (lb N 0) = (N : Int) := by rw [hl0, IntKind.wrap_i64]; omega
        clear k1 k2 c1 c2 HE hl0
        go_enter Try.func123, Try.ntmps123
        go_wp2_with (go_at_call 99; refine (hT.out _).mono ?_; rintro e w1 ⟨rfl, hb1⟩; have bN := Bk.new w1 #[.int .u64 (lb N 0), .int .u64 (lb N 1), .int .u64 (lb N 2), .int .u64 (lb N 3)] 26)
        refine (h55.out _).mono ?_
        rintro e w2 ⟨rfl, hb2⟩
        have bN2 := bN.below hb2 bN.lt
        obtain ⟨n0, n1, n2, n3⟩ := c4 bN2
        have lN2 := bN2.lt
        go_wp2_with fail
        refine (h65.out _).mono ?_
        rintro e w3 ⟨rfl, hb3⟩
        obtain ⟨m0, m1, m2, m3⟩ := c4 (bN2.below hb3 lN2)
        have hBB : Below w.heap.size w w3 := ((hb1.alloc hb1.size _).trans (hb2.mono (by simp; have := hb1.size; omega))).trans (hb3.mono (by have := hb1.size; have := hb2.size; simp at this; omega))
        clear n0 n1 n2 n3 bN bN2 hb2 hb3
        go_wp2_with fail
        go_ret2
        exact ⟨by rw [HR.out.1, HR.out.2]; first | rfl | (simp [hwr]; done), hBB⟩
end Go.Proofs.Ytapjonmgjccpbaa
end

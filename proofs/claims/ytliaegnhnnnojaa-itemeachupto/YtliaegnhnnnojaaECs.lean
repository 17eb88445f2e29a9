import Derived.Test.YtliaegnhnnnojaaECp
set_option linter.unusedSimpArgs false
set_option linter.unusedVariables false
set_option maxRecDepth 100000
namespace Go.Proofs.Ytliaegnhnnnojaa
open Go.RowKit

/-! item.copies: a copy of one's own. -/
/-- A row of items of which the first k have been copied. -/
structure Cp (w W : World) (n k : Nat) (v : Value) (xs : List IT) (ps : List (IT × Value)) : Prop where
  row : W.ownsRow w.heap.size 26 3 v ps.length (icells ps)
  fst : ps.map Prod.fst = xs
  new : ∀ i (hi : i < ps.length), i < k → (∃ a l c, ps[i].2 = .slice a l c) ∧ RdP W (fun b => w.heap.size ≤ b ∧ some b ≠ v.ownBlock) n ps[i].1.items ps[i].2
  old : ∀ i (hi : i < ps.length), k ≤ i → (∃ a l c, ps[i].2 = .slice a l c) ∧ Rd w n ps[i].1.items ps[i].2
  bel : Below w.heap.size w W
theorem Cp.len {w W : World} {n k : Nat} {v : Value} {xs : List IT} {ps : List (IT × Value)} (h : Cp w W n k v xs ps) : ps.length = xs.length := by
  have := congrArg List.length h.fst
  simpa using this
theorem Cp.done {w W : World} {n : Nat} {v : Value} {xs : List IT} {ps : List (IT × Value)} (h : Cp w W n xs.length v xs ps) (hl : xs.length ≤ 9223372036854775807) : RdP W (w.heap.size ≤ ·) (n + 1) xs v := by
  have hB : Bld W w.heap.size n v ps := ⟨h.row, fun p hp => by
    obtain ⟨i, hi, rfl⟩ := List.mem_iff_getElem.1 hp
    exact h.new i hi (by have := h.len; omega)⟩
  have := hB.rd (by have := h.len; omega)
  rw [h.fst] at this
  exact this
/-- One more is copied. -/
theorem Cp.next {w W W2 : World} {n k g cap B m : Nat} {xs : List IT} {ps : List (IT × Value)} (h : Cp w W n k (.slice (some ⟨g, 0, none⟩) m cap) xs ps) (hm : m = ps.length) (hk : k < ps.length) (hb : Below W.heap.size W W2) {ad : Option Addr} {l c : Nat} (hB : W.heap.size ≤ B)
    (hr : RdP W2 (B ≤ ·) n ps[k].1.items (.slice ad l c)) :
    Cp w (((W2.setCell ⟨g, k * 3, none⟩ (.bool ps[k].1.list)).setCell ⟨g, k * 3 + 1, none⟩ (.string ps[k].1.text)).setCell ⟨g, k * 3 + 2, none⟩ (.slice ad l c)) n (k + 1) (.slice (some ⟨g, 0, none⟩) m cap) xs (ps.set k (ps[k].1, .slice ad l c)) := by
  subst hm
  have hg : w.heap.size ≤ g ∧ g < W.heap.size := h.row.lt g rfl
  have hrow2 : W2.ownsRow w.heap.size 26 3 (.slice (some ⟨g, 0, none⟩) ps.length cap) ps.length (icells ps) := World.ownsRow.kept h.row (grown_of_below (r := none) hb) (.inr (by simp [Value.ownBlock]))
  obtain ⟨s1, g1⟩ := World.ownsRow.stored hrow2 (k * 3) (.bool ps[k].1.list)
  obtain ⟨s2, g2⟩ := World.ownsRow.stored s1 (k * 3 + 1) (.string ps[k].1.text)
  obtain ⟨s3, g3⟩ := World.ownsRow.stored s2 (k * 3 + 2) (.slice ad l c)
  rw [icells_set ps k hk ps[k].1 (.slice ad l c)] at s3
  have hoth : ∀ b, b ≠ g → (((W2.setCell ⟨g, k * 3, none⟩ (.bool ps[k].1.list)).setCell ⟨g, k * 3 + 1, none⟩ (.string ps[k].1.text)).setCell ⟨g, k * 3 + 2, none⟩ (.slice ad l c)).heap[b]? = W2.heap[b]? := fun b hbg => ((Below.heap_setCell _ _ _ b hbg).trans (Below.heap_setCell _ _ _ b hbg)).trans (Below.heap_setCell _ _ _ b hbg)
  refine ⟨by rw [List.length_set]; exact s3, ?_, ?_, ?_, ?_⟩
  · rw [List.map_set, ← h.fst]
    apply List.ext_getElem
    · simp
    · intro i h1 h2
      rw [List.getElem_set]
      split
      · rename_i e; subst e; simp
      · rfl
  · intro i hi hik
    have hi' : i < ps.length := by simpa using hi
    by_cases e : k = i
    · subst e
      simp only [List.getElem_set_self]
      refine ⟨⟨ad, l, c, rfl⟩, ?_⟩
      refine (hr.keep fun b hb' _ => hoth b (by have : B ≤ b := hb'; omega)).weak fun b hb' => ?_
      have hb'' : B ≤ b := hb'
      refine ⟨by omega, ?_⟩
      simp only [Value.ownBlock]
      intro e
      injection e with e
      omega
    · rw [List.getElem_set_ne e]
      have := h.new i hi' (by omega)
      refine ⟨this.1, this.2.keep fun b hb' hl => ?_⟩
      have hne : b ≠ g := fun e => hb'.2 (by rw [e]; rfl)
      exact (hoth b hne).trans (hb.block b hl)
  · intro i hi hik
    have hi' : i < ps.length := by simpa using hi
    rw [List.getElem_set_ne (show k ≠ i by omega)]
    exact h.old i hi' (by omega)
  · exact (((h.bel.trans (hb.mono h.bel.size)).setCell (p := ⟨g, k * 3, none⟩) hg.1 _).setCell (p := ⟨g, k * 3 + 1, none⟩) hg.1 _).setCell (p := ⟨g, k * 3 + 2, none⟩) hg.1 _
theorem wts_mem {xs : List IT} {k : Nat} (hk : k < xs.length) : xs[k].wt ≤ IT.wts xs := wt_get xs k hk
set_option maxHeartbeats 2000000 in
theorem copies_step (n : Nat) (h : CdS n) : CsS (n + 1) := by
  intro xs ad cap w hr hw
  have HI : Hid (CdS n) := h
  have HW : Hid (IT.wts xs ≤ 1099511627776) := hw
  have hll := len_wts xs
  have HC : Hid (Calls Try.prog 57 #[.slice ad xs.length cap] w (ClQ n xs w)) := cloneI n xs ad cap w hr (by omega)
  have hxl : xs.length ≤ 1099511627776 := by omega
  clear h hw hr hll
  go_enter Try.func46, Try.ntmps46
  go_wp2_with fail
  refine HC.out.mono ?_
  rintro e w1 ⟨ps0, v', rfl, hp1, hp2, hrow, hb1⟩
  have hlen0 : ps0.length = xs.length := by have := congrArg List.length hp1; simpa using this
  have H0 : Hid (Cp w w1 n 0 v' xs ps0) := ⟨hrow, hp1, fun i hi h => absurd h (by omega), fun i hi _ => hp2 ps0[i] (List.getElem_mem hi), hb1⟩
  obtain ⟨va, vc, hv⟩ : ∃ va vc, v' = .slice va xs.length vc := by
    rcases hrow.2 with ⟨rfl, hz⟩ | ⟨g, cap, cur, rfl, _⟩
    · exact ⟨none, 0, by rw [← hlen0, hz]⟩
    · exact ⟨_, cap, by rw [hlen0]⟩
  subst hv
  clear hp1 hp2 hrow hb1 HC hlen0
  go_wp2_with fail
  go_loopw [10] (fun i wr => ∃ (k : Nat) (ps : List (IT × Value)), k ≤ xs.length ∧ i = .int .i64 k ∧ Hid (Cp w wr n k (.slice va xs.length vc) xs ps)) (fun i _ => xs.length - (intOf i).toNat)
  case atStart => exact ⟨0, ps0, by omega, rfl, H0.out⟩
  case round =>
    obtain ⟨k, ps, hk, rfl, hcp⟩ := hrel
    clear H0
    by_cases hlt : k < xs.length
    · have hlt' : (k : Int) < (xs.length : Int) := by omega
      have hpl := hcp.out.len
      obtain ⟨g, cur, rfl, hgB, hbk⟩ : ∃ g cur, va = some ⟨g, 0, none⟩ ∧ w.heap.size ≤ g ∧ Bk wr g cur 26 := by
        rcases hcp.out.row.2 with ⟨h1, h2⟩ | ⟨g, cap', cur, h1, h2, h3, _⟩
        · omega
        · injection h1 with h1 _ _
          exact ⟨g, cur, h1, h2, h3⟩
      obtain ⟨i0, i1, i2⟩ := icells_at ps k (by omega)
      have hcell : ∀ j u, (icells ps)[j]? = some u → wr.cell? ⟨g, j, none⟩ = some u := fun j u hj => by
        have := World.ownsRow.cells hcp.out.row (g := g) rfl j u hj
        rw [Addr.add_lit, Nat.zero_add] at this
        exact this
      have c0 := hcell _ _ i0
      have c1 := hcell _ _ i1
      obtain ⟨⟨s0, s1, s2, hs⟩, hrd⟩ := hcp.out.old k (by omega) (Nat.le_refl _)
      rw [hs] at i2 hrd
      have c2 := hcell _ _ i2
      have lg := hbk.lt
      have hxk : ps[k].1 = xs[k] := by
        have h1 : (ps.map Prod.fst)[k]'(by simp; omega) = xs[k] := by congr 1; exact hcp.out.fst
        simpa using h1
      have hwk := wts_mem hlt
      have HCd : Hid (∀ W, Below w.heap.size w W → Calls Try.prog 48 #[.agg #[.bool ps[k].1.list, .string ps[k].1.text, .slice s0 s1 s2]] W fun e w' => (∃ ad' l' c', e = .returned (.agg #[.bool ps[k].1.list, .string ps[k].1.text, .slice ad' l' c']) ∧ RdP w' (W.heap.size ≤ ·) n ps[k].1.items (.slice ad' l' c')) ∧ Below W.heap.size W w') := fun W hW => HI.out ps[k].1 s0 s1 s2 W (hrd.below hW) (by rw [hxk]; have := HW.out; omega)
      have HNx : Hid (∀ (W2 : World) (B : Nat) (ad' : Option Addr) (l' c' : Nat), Below wr.heap.size wr W2 → wr.heap.size ≤ B → RdP W2 (B ≤ ·) n ps[k].1.items (.slice ad' l' c') → ∃ ps', Cp w (((W2.setCell ⟨g, k * 3, none⟩ (.bool ps[k].1.list)).setCell ⟨g, k * 3 + 1, none⟩ (.string ps[k].1.text)).setCell ⟨g, k * 3 + 2, none⟩ (.slice ad' l' c')) n (k + 1) (.slice (some ⟨g, 0, none⟩) xs.length vc) xs ps') := fun W2 B ad' l' c' h1 h2 h3 => ⟨_, hcp.out.next hpl.symm (by omega) h1 h2 h3⟩
      have Hbel : Hid (Below w.heap.size w wr) := hcp.out.bel
      have HBk : Hid (Bk wr g cur 26) := hbk
      generalize ps[k].1.list = Lk at *
      generalize ps[k].1.text = Tk at *
      generalize ps[k].1.items = Ik at *
      clear hcell i0 i1 i2 hs hrd hxk hwk hcp hpl hbk
      go_wp2_with fail
      have hb0 : Below wr.heap.size wr (wr.alloc (.cells #[.bool Lk, .string Tk, .slice s0 s1 s2] 26)) := (Below.refl _ wr).alloc (Nat.le_refl _) _
      have hz0 : (wr.alloc (.cells #[.bool Lk, .string Tk, .slice s0 s1 s2] 26)).heap.size = wr.heap.size + 1 := by simp
      refine (HCd.out _ (Hbel.out.trans (hb0.mono Hbel.out.size))).mono ?_
      rintro e w2 ⟨⟨ad', l', c', rfl, hrd2⟩, hb2⟩
      have hb2' : Below wr.heap.size wr w2 := hb0.trans (hb2.mono hb0.size)
      have bk2 := HBk.out.below hb2' lg
      have c0 := (hb2'.cell (p := ⟨g, k * 3, none⟩) lg).trans c0
      have c1 := (hb2'.cell (p := ⟨g, k * 3 + 1, none⟩) lg).trans c1
      have c2 := (hb2'.cell (p := ⟨g, k * 3 + 2, none⟩) lg).trans c2
      have f0 := bk2.frozen (k * 3)
      have f1 := bk2.frozen (k * 3 + 1)
      have f2 := bk2.frozen (k * 3 + 2)
      have lg2 := bk2.lt
      have HX : Hid (∃ ps', Cp w (((w2.setCell ⟨g, k * 3, none⟩ (.bool Lk)).setCell ⟨g, k * 3 + 1, none⟩ (.string Tk)).setCell ⟨g, k * 3 + 2, none⟩ (.slice ad' l' c')) n (k + 1) (.slice (some ⟨g, 0, none⟩) xs.length vc) xs ps') := HNx.out w2 _ ad' l' c' hb2' (by rw [hz0]; omega) hrd2
      clear HCd HNx hb2 hb2' hb0 hrd2 hz0 bk2 HBk Hbel
      go_wp2_with fail
      go_roundw
      case rel =>
        obtain ⟨ps', hX⟩ := HX.out
        exact ⟨k + 1, ps', by omega, by go_num, hX⟩
      case measure => simp [intOf]; omega
    · have hlt' : ¬ (k : Int) < (xs.length : Int) := by omega
      obtain rfl : k = xs.length := by omega
      go_wp2_with fail
      go_ret
      exact ⟨⟨_, _, _, rfl, hcp.out.done (by omega)⟩, hcp.out.bel⟩
theorem copies_all : ∀ n, CsS n
  | 0 => fun xs ad cap w hr _ => hr.elim
  | n + 1 => copies_step n (copied_of n (copies_all n))
end Go.Proofs.Ytliaegnhnnnojaa

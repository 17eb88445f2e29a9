/- Texts joined: DX9 Frm9 D19 Wk9 Hv9. -/
import Derived.Test.YtljhhdpeakencaaJ9
import Derived.Test.YtljhhdpeakencaaJ7
import Derived.Test.YtljhhdpeakencaaRows
import Derived.ProofKit
import Derived.OpenShut
import Derived.ShutString
import Derived.ChangeOld
import Derived.JoinedCond
import Derived.Deep.Slices
import Derived.SliceStrings
import Derived.ChangeSlices
import Derived.Lib.SlBytesConst
section
set_option linter.unusedSimpArgs false
set_option linter.unusedVariables false
namespace Go.Proofs.Ytljhhdpeakencaa
open Go.RowKit

/-! The program's disk and the page's, side by side; scripts. -/
structure DX (w W : World) (d r : Nat) (O P : Nat → Nat) (D E : Ds) : Prop where
  dk : ∃ nv sv cv, DK W O d D nv sv cv
  pk : PKw W P r E
  ap : ∀ b, O b ≠ 0 → P b = 0
  lo : ∀ b, O b ≠ 0 → w.heap.size ≤ b
  lp : ∀ b, P b ≠ 0 → w.heap.size ≤ b
  bel : Below w.heap.size w W
theorem PKw.lt {w : World} {O : Nat → Nat} {d : Nat} {D : Ds} (h : PKw w O d D) : ∀ b, O b ≠ 0 → b < w.heap.size := by
  obtain ⟨_, _, _, _, _, _, _, _, _, _, _, _, _, _, h⟩ := h
  exact h.lt
section
variable {w W W' : World} {d r : Nat} {O P O' P' : Nat → Nat} {D E D' E' : Ds}
theorem DX.olt (h : DX w W d r O P D E) : ∀ b, O b ≠ 0 → b < W.heap.size := by obtain ⟨_, _, _, h⟩ := h.dk; exact h.lt
theorem DX.plt (h : DX w W d r O P D E) : ∀ b, P b ≠ 0 → b < W.heap.size := h.pk.lt
theorem DX.keep (h : DX w W d r O P D E) (hk : ∀ b, (O b ≠ 0 ∨ P b ≠ 0) → W'.heap[b]? = W.heap[b]?) (hz : W.heap.size ≤ W'.heap.size) (hb : Below w.heap.size w W') : DX w W' d r O P D E := by
  obtain ⟨nv, sv, cv, h1⟩ := h.dk
  exact ⟨⟨nv, sv, cv, h1.frame hz fun b hb' => hk b (.inl hb')⟩, h.pk.frame fun b hb' => hk b (.inr hb'), h.ap, h.lo, h.lp, hb⟩
theorem DX.below (h : DX w W d r O P D E) (hb : Below W.heap.size W W') : DX w W' d r O P D E :=
  h.keep (fun b hb' => hb.block b (by rcases hb' with h1 | h1; exact h.olt b h1; exact h.plt b h1)) hb.size (h.bel.trans (hb.mono h.bel.size))
theorem DX.drew (h : DX w W d r O P D E) : DX w W.drew d r O P D E := h.below (Below.refl _ _).drew
theorem DX.grown (h : DX w W d r O P D E) {row : Option Nat} (hg : W.grownBy W' row) (hr : ∀ b, row = some b → O b = 0 ∧ P b = 0 ∧ w.heap.size ≤ b) : DX w W' d r O P D E :=
  h.keep (fun b hb' => by
    have hl : b < W.heap.size := by rcases hb' with h1 | h1; exact h.olt b h1; exact h.plt b h1
    exact hg.block b hl (fun e => by
      obtain ⟨h1, h2, _⟩ := hr b e.symm
      rcases hb' with h3 | h3
      · exact h3 h1
      · exact h3 h2)) hg.size (h.bel.grown hg h.bel.size fun b e => (hr b e).2.2)
theorem fp_low {w W W' : World} {O O' : Nat → Nat} (hb : Below w.heap.size w W) (lo : ∀ b, O b ≠ 0 → w.heap.size ≤ b) (hf : Fp O W O' W') : Below w.heap.size w W' ∧ ∀ b, O' b ≠ 0 → w.heap.size ≤ b := by
  have hz := hb.size
  refine ⟨hb.trans ⟨hf.os, hf.tape, hf.output, hf.size, fun k hk => hf.keep k (by omega) ?_⟩, fun b hb' => ?_⟩
  · refine Classical.byContradiction fun h => ?_
    have := lo k h
    omega
  · refine Classical.byContradiction fun h => ?_
    refine hb' (hf.old b (by omega) (Classical.byContradiction fun h2 => ?_))
    exact h (lo b h2)
theorem DX.prog (h : DX w W d r O P D E) (dk' : ∃ nv sv cv, DK W' O' d D' nv sv cv) (hf : Fp O W O' W') : DX w W' d r O' P D' E := by
  obtain ⟨h1, h2⟩ := fp_low h.bel h.lo hf
  refine ⟨dk', h.pk.frame fun b hb => hf.keep b (h.plt b hb) (Classical.byContradiction fun h3 => hb (h.ap b h3)), fun b hb => ?_, h2, h.lp, h1⟩
  refine Classical.byContradiction fun h3 => ?_
  exact hb (hf.old b (h.plt b h3) (Classical.byContradiction fun h4 => h3 (h.ap b h4)))
theorem DX.page (h : DX w W d r O P D E) (pk' : PKw W' P' r E') (hf : Fp P W P' W') : DX w W' d r O P' D E' := by
  obtain ⟨h1, h2⟩ := fp_low h.bel h.lp hf
  obtain ⟨nv, sv, cv, hd⟩ := h.dk
  refine ⟨⟨nv, sv, cv, hd.frame hf.size fun b hb => hf.keep b (h.olt b hb) (h.ap b hb)⟩, pk', fun b hb => hf.old b (h.olt b hb) (h.ap b hb), h.lo, h2, h1⟩
end
/-- Acts. -/
structure Ac where
  op : Int
  n : Int
  pos : Int
  k : Int
  bs : List UInt8
  ps : List Int
structure Acw (a : Ac) : Prop where
  op : -9223372036854775808 ≤ a.op ∧ a.op ≤ 9223372036854775807
  n : -9223372036854775808 ≤ a.n ∧ a.n ≤ 9223372036854775807
  pos : -9223372036854775808 ≤ a.pos ∧ a.pos ≤ 9223372036854775807
  k : -9223372036854775808 ≤ a.k ∧ a.k ≤ 9223372036854775807
  bs : a.bs.length ≤ 1048576
  ps : a.ps.length ≤ 1048576
abbrev acc (a : Ac) (bv pv : Value) : Array Value := #[.int .i64 a.op, .int .i64 a.n, .int .i64 a.pos, .int .i64 a.k, bv, pv]
def La (w : World) (v : Value) (xs : List Ac) : Prop :=
  ∃ ad cap, v = .slice ad xs.length cap ∧ xs.length ≤ cap ∧ xs.length ≤ 1048576 ∧ ∀ i (h : i < xs.length), ∃ b off bv pv, ad = some ⟨b, off, none⟩ ∧ w.rangeAt b (off + i * 6) (acc xs[i] bv pv).toList ∧ Rb w bv xs[i].bs ∧ Rp w pv xs[i].ps ∧ Acw xs[i]
end Go.Proofs.Ytljhhdpeakencaa
end
section
set_option linter.unusedSimpArgs false
set_option linter.unusedVariables false
set_option maxRecDepth 100000
namespace Go.Proofs.Ytljhhdpeakencaa
open Go.ChangeShapes Go.WideShapes Go.ChangeAt Go.RowKit Go.Deep

/-! Scripts (tarnlaw9.Script) that came in. -/
theorem own : ownKnob Try.prog.godebug = none := by kernel_rfl
theorem laidOut : laidOutB Try.prog = true := by kernel_rfl
theorem cells3 : Try.prog.cellsOf 3 = 1 := by kernel_rfl
theorem cellsU8 : Try.prog.cellsOf 5 = 1 := by kernel_rfl
theorem cellsB : Try.prog.cellsOf 37 = 1 := by kernel_rfl
theorem cellsBb : Try.prog.cellsOf 22 = 1 := by kernel_rfl
theorem cellsI : Try.prog.cellsOf 38 = 1 := by kernel_rfl
theorem cellsAct : Try.prog.cellsOf 40 = 6 := by kernel_rfl
theorem cellsActs : Try.prog.cellsOf 23 = 1 := by kernel_rfl
theorem cellsScr : Try.prog.cellsOf 25 = 2 := by kernel_rfl
theorem addr_zero (a : Addr) : a.add 0 = a := by unfold Addr.add; split <;> simp_all
theorem bulk_at {H : Type} : ∀ (l : List (DataW H)) (i : Nat) (h : i < l.length), Rows.uptoBulk l[i] ≤ Rows.uptoBulkAll l := by
  intro l
  induction l with
  | nil => intro i h; simp at h
  | cons d l ih =>
    intro i h
    simp only [Rows.uptoBulkAll]
    cases i with
    | zero => simp
    | succ j => have := ih j (by simpa using h); simp; omega
theorem bulk_pos {H : Type} (d : DataW H) : 1 ≤ Rows.uptoBulk d := by
  cases d with
  | lit l => cases l <;> simp [Rows.uptoBulk]
  | _ => simp [Rows.uptoBulk]
theorem bulk_len {H : Type} : ∀ (l : List (DataW H)), l.length ≤ Rows.uptoBulkAll l
  | [] => by simp
  | d :: l => by have := bulk_len l; have := bulk_pos d; simp only [Rows.uptoBulkAll, List.length_cons]; omega
theorem i64_bd {k : Int} (h : (Lit.int .i64 k).wf = true) : -9223372036854775808 ≤ k ∧ k ≤ 9223372036854775807 := by
  simp [Lit.wf, IntKind.min, IntKind.max, IntKind.bits, IntKind.signed] at h
  omega
section
variable {H : Type} {enc : TypeId × Value → H} {W : World} {spare : Nat → Bool} {held : Bool}
theorem rb_of_trod {fuel : Nat} {v : Value} {x : DataW H × List MemPlace}
    (h : DataW.trod enc Try.prog W 0 spare held fuel 37 [v] = some x) : ∃ l, Rb W v l ∧ l.length ≤ Rows.uptoBulk x.1 := by
  rcases open_ints Try.underlying37 Try.underlying5 cellsU8 h with ⟨hc, _⟩ | ⟨a, len, cap, zs, hc, _, hl, hm, hz, hx, hcell, hws⟩
  · simp at hc
    subst hc
    exact ⟨[], ⟨none, 0, rfl, by simp, by simp, fun i hi => by simp at hi⟩, by simp⟩
  · simp at hc
    subst hc
    have hle : len ≤ zs.length := by rw [hz]; split <;> omega
    have hll : ((zs.take len).map fun z => UInt8.ofNat z.toNat).length = len := by simp; omega
    refine ⟨(zs.take len).map fun z => UInt8.ofNat z.toNat, ⟨some a, cap, by rw [hll], by rw [hll]; exact hl, by rw [hll]; unfold maxLen at hm; omega, fun i hi => ?_⟩, ?_⟩
    · rw [hll] at hi
      obtain ⟨b, off, spot⟩ := a
      have h1 := hcell i (by omega)
      have h0 := hcell 0 (by omega)
      have hspot : spot = none := by
        have h9 : W.cell? ⟨b, off, spot⟩ = some (.int .u8 (zs.getD 0 0)) := by rw [addr_zero] at h0; exact h0
        exact World.cell?_spot h9
      subst hspot
      refine ⟨b, off, rfl, ?_⟩
      have hadd : (⟨b, off, none⟩ : Addr).add i = ⟨b, off + i, none⟩ := Addr.add_lit _ _ _
      rw [hadd] at h1
      rw [h1]
      have hzi : zs.getD i 0 = zs[i]'(by omega) := by simp [List.getD, show i < zs.length by omega]
      have hb := hws (zs[i]'(by omega)) (List.getElem_mem _)
      rw [hzi]
      have e : ((zs.take len).map fun z => UInt8.ofNat z.toNat)[i]'(by rw [hll]; exact hi) = UInt8.ofNat (zs[i]'(by omega)).toNat := by simp
      rw [e]
      generalize zs[i]'(by omega) = z at *
      simp [Lit.wf, IntKind.min, IntKind.max, IntKind.bits, IntKind.signed] at hb
      congr 2
      rw [UInt8.toNat_ofNat']
      omega
    · rw [hll, hx]
      simp only [Rows.uptoBulk]
      have := bulk_len (lits (H := H) .u8 (zs.take len))
      have e : (lits (H := H) .u8 (zs.take len)).length = len := by simp [lits]; omega
      omega
theorem rp_of_trod {fuel : Nat} {v : Value} {x : DataW H × List MemPlace}
    (h : DataW.trod enc Try.prog W 0 spare held fuel 38 [v] = some x) : ∃ l, Rp W v l ∧ l.length ≤ Rows.uptoBulk x.1 := by
  rcases open_ints Try.underlying38 Try.underlying3 cells3 h with ⟨hc, _⟩ | ⟨a, len, cap, zs, hc, _, hl, hm, hz, hx, hcell, hws⟩
  · simp at hc
    subst hc
    exact ⟨[], ⟨none, 0, rfl, by simp, by simp, fun p hp => (by cases hp), fun i hi => by simp at hi⟩, by simp⟩
  · simp at hc
    subst hc
    have hle : len ≤ zs.length := by rw [hz]; split <;> omega
    have hll : (zs.take len).length = len := by simp; omega
    refine ⟨zs.take len, ⟨some a, cap, by rw [hll], by rw [hll]; exact hl, by rw [hll]; unfold maxLen at hm; omega, fun p hp => i64_bd (hws p (List.mem_of_mem_take hp)), fun i hi => ?_⟩, ?_⟩
    · rw [hll] at hi
      obtain ⟨b, off, spot⟩ := a
      have h1 := hcell i (by omega)
      have h0 := hcell 0 (by omega)
      have hspot : spot = none := by
        have h9 : W.cell? ⟨b, off, spot⟩ = some (.int .i64 (zs.getD 0 0)) := by rw [addr_zero] at h0; exact h0
        exact World.cell?_spot h9
      subst hspot
      refine ⟨b, off, rfl, ?_⟩
      have hadd : (⟨b, off, none⟩ : Addr).add i = ⟨b, off + i, none⟩ := Addr.add_lit _ _ _
      rw [hadd] at h1
      rw [h1]
      simp [List.getD, show i < zs.length by omega]
    · rw [hll, hx]
      simp only [Rows.uptoBulk]
      have := bulk_len (lits (H := H) .i64 (zs.take len))
      have e : (lits (H := H) .i64 (zs.take len)).length = len := by simp [lits]; omega
      omega
theorem rl_of_trod {n : Nat} {v : Value} {y : DataW H × List MemPlace} (h : DataW.trod enc Try.prog W 0 spare held n 22 [v] = some y) : ∃ ls, Rl W v ls ∧ ls.length ≤ Rows.uptoBulk y.1 ∧ ∀ l ∈ ls, l.length ≤ Rows.uptoBulk y.1 := by
  rcases DataW.trod_slice Try.underlying22 h with ⟨hc, hy⟩ | ⟨a, len, cap, elems, rest, k, rfl, hc, rfl, hb, hl, hm, hlen, hel, -, -⟩
  · simp at hc
    subst hc
    exact ⟨[], ⟨none, 0, rfl, by simp, by simp, fun i hi => by simp at hi⟩, by simp, fun l hl => by cases hl⟩
  · simp at hc
    subst hc
    rw [cellsB] at hel
    have one : ∀ i, ∃ q : List UInt8 × Value, (h : i < len) → W.cell? (a.add i) = some q.2 ∧ Rb W q.2 q.1 ∧ q.1.length ≤ Rows.uptoBulk (elems[i]'(by omega)).1 := by
      intro i
      by_cases hi : i < len
      · have h1 := hel i hi
        rw [List.getElem?_eq_getElem (by omega)] at h1
        obtain ⟨cs, h2, h3⟩ := Option.bind_eq_some_iff.1 h1
        obtain ⟨hl1, _, h4⟩ := World.cells?_some h2
        obtain ⟨u, rfl⟩ : ∃ u, cs = [u] := List.length_eq_one_iff.1 (by omega)
        obtain ⟨l, e, hb⟩ := rb_of_trod h3
        refine ⟨(l, u), fun _ => ⟨?_, e, hb⟩⟩
        have h5 := h4 0 (by omega)
        rw [addr_zero, Nat.mul_one] at h5
        rw [h5]; rfl
      · exact ⟨([], .bool false), fun h' => absurd h' hi⟩
    obtain ⟨f, hf⟩ : ∃ f : Nat → List UInt8 × Value, ∀ i (h : i < len), W.cell? (a.add i) = some (f i).2 ∧ Rb W (f i).2 (f i).1 ∧ (f i).1.length ≤ Rows.uptoBulk (elems[i]'(by omega)).1 := ⟨fun i => Classical.choose (one i), fun i h => Classical.choose_spec (one i) h⟩
    have hll : ((List.range len).map fun i => (f i).1).length = len := by simp
    have hbk : ∀ i (h : i < len), Rows.uptoBulk (elems[i]'(by omega)).1 ≤ Rows.uptoBulk (DataW.slice (elems.map (·.1)) (rest.map (·.1)) : DataW H) := fun i hi => by
      have := bulk_at (elems.map (·.1)) i (by simp; omega)
      simp only [List.getElem_map] at this
      simp only [Rows.uptoBulk]
      omega
    refine ⟨(List.range len).map fun i => (f i).1, ⟨some a, cap, by rw [hll], by rw [hll]; exact hl, by rw [hll]; unfold maxLen at hm; omega, fun i hi => ?_⟩, ?_, fun l hl' => ?_⟩
    · rw [hll] at hi
      obtain ⟨b, off, spot⟩ := a
      have hspot : spot = none := by
        have := (hf 0 (by omega)).1
        rw [addr_zero] at this
        exact World.cell?_spot this
      subst hspot
      obtain ⟨h0, h1, _⟩ := hf i hi
      rw [Addr.add_lit] at h0
      refine ⟨b, off, (f i).2, rfl, h0, ?_⟩
      simp only [List.getElem_map, List.getElem_range]
      exact h1
    · rw [hll]
      have := bulk_len (elems.map (·.1))
      rw [List.length_map] at this
      simp only [Rows.uptoBulk]
      omega
    · obtain ⟨i, hi, rfl⟩ := List.mem_map.1 hl'
      have hi : i < len := by simpa using hi
      exact Nat.le_trans (hf i hi).2.2 (hbk i hi)
theorem act_of_trod {n : Nat} {cs : List Value} {y : DataW H × List MemPlace} (h : DataW.trod enc Try.prog W 0 spare held n 40 cs = some y) (hbk : Rows.uptoBulk y.1 ≤ 1048576) :
    ∃ a bv pv, cs = (acc a bv pv).toList ∧ Rb W bv a.bs ∧ Rp W pv a.ps ∧ Acw a := by
  obtain ⟨xs, m, _, e1, hcl, hxl, hf⟩ := DataW.trod_struct Try.underlying40 h
  rw [cellsAct] at hcl
  obtain ⟨x0, x1, x2, x3, x4, x5, rfl⟩ : ∃ a b c d e f, xs = [a, b, c, d, e, f] := by
    have : xs.length = 6 := hxl
    match xs, this with
    | [a, b, c, d, e, f], _ => exact ⟨a, b, c, d, e, f, rfl⟩
  obtain ⟨v0, v1, v2, v3, v4, v5, rfl⟩ : ∃ a b c d e f, cs = [a, b, c, d, e, f] := by
    match cs, hcl with
    | [a, b, c, d, e, f], _ => exact ⟨a, b, c, d, e, f, rfl⟩
  have f0 : DataW.trod enc Try.prog W 0 spare held m 3 (([v0, v1, v2, v3, v4, v5].drop 0).take (Try.prog.cellsOf 3)) = some x0 := hf 0 _ rfl
  have f1 : DataW.trod enc Try.prog W 0 spare held m 3 (([v0, v1, v2, v3, v4, v5].drop 1).take (Try.prog.cellsOf 3)) = some x1 := hf 1 _ rfl
  have f2 : DataW.trod enc Try.prog W 0 spare held m 3 (([v0, v1, v2, v3, v4, v5].drop 2).take (Try.prog.cellsOf 3)) = some x2 := hf 2 _ rfl
  have f3 : DataW.trod enc Try.prog W 0 spare held m 3 (([v0, v1, v2, v3, v4, v5].drop 3).take (Try.prog.cellsOf 3)) = some x3 := hf 3 _ rfl
  have f4 : DataW.trod enc Try.prog W 0 spare held m 37 (([v0, v1, v2, v3, v4, v5].drop 4).take (Try.prog.cellsOf 37)) = some x4 := hf 4 _ rfl
  have f5 : DataW.trod enc Try.prog W 0 spare held m 38 (([v0, v1, v2, v3, v4, v5].drop 5).take (Try.prog.cellsOf 38)) = some x5 := hf 5 _ rfl
  rw [cells3] at f0 f1 f2 f3
  rw [cellsB] at f4
  rw [cellsI] at f5
  obtain ⟨k0, e0, _, w0⟩ := DataW.trod_int Try.underlying3 f0
  obtain ⟨k1, e10, _, w1⟩ := DataW.trod_int Try.underlying3 f1
  obtain ⟨k2, e2, _, w2⟩ := DataW.trod_int Try.underlying3 f2
  obtain ⟨k3, e3, _, w3⟩ := DataW.trod_int Try.underlying3 f3
  obtain ⟨l4, r4, b4⟩ := rb_of_trod (v := v4) f4
  obtain ⟨l5, r5, b5⟩ := rp_of_trod (v := v5) f5
  simp at e0 e10 e2 e3
  subst e0 e10 e2 e3
  have eb : Rows.uptoBulk y.1 = Rows.uptoBulk x0.1 + (Rows.uptoBulk x1.1 + (Rows.uptoBulk x2.1 + (Rows.uptoBulk x3.1 + (Rows.uptoBulk x4.1 + (Rows.uptoBulk x5.1 + 0))))) + 1 := by rw [e1]; simp [Rows.uptoBulk, Rows.uptoBulkAll]
  exact ⟨⟨k0, k1, k2, k3, l4, l5⟩, v4, v5, rfl, r4, r5, ⟨i64_bd w0, i64_bd w1, i64_bd w2, i64_bd w3, by show l4.length ≤ _; omega, by show l5.length ≤ _; omega⟩⟩
theorem la_of_trod {n : Nat} {v : Value} {y : DataW H × List MemPlace} (h : DataW.trod enc Try.prog W 0 spare held n 23 [v] = some y) (hbk : Rows.uptoBulk y.1 ≤ 1048576) : ∃ xs, La W v xs := by
  rcases DataW.trod_slice Try.underlying23 h with ⟨hc, hy⟩ | ⟨a, len, cap, elems, rest, k, rfl, hc, rfl, hb, hl, hm, hlen, hel, -, -⟩
  · simp at hc
    subst hc
    exact ⟨[], none, 0, rfl, by simp, by simp, fun i hi => by simp at hi⟩
  · simp at hc
    subst hc
    rw [cellsAct] at hel
    have hbi : ∀ i (h : i < len), Rows.uptoBulk (elems[i]'(by omega)).1 ≤ 1048576 := fun i hi => by
      have := bulk_at (elems.map (·.1)) i (by simp; omega)
      simp only [List.getElem_map] at this
      simp only [Rows.uptoBulk] at hbk
      omega
    have hlb : len ≤ 1048576 := by
      have := bulk_len (elems.map (·.1))
      rw [List.length_map] at this
      simp only [Rows.uptoBulk] at hbk
      omega
    have one : ∀ i, ∃ q : Ac × Value × Value, (h : i < len) → (∀ j, j < 6 → W.cell? ((a.add (i * 6)).add j) = (acc q.1 q.2.1 q.2.2).toList[j]?) ∧ Rb W q.2.1 q.1.bs ∧ Rp W q.2.2 q.1.ps ∧ Acw q.1 := by
      intro i
      by_cases hi : i < len
      · have h1 := hel i hi
        rw [List.getElem?_eq_getElem (by omega)] at h1
        obtain ⟨cs, h2, h3⟩ := Option.bind_eq_some_iff.1 h1
        obtain ⟨_, _, h4⟩ := World.cells?_some h2
        obtain ⟨q, bv, pv, e, hb1, hp, hw⟩ := act_of_trod h3 (hbi i hi)
        refine ⟨(q, bv, pv), fun _ => ⟨fun j hj => ?_, hb1, hp, hw⟩⟩
        rw [h4 j hj, e]
      · exact ⟨(⟨0, 0, 0, 0, [], []⟩, .bool false, .bool false), fun h' => absurd h' hi⟩
    obtain ⟨f, hf⟩ : ∃ f : Nat → Ac × Value × Value, ∀ i (h : i < len), (∀ j, j < 6 → W.cell? ((a.add (i * 6)).add j) = (acc (f i).1 (f i).2.1 (f i).2.2).toList[j]?) ∧ Rb W (f i).2.1 (f i).1.bs ∧ Rp W (f i).2.2 (f i).1.ps ∧ Acw (f i).1 := ⟨fun i => Classical.choose (one i), fun i h => Classical.choose_spec (one i) h⟩
    have hll : ((List.range len).map fun i => (f i).1).length = len := by simp
    refine ⟨(List.range len).map fun i => (f i).1, some a, cap, by rw [hll], by rw [hll]; exact hl, by rw [hll]; exact hlb, fun i hi => ?_⟩
    rw [hll] at hi
    obtain ⟨b, off, spot⟩ := a
    have hspot : spot = none := by
      have := (hf 0 (by omega)).1 0 (by omega)
      simp only [Nat.zero_mul, addr_zero] at this
      exact World.cell?_spot this
    subst hspot
    obtain ⟨h0, h1, h2, h3⟩ := hf i hi
    simp only [Addr.add_lit] at h0
    simp only [List.getElem_map, List.getElem_range]
    exact ⟨b, off, (f i).2.1, (f i).2.2, rfl, fun j x hx => (h0 j (List.getElem?_eq_some_iff.1 hx).1).trans hx, h1, h2, h3⟩
theorem script_of_trod {n : Nat} {cs : List Value} {y : DataW H × List MemPlace} (h : DataW.trod enc Try.prog W 0 spare held n 25 cs = some y) : ∃ fv lv x0 x1, cs = [fv, lv] ∧ (∃ m, DataW.trod enc Try.prog W 0 spare held m 22 [fv] = some x0) ∧ (∃ m, DataW.trod enc Try.prog W 0 spare held m 23 [lv] = some x1) ∧ Rows.uptoBulk x0.1 ≤ Rows.uptoBulk y.1 ∧ Rows.uptoBulk x1.1 ≤ Rows.uptoBulk y.1 := by
  obtain ⟨xs, m, _, e1, hcl, hxl, hf⟩ := DataW.trod_struct Try.underlying25 h
  rw [cellsScr] at hcl
  obtain ⟨x0, x1, rfl⟩ : ∃ a b, xs = [a, b] := by
    have : xs.length = 2 := hxl
    match xs, this with
    | [a, b], _ => exact ⟨a, b, rfl⟩
  obtain ⟨v0, v1, rfl⟩ : ∃ a b, cs = [a, b] := by
    match cs, hcl with
    | [a, b], _ => exact ⟨a, b, rfl⟩
  have f0 : DataW.trod enc Try.prog W 0 spare held m 22 (([v0, v1].drop 0).take (Try.prog.cellsOf 22)) = some x0 := hf 0 _ rfl
  have f1 : DataW.trod enc Try.prog W 0 spare held m 23 (([v0, v1].drop 1).take (Try.prog.cellsOf 23)) = some x1 := hf 1 _ rfl
  rw [cellsBb] at f0
  rw [cellsActs] at f1
  have eb : Rows.uptoBulk y.1 = Rows.uptoBulk x0.1 + (Rows.uptoBulk x1.1 + 0) + 1 := by rw [e1]; simp [Rows.uptoBulk, Rows.uptoBulkAll]
  exact ⟨v0, v1, x0, x1, rfl, ⟨m, f0⟩, ⟨m, f1⟩, by omega, by omega⟩
theorem script_all {n : Nat} {cs : List Value} {y : DataW H × List MemPlace} (h : DataW.trod enc Try.prog W 0 spare held n 25 cs = some y) (hbk : Rows.uptoBulk y.1 ≤ 1048576) : ∃ fv lv ls xs, cs = [fv, lv] ∧ Rl W fv ls ∧ La W lv xs ∧ ls.length ≤ 1048576 ∧ ∀ l ∈ ls, l.length ≤ 1048576 := by
  obtain ⟨fv, lv, x0, x1, e, ⟨m0, h0⟩, ⟨m1, h1⟩, b0, b1⟩ := script_of_trod h
  obtain ⟨ls, r0, r1, r2⟩ := rl_of_trod h0
  obtain ⟨xs, q0⟩ := la_of_trod h1 (by omega)
  exact ⟨fv, lv, ls, xs, e, r0, q0, by omega, fun l hl => by have := r2 l hl; omega⟩
end
end Go.Proofs.Ytljhhdpeakencaa
end
section
set_option linter.unusedSimpArgs false
set_option linter.unusedVariables false
namespace Go.Proofs.Ytljhhdpeakencaa
open Go.RowKit

/-! The program's disk alone: what each call makes of it. -/
structure D1 (w W : World) (d : Nat) (O : Nat → Nat) (D : Ds) : Prop where
  dk : ∃ nv sv cv, DK W O d D nv sv cv
  lo : ∀ b, O b ≠ 0 → w.heap.size ≤ b
  bel : Below w.heap.size w W
section
variable {w W W' : World} {d : Nat} {O O' : Nat → Nat} {D D' : Ds}
theorem D1.olt (h : D1 w W d O D) : ∀ b, O b ≠ 0 → b < W.heap.size := by obtain ⟨_, _, _, h⟩ := h.dk; exact h.lt
theorem D1.dlt (h : D1 w W d O D) : d < W.heap.size := by obtain ⟨_, _, _, h⟩ := h.dk; exact h.blk.lt
theorem D1.old (h : D1 w W d O D) {b : Nat} (hb : b < w.heap.size) : O b = 0 := Classical.byContradiction fun h2 => by have := h.lo b h2; omega
theorem D1.new (h : D1 w W d O D) {b : Nat} (hb : W.heap.size ≤ b) : O b = 0 := Classical.byContradiction fun h2 => by have := h.olt b h2; omega
theorem D1.keep (h : D1 w W d O D) (hk : ∀ b, O b ≠ 0 → W'.heap[b]? = W.heap[b]?) (hz : W.heap.size ≤ W'.heap.size) (hb : Below w.heap.size w W') : D1 w W' d O D := by
  obtain ⟨nv, sv, cv, h1⟩ := h.dk
  exact ⟨⟨nv, sv, cv, h1.frame hz hk⟩, h.lo, hb⟩
theorem D1.below (h : D1 w W d O D) (hb : Below W.heap.size W W') : D1 w W' d O D :=
  h.keep (fun b hb' => hb.block b (h.olt b hb')) hb.size (h.bel.trans (hb.mono h.bel.size))
theorem D1.drew (h : D1 w W d O D) : D1 w W.drew d O D := h.below (Below.refl _ _).drew
theorem D1.prog (h : D1 w W d O D) (dk' : ∃ nv sv cv, DK W' O' d D' nv sv cv) (hf : Fp O W O' W') : D1 w W' d O' D' := by
  obtain ⟨h1, h2⟩ := fp_low h.bel h.lo hf
  exact ⟨dk', h2, h1⟩
theorem Few.n40 {n : Nat} (h : Few D n) (hn : n ≤ 1000) : (∀ i, i < 8 → (D.now i).length ≤ 131072) ∧ (∀ i, i < 8 → (D.safe i).length ≤ 131072) ∧ (∀ i, i < 8 → (D.chs i).length ≤ 131072000) ∧ ∀ i, i < 8 → ∀ c ∈ D.chs i, ChB c :=
  ⟨h.inv.len, h.inv.saf, fun i hi => Nat.le_trans (h.few i hi) (by have := Nat.mul_le_mul_right 131072 hn; omega), h.inv.chb⟩
theorem d1Size (h : D1 w W d O D) (f : Int) : Calls Try.prog 30 #[.pointer (some ⟨d, 0, none⟩), .int .i64 f] W fun e w' => e = .returned (.tuple #[.int .i64 (sizeV D f), .int .i64 (fndE D.off f)]) ∧ w' = W := by
  obtain ⟨nv, sv, cv, h1⟩ := h.dk
  exact size9 W O d D nv sv cv f h1
theorem d1Read (h : D1 w W d O D) {q : Nat} (hf : Few D q) (f at_ n : Int) (h1 : -9223372036854775808 ≤ n ∧ n ≤ 9223372036854775807) (h2 : -9223372036854775808 ≤ at_ ∧ at_ ≤ 9223372036854775807) :
    Calls Try.prog 32 #[.pointer (some ⟨d, 0, none⟩), .int .i64 f, .int .i64 at_, .int .i64 n] W fun e w' => ∃ v', e = .returned (.tuple #[v', .int .i64 (rdE D f at_ n)]) ∧ Ow w' W.heap.size v' (rdV D f at_ n) ∧ Below W.heap.size W w' := by
  obtain ⟨nv, sv, cv, hd⟩ := h.dk
  exact read9 W O d D nv sv cv f at_ n hd (fun i hi => Nat.le_trans (hf.inv.len i hi) (by omega)) h1 h2
theorem d1Write (h : D1 w W d O D) {q : Nat} (hf : Few D q) (hq : q ≤ 1000) (f at_ : Int) (ad : Option Addr) (bs : List UInt8) (bc : Nat) (hb : Rb W (.slice ad bs.length bc) bs) (hO : ∀ b n, ad = some ⟨b, n, none⟩ → O b = 0) :
    Calls Try.prog 50 #[.pointer (some ⟨d, 0, none⟩), .int .i64 f, .int .i64 at_, .slice ad bs.length bc] W fun e w' => e = .returned (.int .i64 (wrE D f at_ bs.length)) ∧ ∃ O', D1 w w' d O' (wrD D f at_ bs) ∧ Fp O W O' w' := by
  obtain ⟨nv, sv, cv, hd⟩ := h.dk
  obtain ⟨f1, f2, f3, f4⟩ := hf.n40 hq
  have hl : bs.length ≤ 9223372036854775807 := by
    obtain ⟨_, _, e, _, h2, _⟩ := hb
    exact h2
  refine (write9 W O d D nv sv cv f at_ ad bs bc hd f1 (fun i hi => Nat.le_trans (f3 i hi) (by omega)) hl hb hO).mono ?_
  rintro e w' ⟨rfl, O', nv', sv', cv', h1, h2⟩
  exact ⟨rfl, O', h.prog ⟨_, _, _, h1⟩ h2, h2⟩
theorem d1Cut (h : D1 w W d O D) {q : Nat} (hf : Few D q) (hq : q ≤ 1000) (f n : Int) :
    Calls Try.prog 36 #[.pointer (some ⟨d, 0, none⟩), .int .i64 f, .int .i64 n] W fun e w' => e = .returned (.int .i64 (cutE D f n)) ∧ ∃ O', D1 w w' d O' (cutD D f n) ∧ Fp O W O' w' := by
  obtain ⟨nv, sv, cv, hd⟩ := h.dk
  obtain ⟨f1, f2, f3, f4⟩ := hf.n40 hq
  refine (cut9 W O d D nv sv cv f n hd (fun i hi => Nat.le_trans (f1 i hi) (by omega)) (fun i hi => Nat.le_trans (f3 i hi) (by omega))).mono ?_
  rintro e w' ⟨rfl, O', nv', sv', cv', h1, h2⟩
  exact ⟨rfl, O', h.prog ⟨_, _, _, h1⟩ h2, h2⟩
theorem d1Sync (h : D1 w W d O D) {q : Nat} (hf : Few D q) (hq : q ≤ 1000) (f : Int) :
    Calls Try.prog 38 #[.pointer (some ⟨d, 0, none⟩), .int .i64 f] W fun e w' => e = .returned (.int .i64 (cntE D f)) ∧ ∃ O', D1 w w' d O' (psyD D f) ∧ Fp O W O' w' := by
  obtain ⟨nv, sv, cv, hd⟩ := h.dk
  obtain ⟨f1, f2, f3, f4⟩ := hf.n40 hq
  refine (sync9 W O d D nv sv cv f hd f2 (fun i hi => Nat.le_trans (f3 i hi) (by omega)) f4).mono ?_
  rintro e w' ⟨rfl, O', nv', sv', cv', h1, h2⟩
  rw [hf.inv.syD] at h1
  exact ⟨rfl, O', h.prog ⟨_, _, _, h1⟩ h2, h2⟩
theorem d1Off (h : D1 w W d O D) (n : Int) (hn : n ≤ 9223372036854775807) :
    Calls Try.prog 40 #[.pointer (some ⟨d, 0, none⟩), .int .i64 n] W fun e w' => (∃ v, e = .returned v) ∧ D1 w w' d O (offD D n) ∧ Fp O W O w' := by
  obtain ⟨nv, sv, cv, hd⟩ := h.dk
  refine (off9 W O d D nv sv cv n hd hn).mono ?_
  rintro e w' ⟨he, ht⟩
  have hf : Fp O W O w' := Fp.of_turn ht hd.blk (by rw [hd.td]; omega)
  exact ⟨he, h.prog ⟨_, _, _, hd.turn (tO := n.toNat) ht (by omega) hd.bF⟩ hf, hf⟩
theorem d1Fail (h : D1 w W d O D) (n : Int) (hn : n ≤ 9223372036854775807) :
    Calls Try.prog 42 #[.pointer (some ⟨d, 0, none⟩), .int .i64 n] W fun e w' => (∃ v, e = .returned v) ∧ D1 w w' d O (failD D n) ∧ Fp O W O w' := by
  obtain ⟨nv, sv, cv, hd⟩ := h.dk
  refine (fail9 W O d D nv sv cv n hd hn).mono ?_
  rintro e w' ⟨he, ht⟩
  have hf : Fp O W O w' := Fp.of_turn ht hd.blk (by rw [hd.td]; omega)
  exact ⟨he, h.prog ⟨_, _, _, hd.turn (tF := n.toNat) ht hd.bO (by omega)⟩ hf, hf⟩
/-- What a crash tells: eight rows, of their own; wherever they lie. -/
def Rows8 (w W : World) (T : Nat → Nat) (rb : Nat) (r : Nat → List UInt8) : Prop := (∃ pb rv pv, RW W T rb pb rv pv r) ∧ (∀ b, T b ≠ 0 → w.heap.size ≤ b)
theorem d1Crash (h : D1 w W d O D) {q : Nat} (hf : Few D q) (hq : q ≤ 1000) (pv : Value) (ps : List Int) (hp : Rp W pv ps) (hpO : ps.length ≠ 0 → ∀ b n c, pv = .slice (some ⟨b, n, none⟩) ps.length c → O b = 0) :
    Calls Try.prog 44 #[.pointer (some ⟨d, 0, none⟩), pv] W fun e w' => ∃ T rb, e = .returned (.slice (some ⟨rb, 0, none⟩) 8 8) ∧ Rows8 W w' T rb (crash D ps) ∧ D1 w w' d O { D with off := true } ∧ Fp O W O w' := by
  obtain ⟨nv, sv, cv, hd⟩ := h.dk
  obtain ⟨f1, f2, f3, f4⟩ := hf.n40 hq
  refine (crash9 W O d D nv sv cv pv ps hd hp hpO f2 (fun i hi => Nat.le_trans (f3 i hi) (by omega)) f4).mono ?_
  rintro e w' ⟨T, rb, pb, rv, pv', rfl, h1, h2, h3, h4⟩
  exact ⟨T, rb, rfl, ⟨⟨pb, rv, pv', h1⟩, h2⟩, h.prog ⟨_, _, _, h3⟩ h4, h4⟩
end
/-- A new disk of rows that may be. -/
theorem d1New (w : World) (v : Value) (ls : List (List UInt8)) (h : Rl w v ls) (hn : ls.length = 0 ∨ ls.length = 8) (hs : Sml ls) :
    Calls Try.prog 23 #[v] w fun e w' => e = .returned (.tuple #[.pointer (some ⟨w.heap.size, 0, none⟩), .int .i64 0]) ∧ Below w.heap.size w w' ∧ ∃ O, D1 w w' w.heap.size O (dsN ls 8) := by
  refine (new9 w v ls h hn).mono ?_
  rintro e w' ⟨hb, ⟨h1, _⟩ | ⟨_, rfl, ⟨O, nv, sv, cv, h2, h3, h4⟩⟩⟩
  · exact absurd hs h1
  · rw [dsN_len hn] at h2
    exact ⟨rfl, hb, O, ⟨_, _, _, h2⟩, h3, h4⟩
theorem Rl.nil9 (w : World) : Rl w (.slice none 0 0) [] := ⟨none, 0, rfl, Nat.le_refl _, by simp, fun i hi => by simp at hi⟩
theorem Rp.nil9 (w : World) : Rp w (.slice none 0 0) [] := ⟨none, 0, rfl, Nat.le_refl _, (by simp), (fun p hp => by cases hp), (fun i hi => by simp at hi)⟩
theorem sml_nil : Sml [] := fun l hl => by cases hl
/-- What a write makes of a disk. -/
theorem wrD_ok {D : Ds} {f at_ : Int} {bs : List UInt8} (hw : wrE D f at_ bs.length = 0) : wrD D f at_ bs = { cnt D with now := upd D.now f.toNat (splice (pad (D.now f.toNat) (at_.toNat + bs.length)) at_.toNat bs), chs := upd D.chs f.toNat (D.chs f.toNat ++ (pcs at_.toNat bs.length 0).map (pch at_.toNat bs)) } := by
  obtain ⟨h0, i, a, rfl, hi, rfl, ha, hab⟩ := wrE_ok hw
  have e : wrD D (i : Int) (a : Int) bs = wrL (cnt D) i a bs (pcs a bs.length 0) := by unfold wrD; rw [if_pos hw, Int.toNat_natCast, Int.toNat_natCast]
  rw [e, wr_page (D := cnt D) ha, Int.toNat_natCast, Int.toNat_natCast]
  rfl
theorem wrD_no {D : Ds} {f at_ : Int} {bs : List UInt8} (hw : wrE D f at_ bs.length ≠ 0) : wrD D f at_ bs = cnt D := if_neg hw
theorem psyD_ok {D : Ds} {f : Int} (hc : cntE D f = 0) : psyD D f = { cnt D with safe := upd D.safe f.toNat (D.now f.toNat), chs := upd D.chs f.toNat [] } := if_pos hc
end Go.Proofs.Ytljhhdpeakencaa
end
section
set_option linter.unusedSimpArgs false
set_option linter.unusedVariables false
namespace Go.Proofs.Ytljhhdpeakencaa
open Go.RowKit

/-! tarnlaw9.wakes. -/
/-- []byte of a text: a row, marked behind its end. -/
theorem rb_lit (w : World) (l : List UInt8) (m : Nat × Nat) (hm : l.length ≤ 9223372036854775807) : Rb (w.alloc (.cells (bc l).toArray 5 m)) (.slice (some ⟨w.heap.size, 0, none⟩) l.length l.length) l := by
  refine ⟨some ⟨w.heap.size, 0, none⟩, l.length, rfl, Nat.le_refl _, hm, fun i hi => ?_⟩
  refine ⟨w.heap.size, 0, rfl, ?_⟩
  have h : (w.alloc (.cells (bc l).toArray 5 m)).heap[w.heap.size]? = some (.cells (bc l).toArray 5 m) := by
    show (w.heap.push (.cells (bc l).toArray 5 m))[w.heap.size]? = _
    simp
  unfold World.cell?
  simp only [h, Nat.zero_add]
  simp [bc, hi]
theorem kc9 (w : World) (C : Array Value) (n c : Nat) : (convert 37 37 (.slice (some ⟨w.heap.size, 0, none⟩) n c)).run Try.prog (w.alloc (.cells C 5)) = .ok (.slice (some ⟨w.heap.size, 0, none⟩) n c) (w.alloc (.cells C 5 (C.size, C.size + 1))) :=
  Lib.run_convert_bytes_const (P := Try.prog) w 37 5 C n c Try.underlying37 Try.underlying5
def ab9 : List UInt8 := [97, 98]
def wk1 : Ds := wrD (dsN [] 8) 0 0 ab9
def wk2 : Ds := psyD wk1 0
theorem wk_w : wrE (dsN [] 8) 0 0 ab9.length = 0 := by decide
theorem wk1_eq : wk1 = { cnt (dsN [] 8) with now := upd (dsN [] 8).now 0 (splice (pad ((dsN [] 8).now 0) (0 + ab9.length)) 0 ab9), chs := upd (dsN [] 8).chs 0 ((dsN [] 8).chs 0 ++ (pcs 0 ab9.length 0).map (pch 0 ab9)) } := wrD_ok (f := 0) (at_ := 0) wk_w
theorem wk_s : cntE wk1 0 = 0 := by rw [wk1_eq]; decide
theorem wk_c : crash wk2 [] 0 = ab9 := by
  show crL wk2.safe (gl wk2 8) [] 0 = ab9
  rw [crL_none]
  show (psyD wk1 0).safe 0 = ab9
  rw [psyD_ok wk_s, wk1_eq]
  rfl
theorem wk1_few : Few wk1 1 := (Few.new sml_nil 8 0).wrD 0 0 ab9
theorem wk2_few : Few wk2 1 := wk1_few.psyD 0
set_option maxRecDepth 100000 in
set_option maxHeartbeats 1000000 in
theorem wakes9 (w : World) : Calls Try.prog 27 #[] w fun e w' => e = .returned (.bool true) ∧ Below w.heap.size w w' := by
  have HNew : Hid (Calls Try.prog 23 #[.slice none 0 0] w fun e w' => e = .returned (.tuple #[.pointer (some ⟨w.heap.size, 0, none⟩), .int .i64 0]) ∧ Below w.heap.size w w' ∧ ∃ O, D1 w w' w.heap.size O (dsN [] 8)) := d1New w _ [] (Rl.nil9 w) (.inl rfl) sml_nil
  have hnum : ∀ W, Calls Try.prog 26 #[.int .i64 0] W fun e w' => e = .returned (.int .i64 0) ∧ w' = W := fun W => lnum 0 W
  have HNum : Hid _ := hnum
  clear hnum
  obtain ⟨d, hd⟩ : ∃ d, d = w.heap.size := ⟨_, rfl⟩
  have Hd : Hid (d = w.heap.size) := hd
  go_enter Try.func27, Try.ntmps27
  clear hd
  go_upto_region 4 with (first | (go_at_call 23; refine Calls.mono HNew.out ?_; rintro e w1 ⟨rfl, hb1, O, h1⟩; have H1 : Hid (D1 w w1 w.heap.size O (dsN [] 8)) := h1; clear hb1 h1) | (go_at_call 26; refine Calls.mono (HNum.out _) ?_; rintro e w9 ⟨rfl, e9⟩; have e9 := e9.symm; subst e9))
  have HX : Hid (D1 w (w1.alloc (.cells #[.int .u8 97, .int .u8 98] 5 (2, 3))) w.heap.size O (dsN [] 8)) := H1.out.below ((Below.refl _ _).alloc (Nat.le_refl _) _)
  have HRb : Hid (Rb (w1.alloc (.cells #[.int .u8 97, .int .u8 98] 5 (2, 3))) (.slice (some ⟨w1.heap.size, 0, none⟩) ab9.length 2) ab9) := rb_lit w1 ab9 (2, 3) (by decide)
  have hk := kc9 w1 #[.int .u8 97, .int .u8 98] 2 2
  have HW : Hid (Calls Try.prog 50 #[.pointer (some ⟨w.heap.size, 0, none⟩), .int .i64 0, .int .i64 0, .slice (some ⟨w1.heap.size, 0, none⟩) 2 2] (w1.alloc (.cells #[.int .u8 97, .int .u8 98] 5 (2, 3))) fun e w' => e = .returned (.int .i64 0) ∧ ∃ O', D1 w w' w.heap.size O' wk1) := by
    refine (d1Write HX.out (Few.new sml_nil 8 0) (by omega) 0 0 _ ab9 2 HRb.out (fun b n e => ?_)).mono ?_
    · simp at e; exact H1.out.new (by omega)
    · rintro e w' ⟨rfl, O', h, _⟩
      exact ⟨by rw [wk_w], O', h⟩
  clear HNew
  go_wp2_with (first | (go_at_call 50; refine Calls.mono HW.out ?_; rintro e w2 ⟨rfl, O2, h2⟩; have H2 : Hid (D1 w w2 w.heap.size O2 wk1) := h2; clear h2; have HS : Hid (Calls Try.prog 38 #[.pointer (some ⟨w.heap.size, 0, none⟩), .int .i64 0] w2 fun e w' => e = .returned (.int .i64 0) ∧ ∃ O', D1 w w' w.heap.size O' wk2) := (d1Sync H2.out wk1_few (by omega) 0).mono (fun e w' h => by rw [wk_s] at h; exact ⟨h.1, h.2.choose, h.2.choose_spec.1⟩)) | (go_at_call 38; refine Calls.mono HS.out ?_; rintro e w3 ⟨rfl, O3, h3⟩; have H3 : Hid (D1 w w3 w.heap.size O3 wk2) := h3; clear h3; have HC := d1Crash H3.out wk2_few (by omega) (.slice none 0 0) [] (Rp.nil9 _) (fun h => absurd rfl h); have HC : Hid _ := HC) | (go_at_call 44; refine Calls.mono HC.out ?_; rintro e w4 ⟨T, rb, rfl, ⟨⟨pb, rv, pv, hrw⟩, hT⟩, h4, hf4⟩; have H4 : Hid (Below w.heap.size w w4) := h4.bel; have k0 := (hrw.blk.cell 0).trans (r8_at rv (by omega)); have ho := hrw.ow 0 (by omega); rw [wk_c] at ho; obtain ⟨ra, rn, rc, er⟩ := ownsRow_sl ho; rw [er] at k0; rw [er] at ho; have hst := ho.string; have hlb := hrw.blk.lt; clear hrw hT h4 hf4 ho er) | (go_at_call 26; refine Calls.mono (HNum.out _) ?_; rintro e w9 ⟨rfl, e9⟩; have e9 := e9.symm; subst e9))
  go_ret
  exact ⟨rfl, H4.out⟩
end Go.Proofs.Ytljhhdpeakencaa
end
section
set_option linter.unusedSimpArgs false
set_option linter.unusedVariables false
namespace Go.Proofs.Ytljhhdpeakencaa
open Go.RowKit

/-! tarnlaw9.heavy: it answers something. -/
theorem La.below {w w' : World} {v : Value} {xs : List Ac} (h : La w v xs) (hb : Below w.heap.size w w') : La w' v xs := by
  obtain ⟨ad, cap, rfl, h1, h2, h3⟩ := h
  refine ⟨ad, cap, rfl, h1, h2, fun i hi => ?_⟩
  obtain ⟨b, off, bv, pv, e, hr, hb1, hp, hw⟩ := h3 i hi
  exact ⟨b, off, bv, pv, e, fun j x hx => (hb.cell (World.block_lt_of_cell? w _ (hr j x hx))).trans (hr j x hx), hb1.below hb, hp.below hb, hw⟩
def SomeB (e : Ending) : Prop := ∃ c : Bool, e = .returned (.bool c)
theorem someB (c : Bool) : SomeB (.returned (.bool c)) := ⟨c, rfl⟩
set_option maxRecDepth 100000 in
set_option maxHeartbeats 1000000 in
theorem heavy9 (w : World) (fv lv : Value) (ls : List (List UInt8)) (xs : List Ac) (hF : Rl w fv ls) (hL : La w lv xs) (hn : ls.length ≤ 1048576) (hs : ∀ l ∈ ls, l.length ≤ 1048576) :
    Calls Try.prog 22 #[.agg #[fv, lv]] w fun e w' => SomeB e ∧ Below w.heap.size w w' := by
  have HCW : Hid (∀ W, Below w.heap.size w W → Calls Try.prog 73 #[fv] W fun e w' => (∃ N : Nat, e = .returned (.int .i64 (N : Int)) ∧ N ≤ 2199024304128) ∧ w' = W) := fun W hW =>
    (cellsW W fv ls (hF.below hW) (by omega) (fun l hl => Nat.le_trans (hs l hl) (by omega))).mono fun e w' h => by
      obtain ⟨⟨N, h1, h2, _⟩, h3⟩ := h
      exact ⟨⟨N, h1, h2⟩, h3⟩
  obtain ⟨fa, fc, rfl, h9⟩ := hF
  clear h9 hs
  obtain ⟨la, lc, rfl, hlc, hlm, hat⟩ := hL
  have HA : Hid (∀ i (h : i < xs.length), ∃ b off bv pv, la = some ⟨b, off, none⟩ ∧ w.rangeAt b (off + i * 6) (acc xs[i] bv pv).toList ∧ Rb w bv xs[i].bs ∧ Rp w pv xs[i].ps ∧ Acw xs[i]) := hat
  clear hat
  obtain ⟨m, hm⟩ : ∃ m, m = xs.length := ⟨_, rfl⟩
  have Hm : Hid (m = xs.length) := hm
  rw [← hm] at hlc hlm ⊢
  clear hm
  generalize ls.length = fl at *
  go_enter Try.func22, Try.ntmps22
  go_upto_region 1 with fail
  obtain ⟨W0, hW0⟩ : ∃ W0, W0 = w.alloc (.cells #[.slice fa fl fc, .slice la m lc] 25) := ⟨_, rfl⟩
  rw [← hW0]
  have hX : Bk W0 w.heap.size #[.slice fa fl fc, .slice la m lc] 25 := by rw [hW0]; exact Bk.new _ _ _
  have HB0 : Hid (Below w.heap.size w W0) := by show Below _ _ _; rw [hW0]; exact (Below.refl _ _).alloc (Nat.le_refl _) _
  clear hW0
  have x0 := hX.cell 0
  have x1 := hX.cell 1
  have xl := hX.lt
  simp only [List.getElem?_toArray, List.getElem?_cons_zero, List.getElem?_cons_succ] at x0 x1
  have HX : Hid (Bk W0 w.heap.size #[.slice fa fl fc, .slice la m lc] 25) := hX
  obtain ⟨X, hXx⟩ : ∃ X, X = w.heap.size := ⟨_, rfl⟩
  have HXx : Hid (X = w.heap.size) := hXx
  rw [← hXx] at x0 x1 xl ⊢
  clear hX hXx
  go_wp2_with (go_at_call 73; refine Calls.mono (HCW.out _ HB0.out) ?_; rintro e w1 ⟨⟨N, rfl, hN⟩, e1⟩; have e1 := e1.symm; subst e1)
  go_loopw [3, 4] (fun n i wr => ∃ (k z : Nat), k ≤ m ∧ i = .int .i64 (k : Int) ∧ n = .int .i64 (z : Int) ∧ z ≤ 2199024304128 ∧ Below W0.heap.size W0 wr) (fun _ i _ => m - (intOf i).toNat)
  case atStart => exact ⟨0, N, by omega, rfl, rfl, by omega, Below.refl _ _⟩
  case round =>
    obtain ⟨i, z, hi, rfl, rfl, hz, hb⟩ := hrel
    have HB : Hid (Below W0.heap.size W0 wr) := hb
    replace x0 := (hb.cell (p := ⟨X, 0, none⟩) xl).trans x0
    replace x1 := (hb.cell (p := ⟨X, 1, none⟩) xl).trans x1
    have xl2 : X < wr.heap.size := Nat.lt_of_lt_of_le xl hb.size
    clear hb
    by_cases hlt : i < m
    · have hlt' : (i : Int) < (m : Int) := by omega
      by_cases hz2 : z < 1048576
      · have hz2' : (z : Int) < 1048576 := by omega
        have hix : i < xs.length := by have := Hm.out; omega
        obtain ⟨b, off, bv, pv, e, hr, hbv, hpv, hw⟩ := HA.out i hix
        generalize xs[i]'hix = a at *
        subst e
        obtain ⟨ba, bc9, rfl, h9⟩ := hbv
        clear h9
        obtain ⟨pa, pc, rfl, h9⟩ := hpv
        clear h9
        have hr2 : ∀ j x, (acc a (.slice ba a.bs.length bc9) (.slice pa a.ps.length pc)).toList[j]? = some x → wr.cell? ⟨b, off + i * 6 + j, none⟩ = some x := fun j x hx =>
          (HB.out.cell (Nat.lt_of_lt_of_le (World.block_lt_of_cell? w _ (hr j x hx)) HB0.out.size)).trans ((HB0.out.cell (World.block_lt_of_cell? w _ (hr j x hx))).trans (hr j x hx))
        have k4 := hr2 4 _ rfl
        have k5 := hr2 5 _ rfl
        have hwb := hw.bs
        have hwp := hw.ps
        clear hr hr2 hw
        generalize a.bs.length = bn at *
        generalize a.ps.length = pn at *
        have hw1 : IntKind.i64.wrap ((z : Int) + (bn : Int)) = (z : Int) + (bn : Int) := IntWalk.i64_in _ (by omega)
        have hw2 : IntKind.i64.wrap ((z : Int) + (bn : Int) + (pn : Int)) = (z : Int) + (bn : Int) + (pn : Int) := IntWalk.i64_in _ (by omega)
        go_upto_region 5 with fail
        refine wp_region_noPanic ?_
        refine wp_region_held_drew (S := fun W' => W'.cell? ⟨X, 1, none⟩ = some (.slice (some ⟨b, off, none⟩) m lc) ∧ W'.cell? ⟨b, off + i * 6 + 4, none⟩ = some (.slice ba bn bc9) ∧ W'.cell? ⟨b, off + i * 6 + 5, none⟩ = some (.slice pa pn pc)) (by kernel_rfl) ?_ (fun hHeld => ?_)
        · ((try dsimp only); exact ⟨x1, k4, k5⟩)
        (try dsimp only at hHeld)
        refine wpAnyH_take (i := 0) (oi := ⟨some 19, _, _, _, _, _⟩) (v := ?_) rfl (by kernel_rfl) (by kernel_rfl) (by kernel_rfl) (fun _ _ _ h => h) (Or.inl ⟨by rfl, ?_⟩) (by assumption) ?_
        rotate_left
        · (intro w hSw; (try dsimp only at hSw); go_simp; try (with_reducible rfl))
        (try dsimp only); (try simp only [Act.put, List.setIfInBounds_toArray, List.set_cons_zero, List.set_cons_succ])
        refine wpAnyH_take (i := 1) (oi := ⟨some 20, _, _, _, _, _⟩) (v := ?_) rfl (by kernel_rfl) (by kernel_rfl) (by kernel_rfl) (fun _ _ _ h => h) (Or.inl ⟨by rfl, ?_⟩) (by assumption) ?_
        rotate_left
        · (intro w hSw; (try dsimp only at hSw); go_simp; try (with_reducible rfl))
        (try dsimp only); (try simp only [Act.put, List.setIfInBounds_toArray, List.set_cons_zero, List.set_cons_succ])
        refine wpAnyH_take (i := 2) (oi := ⟨some 21, _, _, _, _, _⟩) (v := ?_) rfl (by kernel_rfl) (by kernel_rfl) (by kernel_rfl) (fun _ _ _ h => h) (Or.inl ⟨by rfl, ?_⟩) (by assumption) ?_
        rotate_left
        · (intro w hSw; (try dsimp only at hSw); go_simp; try (with_reducible rfl))
        (try dsimp only); (try simp only [Act.put, List.setIfInBounds_toArray, List.set_cons_zero, List.set_cons_succ])
        refine wpAnyH_take (i := 3) (oi := ⟨some 22, _, _, _, _, _⟩) (v := ?_) rfl (by kernel_rfl) (by kernel_rfl) (by kernel_rfl) (fun _ _ _ h => h) (Or.inl ⟨by rfl, ?_⟩) (by assumption) ?_
        rotate_left
        · (intro w hSw; (try dsimp only at hSw); go_simp; try (with_reducible rfl))
        (try dsimp only); (try simp only [Act.put, List.setIfInBounds_toArray, List.set_cons_zero, List.set_cons_succ])
        refine wpAnyH_take (i := 4) (oi := ⟨some 23, _, _, _, _, _⟩) (v := ?_) rfl (by kernel_rfl) (by kernel_rfl) (by kernel_rfl) (fun _ _ _ h => h) (Or.inl ⟨by rfl, ?_⟩) (by assumption) ?_
        rotate_left
        · (intro w hSw; (try dsimp only at hSw); go_simp; try (with_reducible rfl))
        (try dsimp only); (try simp only [Act.put, List.setIfInBounds_toArray, List.set_cons_zero, List.set_cons_succ])
        refine wpAnyH_take (i := 5) (oi := ⟨some 24, _, _, _, _, _⟩) (v := ?_) rfl (by kernel_rfl) (by kernel_rfl) (by kernel_rfl) (fun _ _ _ h => h) (Or.inl ⟨by rfl, ?_⟩) (by assumption) ?_
        rotate_left
        · (intro w hSw; (try dsimp only at hSw); go_simp; try (with_reducible rfl))
        (try dsimp only); (try simp only [Act.put, List.setIfInBounds_toArray, List.set_cons_zero, List.set_cons_succ])
        refine wpAnyH_take (i := 6) (oi := ⟨some 25, _, _, _, _, _⟩) (v := ?_) rfl (by kernel_rfl) (by kernel_rfl) (by kernel_rfl) (fun _ _ _ h => h) (Or.inl ⟨by rfl, ?_⟩) (by assumption) ?_
        rotate_left
        · (intro w hSw; (try dsimp only at hSw); go_simp; try (with_reducible rfl))
        (try dsimp only); (try simp only [Act.put, List.setIfInBounds_toArray, List.set_cons_zero, List.set_cons_succ])
        refine wpAnyH_take (i := 7) (oi := ⟨some 26, _, _, _, _, _⟩) (v := ?_) rfl (by kernel_rfl) (by kernel_rfl) (by kernel_rfl) (fun _ _ _ h => h) (Or.inl ⟨by rfl, ?_⟩) (by assumption) ?_
        rotate_left
        · (intro w hSw; (try dsimp only at hSw); go_simp; try (with_reducible rfl))
        (try dsimp only); (try simp only [Act.put, List.setIfInBounds_toArray, List.set_cons_zero, List.set_cons_succ])
        refine wpAnyH_take (i := 8) (oi := ⟨some 27, _, _, _, _, _⟩) (v := ?_) rfl (by kernel_rfl) (by kernel_rfl) (by kernel_rfl) (fun _ _ _ h => h) (Or.inl ⟨by rfl, ?_⟩) (by assumption) ?_
        rotate_left
        · (intro w hSw; (try dsimp only at hSw); go_simp; try (with_reducible rfl))
        (try dsimp only); (try simp only [Act.put, List.setIfInBounds_toArray, List.set_cons_zero, List.set_cons_succ])
        refine wpAnyH_take (i := 9) (oi := ⟨some 28, _, _, _, _, _⟩) (v := ?_) rfl (by kernel_rfl) (by kernel_rfl) (by kernel_rfl) (fun _ _ _ h => h) (Or.inl ⟨by rfl, ?_⟩) (by assumption) ?_
        rotate_left
        · (intro w hSw; (try dsimp only at hSw); go_simp; try (with_reducible rfl))
        (try dsimp only); (try simp only [Act.put, List.setIfInBounds_toArray, List.set_cons_zero, List.set_cons_succ])
        refine wpAnyH_take (i := 10) (oi := ⟨some 29, _, _, _, _, _⟩) (v := ?_) rfl (by kernel_rfl) (by kernel_rfl) (by kernel_rfl) (fun _ _ _ h => h) (Or.inl ⟨by rfl, ?_⟩) (by assumption) ?_
        rotate_left
        · (intro w hSw; (try dsimp only at hSw); go_simp; try (with_reducible rfl))
        (try dsimp only); (try simp only [Act.put, List.setIfInBounds_toArray, List.set_cons_zero, List.set_cons_succ])
        refine wpAnyH_take (i := 11) (oi := ⟨some 30, _, _, _, _, _⟩) (v := ?_) rfl (by kernel_rfl) (by kernel_rfl) (by kernel_rfl) (fun _ _ _ h => h) (Or.inl ⟨by rfl, ?_⟩) (by assumption) ?_
        rotate_left
        · (intro w hSw; (try dsimp only at hSw); go_simp; try (with_reducible rfl))
        (try dsimp only); (try simp only [Act.put, List.setIfInBounds_toArray, List.set_cons_zero, List.set_cons_succ])
        refine wpAnyH_take (i := 12) (oi := ⟨some 31, _, _, _, _, _⟩) (v := ?_) rfl (by kernel_rfl) (by kernel_rfl) (by kernel_rfl) (fun _ _ _ h => h) (Or.inl ⟨by rfl, ?_⟩) (by assumption) ?_
        rotate_left
        · (intro w hSw; (try dsimp only at hSw); go_simp; try (with_reducible rfl))
        (try dsimp only); (try simp only [Act.put, List.setIfInBounds_toArray, List.set_cons_zero, List.set_cons_succ])
        refine wpAnyH_take (i := 13) (oi := ⟨some 32, _, _, _, _, _⟩) (v := ?_) rfl (by kernel_rfl) (by kernel_rfl) (by kernel_rfl) (fun _ _ _ h => h) (Or.inl ⟨by rfl, ?_⟩) (by assumption) ?_
        rotate_left
        · (intro w hSw; (try dsimp only at hSw); go_simp; try (with_reducible rfl))
        (try dsimp only); (try simp only [Act.put, List.setIfInBounds_toArray, List.set_cons_zero, List.set_cons_succ])
        refine wpAnyH_take (i := 14) (oi := ⟨some 33, _, _, _, _, _⟩) (v := ?_) rfl (by kernel_rfl) (by kernel_rfl) (by kernel_rfl) (fun _ _ _ h => h) (Or.inl ⟨by rfl, ?_⟩) (by assumption) ?_
        rotate_left
        · (intro w hSw; (try dsimp only at hSw); go_simp; try (with_reducible rfl))
        (try dsimp only); (try simp only [Act.put, List.setIfInBounds_toArray, List.set_cons_zero, List.set_cons_succ])
        refine wpAnyH_take (i := 15) (oi := ⟨some 34, _, _, _, _, _⟩) (v := ?_) rfl (by kernel_rfl) (by kernel_rfl) (by kernel_rfl) (fun _ _ _ h => h) (Or.inl ⟨by rfl, ?_⟩) (by assumption) ?_
        rotate_left
        · (intro w hSw; (try dsimp only at hSw); go_simp; try (with_reducible rfl))
        (try dsimp only); (try simp only [Act.put, List.setIfInBounds_toArray, List.set_cons_zero, List.set_cons_succ])
        refine wpAnyH_take (i := 16) (oi := ⟨some 35, _, _, _, _, _⟩) (v := ?_) rfl (by kernel_rfl) (by kernel_rfl) (by kernel_rfl) (fun _ _ _ h => h) (Or.inl ⟨by rfl, ?_⟩) (by assumption) ?_
        rotate_left
        · (intro w hSw; (try dsimp only at hSw); go_simp; try (with_reducible rfl))
        (try dsimp only); (try simp only [Act.put, List.setIfInBounds_toArray, List.set_cons_zero, List.set_cons_succ])
        refine wpAnyH_take (i := 17) (oi := ⟨some 3, _, _, _, _, _⟩) (v := ?_) rfl (by kernel_rfl) (by kernel_rfl) (by kernel_rfl) (fun _ _ _ h => h) (Or.inl ⟨by rfl, ?_⟩) (by assumption) ?_
        rotate_left
        · (intro w hSw; (try dsimp only at hSw); go_simp; try (with_reducible rfl))
        (try dsimp only); (try simp only [Act.put, List.setIfInBounds_toArray, List.set_cons_zero, List.set_cons_succ])
        refine wpAnyH_done (by kernel_rfl) ?_ _
        refine NoPanic.normal ?_
        clear hHeld
        go_wp2_with fail
        go_roundw
        case rel => exact ⟨i + 1, z + bn + pn, by omega, by go_num, by go_num, by omega, HB.out.drew⟩
        case measure => simp [intOf]; omega
      · have hz2' : ¬ (z : Int) < 1048576 := by omega
        by_cases h8 : 8000 < (z : Int)
        · go_wp2_with fail
          go_ret
          exact ⟨someB _, HB0.out.trans (HB.out.mono HB0.out.size)⟩
        · omega
    · have hlt' : ¬ (i : Int) < (m : Int) := by omega
      by_cases h8 : 8000 < (z : Int)
      · go_wp2_with fail
        go_ret
        exact ⟨someB _, HB0.out.trans (HB.out.mono HB0.out.size)⟩
      · by_cases h9 : 200 < (m : Int)
        · go_wp2_with fail
          go_ret
          exact ⟨someB _, HB0.out.trans (HB.out.mono HB0.out.size)⟩
        · go_wp2_with fail
          go_ret
          exact ⟨someB _, HB0.out.trans (HB.out.mono HB0.out.size)⟩
end Go.Proofs.Ytljhhdpeakencaa
end

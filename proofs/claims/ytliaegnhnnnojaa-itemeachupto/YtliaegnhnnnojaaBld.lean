import Derived.Test.YtliaegnhnnnojaaItR
import Derived.Test.YtliaegnhnnnojaaBy
set_option linter.unusedSimpArgs false
set_option linter.unusedVariables false
namespace Go.Proofs.Ytliaegnhnnnojaa
open Go.RowKit

/-! Lists of items, made by appends. -/
def icell (p : IT × Value) : List Value := [.bool p.1.list, .string p.1.text, p.2]
def icells (ps : List (IT × Value)) : List Value := ps.flatMap icell
theorem icells_length (ps : List (IT × Value)) : (icells ps).length = ps.length * 3 := by
  induction ps with
  | nil => rfl
  | cons p ps ih => simp only [icells, List.flatMap_cons, List.length_append, List.length_cons] at *; rw [ih]; simp [icell]; omega
theorem icells_append (a b : List (IT × Value)) : icells (a ++ b) = icells a ++ icells b := by simp [icells]
theorem icells_at (ps : List (IT × Value)) (i : Nat) (h : i < ps.length) : (icells ps)[i * 3]? = some (.bool ps[i].1.list) ∧ (icells ps)[i * 3 + 1]? = some (.string ps[i].1.text) ∧ (icells ps)[i * 3 + 2]? = some ps[i].2 := by
  induction ps generalizing i with
  | nil => simp at h
  | cons p ps ih =>
    have e : icells (p :: ps) = icell p ++ icells ps := by simp [icells]
    have l3 : (icell p).length = 3 := rfl
    rw [e]
    cases i with
    | zero => simp [icell]
    | succ j =>
      have := ih j (by simpa using h)
      rw [List.getElem?_append_right (by rw [l3]; omega), List.getElem?_append_right (by rw [l3]; omega), List.getElem?_append_right (by rw [l3]; omega), l3]
      simp only [List.getElem_cons_succ]
      have e0 : (j + 1) * 3 - 3 = j * 3 := by omega
      have e1 : (j + 1) * 3 + 1 - 3 = j * 3 + 1 := by omega
      have e2 : (j + 1) * 3 + 2 - 3 = j * 3 + 2 := by omega
      rw [e0, e1, e2]
      exact this
/-- A list of items under way: a row of one's own, each item's own items elsewhere. -/
structure Bld (w : World) (base n : Nat) (v : Value) (ps : List (IT × Value)) : Prop where
  row : w.ownsRow base 26 3 v ps.length (icells ps)
  each : ∀ p ∈ ps, (∃ a l c, p.2 = .slice a l c) ∧ RdP w (fun b => base ≤ b ∧ some b ≠ v.ownBlock) n p.1.items p.2
theorem Bld.nil (w : World) (base n : Nat) : Bld w base n (.slice none 0 0) [] := ⟨World.ownsRow_nil w base _ 3, fun p h => by cases h⟩
theorem RdP.lt {w : World} {P : Nat → Prop} : ∀ {n : Nat} {xs : List IT} {v : Value}, RdP w P n xs v → RdP w (fun b => P b ∧ b < w.heap.size) n xs v
  | 0, _, _, h => h
  | n + 1, xs, v, h => by
    obtain ⟨hl, ad, cap, hv, h⟩ := h
    refine ⟨hl, ad, cap, hv, fun i hi => ?_⟩
    obtain ⟨b, off, ha, hP, a, l, c, h0, h1, h2, h3⟩ := h i hi
    exact ⟨b, off, ha, ⟨⟨hP.1, cell_lt' h0⟩, hP.2.imp (fun h => ⟨h, Nat.lt_of_le_of_lt (Nat.zero_le b) (cell_lt' h0)⟩) id⟩, a, l, c, h0, h1, h2, RdP.lt h3⟩
theorem RdP.keep {w w' : World} {P : Nat → Prop} {n : Nat} {xs : List IT} {v : Value} (h : RdP w P n xs v) (hb : ∀ b, P b → b < w.heap.size → w'.heap[b]? = w.heap[b]?) : RdP w' P n xs v :=
  (h.lt.same fun b hp => hb b hp.1 hp.2).weak fun b hp => hp.1
theorem Bld.below {w w' : World} {base n : Nat} {v : Value} {ps : List (IT × Value)} (h : Bld w base n v ps) (hb : Below w.heap.size w w') : Bld w' base n v ps :=
  ⟨World.ownsRow.kept h.row (grown_of_below (r := none) hb) (by cases v.ownBlock <;> simp), fun p hp => ⟨(h.each p hp).1, (h.each p hp).2.keep fun b _ hl => hb.block b hl⟩⟩
/-- One more: its own items lie in blocks that are younger than the row. -/
theorem Bld.snoc {w w' : World} {base n B : Nat} {v v' : Value} {ps : List (IT × Value)} {x : IT} {sv : Value} (h : Bld w base n v ps) (hx : RdP w (B ≤ ·) n x.items sv) (hs : ∃ a l c, sv = .slice a l c) (hB : base ≤ B) (hv : ∀ k, v.ownBlock = some k → k < B)
    (hr : w'.ownsRow base 26 3 v' (ps.length + 1) (icells ps ++ icell (x, sv))) (hg : w.grownBy w' v.ownBlock) (hn : Sn w v v') : Bld w' base n v' (ps ++ [(x, sv)]) := by
  have hblk : ∀ b, some b ≠ v.ownBlock → b < w.heap.size → some b ≠ v'.ownBlock ∧ w'.heap[b]? = w.heap[b]? := fun b h1 h2 => by
    refine ⟨?_, hg.block b h2 h1⟩
    rcases hn with e | hn
    · rw [e]; exact h1
    · intro e; have := hn b e.symm; omega
  refine ⟨?_, fun p hp => ?_⟩
  · have e : icells (ps ++ [(x, sv)]) = icells ps ++ icell (x, sv) := by rw [icells_append]; simp [icells]
    rw [e, List.length_append]; exact hr
  · rcases List.mem_append.1 hp with hp | hp
    · refine ⟨(h.each p hp).1, ?_⟩
      refine ((h.each p hp).2.lt.same (w' := w') fun b hb => (hblk b hb.1.2 hb.2).2).weak fun b hb => ⟨hb.1.1, (hblk b hb.1.2 hb.2).1⟩
    · simp at hp
      subst hp
      refine ⟨hs, (hx.lt.same (w' := w') fun b hb => ?_).weak fun b hb => ⟨by omega, ?_⟩⟩
      · exact (hblk b (fun e => by have := hv b e.symm; omega) hb.2).2
      · exact (hblk b (fun e => by have := hv b e.symm; omega) hb.2).1
theorem Bld.rd {w : World} {base n : Nat} {v : Value} {ps : List (IT × Value)} (h : Bld w base n v ps) (hl : ps.length ≤ 9223372036854775807) : RdP w (base ≤ ·) (n + 1) (ps.map Prod.fst) v := by
  rcases h.row.2 with ⟨rfl, hz⟩ | ⟨g, cap, cur, rfl, hg, hh, h4, h5, h6, h7⟩
  · have : ps = [] := List.length_eq_zero_iff.1 hz
    subst this
    exact ⟨by simp, none, 0, rfl, fun i hi => by simp at hi⟩
  · refine ⟨by simpa using hl, some ⟨g, 0, none⟩, cap, by simp, fun i hi => ?_⟩
    have hi' : i < ps.length := by simpa using hi
    obtain ⟨c0, c1, c2⟩ := icells_at ps i hi'
    have hc : ∀ j u, (icells ps)[j]? = some u → w.cell? ⟨g, 0 + j, none⟩ = some u := fun j u hj => by
      have := World.ownsRow.cells h.row (g := g) rfl j u hj
      rw [Addr.add_lit] at this; exact this
    obtain ⟨⟨a, l, c, hs⟩, hr⟩ := h.each ps[i] (List.getElem_mem hi')
    refine ⟨g, 0, rfl, ⟨hg, .inr ⟨_, _, hh⟩⟩, a, l, c, ?_, ?_, ?_, ?_⟩
    · simpa using hc _ _ c0
    · have := hc _ _ c1; simp only [List.getElem_map]; rw [← Nat.add_assoc] at this; exact this
    · have := hc _ _ c2; rw [hs] at this; rw [← Nat.add_assoc] at this; exact this
    · simp only [List.getElem_map]; rw [← hs]; exact hr.weak fun b hb => hb.1
end Go.Proofs.Ytliaegnhnnnojaa

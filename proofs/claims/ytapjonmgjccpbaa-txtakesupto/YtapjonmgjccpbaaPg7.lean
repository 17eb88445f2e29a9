import Derived.Test.YtapjonmgjccpbaaTkB
import Derived.Test.YtapjonmgjccpbaaRWd
set_option linter.unusedSimpArgs false
set_option linter.unusedVariables false
set_option maxRecDepth 100000
namespace Go.Proofs.Ytapjonmgjccpbaa
open Go.RowKit

/-! How the page reads a transaction: what it asks, and that it is the same. -/
def pgT (l : List IT) : TX := ⟨smV (atI l 0).list (atI l 0).text 8, smV (atI l 1).list (atI l 1).text 1099511627776, wdV (atI l 2).list (atI l 2).text, wdV (atI l 3).list (atI l 3).text, wdV (atI l 4).list (atI l 4).text, wdV (atI l 5).list (atI l 5).text, smV (atI l 6).list (atI l 6).text 1073741824, (atI l 7).items.map (fun y => mtV y.text), (atI l 8).items.map (fun y => y.text)⟩
def pgA (s : ByteArray) : Prop := (tk0 s).2.2 = 0 ∧ (tk0 s).2.1 = s.size ∧ (tk0 s).1.list = true ∧ (tk0 s).1.items.length = 9 ∧ (atI (tk0 s).1.items 7).list = true ∧ (atI (tk0 s).1.items 8).list = true
structure pgB (l : List IT) : Prop where
  b0 : smP (atI l 0).list (atI l 0).text 8
  b1 : smP (atI l 1).list (atI l 1).text 1099511627776
  b2 : wdOk (atI l 2).list (atI l 2).text = true
  b3 : wdOk (atI l 3).list (atI l 3).text = true
  b4 : wdOk (atI l 4).list (atI l 4).text = true
  b5 : wdOk (atI l 5).list (atI l 5).text = true
  b6 : smP (atI l 6).list (atI l 6).text 1073741824
theorem nb_wd (L : Bool) (s : ByteArray) : nbOk L s = wdOk L s := by
  unfold nbOk wdOk tkE
  cases tkGood s <;> cases L <;> rfl
theorem sm_wh {L : Bool} {s : ByteArray} {m : Int} (hm : m < 9223372036854775808) (h : smP L s m) : whOk L s = true ∧ whV L s = smV L s m ∧ (whV L s : Int) ≤ m ∧ 0 ≤ whV L s := by
  obtain ⟨h1, h2, h3⟩ := h
  have hL : L = false := by unfold wdOk at h1; cases L <;> simp_all
  have hv : wdV L s = tkV s := by unfold wdV; rw [hL]; rfl
  rw [hv] at h2 h3
  have hb : bl (tkV s) < 64 := by have := (bl_iff (tkV s) 62).2 (by simpa using h2); omega
  have hw : whOk L s = true := by unfold whOk; rw [nb_wd, h1, decide_eq_true hb]; rfl
  have e1 : whV L s = (tkV s : Int) := if_pos hw
  have e2 : smV L s m = (wdV L s : Int) := if_pos ⟨h1, by rw [hv]; exact h2, by rw [hv]; exact h3⟩
  exact ⟨hw, by rw [e1, e2, hv], by rw [e1]; exact h3, by rw [e1]; omega⟩
theorem wh_sm {L : Bool} {s : ByteArray} {m : Int} (hm : m ≤ 4611686018427387903) (h : whOk L s = true) (hb : whV L s ≤ m) : smP L s m := by
  have e1 : whV L s = (tkV s : Int) := if_pos h
  unfold whOk at h
  rw [Bool.and_eq_true, nb_wd] at h
  have hL : L = false := by have := h.1; unfold wdOk at this; cases L <;> simp_all
  have hv : wdV L s = tkV s := by unfold wdV; rw [hL]; rfl
  rw [e1] at hb
  exact ⟨h.1, by rw [hv]; omega, by rw [hv]; exact hb⟩
theorem wd_nb {L : Bool} {s : ByteArray} (h : wdOk L s = true) : nbOk L s = true ∧ wdV L s = tkV s := by
  refine ⟨by rw [nb_wd]; exact h, ?_⟩
  have hL : L = false := by unfold wdOk at h; cases L <;> simp_all
  unfold wdV; rw [hL]; rfl
/-- What the page asks beyond the numbers. -/
def pgC (l : List IT) : Prop := ∀ y ∈ (atI l 7).items, y.text.size = 8
def pgD (l : List IT) : Prop := ∀ y ∈ (atI l 8).items, y.list = false
theorem pg_T {l : List IT} (h : pgB l) : pgT l = rdT l := by
  obtain ⟨-, e0, -⟩ := sm_wh (by omega) h.b0
  obtain ⟨-, e1, -⟩ := sm_wh (by omega) h.b1
  obtain ⟨-, e6, -⟩ := sm_wh (by omega) h.b6
  unfold pgT rdT
  rw [← e0, ← e1, ← e6, (wd_nb h.b2).2, (wd_nb h.b3).2, (wd_nb h.b4).2, (wd_nb h.b5).2]
theorem pz_of (s : ByteArray) : (pz s).2 = 0 ↔ (tk0 s).2.2 = 0 ∧ (tk0 s).2.1 = s.size := by
  unfold pz
  by_cases h : (tk0 s).2.2 = 0
  · have hb := (tk_back 16 s h).2.2.1
    have hb : (tk0 s).2.1 ≤ s.size := hb
    rw [if_neg (by simpa using h)]
    by_cases h2 : (tk0 s).2.1 < s.size
    · rw [if_pos h2]; constructor
      · intro h; exact absurd h (by decide)
      · rintro ⟨-, h3⟩; omega
    · rw [if_neg h2]; constructor
      · intro _; exact ⟨h, by omega⟩
      · intro _; rfl
  · rw [if_pos h]; constructor
    · intro h3; exact absurd h3 h
    · rintro ⟨h3, -⟩; exact absurd h3 h
theorem pz_fst {s : ByteArray} (h : (pz s).2 = 0) : (pz s).1 = (tk0 s).1 := by
  have h1 := (pz_of s).1 h
  unfold pz
  rw [if_neg (by simpa using h1.1), if_neg (by omega)]
theorem pg_iff (s : ByteArray) : tkOk s ↔ pgA s ∧ pgB (tk0 s).1.items ∧ pgC (tk0 s).1.items ∧ pgD (tk0 s).1.items ∧ TxOk (pgT (tk0 s).1.items) := by
  constructor
  · rintro ⟨h1, h2, h3, h4⟩
    have hp := pz_fst h1
    rw [hp] at h2 h3 h4
    have h1 := (pz_of s).1 h1
    unfold pgA
    obtain ⟨l, hl⟩ : ∃ l, l = (tk0 s).1.items := ⟨_, rfl⟩
    rw [← hl] at h3 h4 ⊢
    clear hl
    unfold okT at h3
    rw [Bool.and_eq_true, List.all_eq_true] at h3
    have hg : ∀ i, i < 9 → gdA i (atI l i) = true := fun i hi => h3.2 i (by simpa using hi)
    have q7 : lsU (atI l 7) = true := hg 7 (by omega)
    have q8 : lsS (atI l 8) = true := hg 8 (by omega)
    unfold lsU at q7
    unfold lsS at q8
    rw [Bool.and_eq_true, List.all_eq_true] at q7 q8
    have hB : pgB l := ⟨wh_sm (by omega) (hg 0 (by omega)) (Int.le_trans h4.1.2 (by decide)), wh_sm (by omega) (hg 1 (by omega)) h4.2.1.2, by rw [← nb_wd]; exact hg 2 (by omega), by rw [← nb_wd]; exact hg 3 (by omega), by rw [← nb_wd]; exact hg 4 (by omega), by rw [← nb_wd]; exact hg 5 (by omega), wh_sm (by omega) (hg 6 (by omega)) h4.2.2.1.2⟩
    refine ⟨⟨h1.1, h1.2, h2, by simpa using h3.1, q7.1, q8.1⟩, hB, fun y hy => ?_, fun y hy => ?_, by rw [pg_T hB]; exact h4⟩
    · have := q7.2 y hy; unfold gdU at this; simp at this; exact this.2
    · have := q8.2 y hy; unfold gdS at this; simpa using this
  · rintro ⟨⟨a1, a2, a3, a4, a5, a6⟩, hB, hC, hD, hE⟩
    have hz := (pz_of s).2 ⟨a1, a2⟩
    have hp := pz_fst hz
    obtain ⟨-, k2, -, -⟩ := tk_back 16 s a1
    have k2 : (tk0 s).1.pd ≤ 16 := k2
    obtain ⟨-, k3⟩ := clean_l k2 a3
    unfold tkOk
    rw [hp]
    rw [pg_T hB] at hE
    refine ⟨hz, a3, ?_, hE⟩
    generalize (tk0 s).1.items = l at *
    have h7 : (atI l 7).pd ≤ 15 := by
      have hm : atI l 7 ∈ l := by unfold atI; simp [List.getD_eq_getElem?_getD, List.getElem?_eq_getElem (show 7 < l.length by omega)]
      have := pds_mem hm; omega
    obtain ⟨-, k7⟩ := clean_l (by omega) a5
    unfold okT
    rw [Bool.and_eq_true, List.all_eq_true]
    refine ⟨by simpa using a4, fun i hi => ?_⟩
    have hi : i < 9 := by simpa using hi
    have : i = 0 ∨ i = 1 ∨ i = 2 ∨ i = 3 ∨ i = 4 ∨ i = 5 ∨ i = 6 ∨ i = 7 ∨ i = 8 := by omega
    rcases this with rfl | rfl | rfl | rfl | rfl | rfl | rfl | rfl | rfl
    · exact (sm_wh (by omega) hB.b0).1
    · exact (sm_wh (by omega) hB.b1).1
    · exact (wd_nb hB.b2).1
    · exact (wd_nb hB.b3).1
    · exact (wd_nb hB.b4).1
    · exact (wd_nb hB.b5).1
    · exact (sm_wh (by omega) hB.b6).1
    · show lsU (atI l 7) = true
      unfold lsU
      rw [a5, Bool.true_and, List.all_eq_true]
      intro y hy
      have h8 := hC y hy
      have hl : y.list = false := by
        cases hy2 : y.list with
        | false => rfl
        | true =>
          obtain ⟨e, -⟩ := clean_l (by have := pds_mem hy; omega) hy2
          rw [e] at h8
          exact absurd (show (0 : Nat) = 8 from h8) (by decide)
      unfold gdU
      rw [hl, h8]; rfl
    · show lsS (atI l 8) = true
      unfold lsS
      rw [a6, Bool.true_and, List.all_eq_true]
      intro y hy
      unfold gdS
      rw [hD y hy]; rfl
theorem at_mem (l : List IT) (i : Nat) (h : i < l.length) : atI l i ∈ l := by
  unfold atI
  simp [List.getD_eq_getElem?_getD, List.getElem?_eq_getElem h]
theorem pg_small (s : ByteArray) (h : pgA s) (i : Nat) (hi : i < 9) : ∀ y ∈ (atI (tk0 s).1.items i).items, y.text.size ≤ 1048576 := fun y hy => by
  obtain ⟨a1, a2, a3, a4, -, -⟩ := h
  have hw := pz_wt s
  rw [pz_fst ((pz_of s).2 ⟨a1, a2⟩)] at hw
  have h1 := wt_item _ _ (at_mem (tk0 s).1.items i (by omega))
  have h2 := wt_item _ y hy
  have h3 := text_wt y
  omega
theorem pg_len (s : ByteArray) (h : pgA s) (i : Nat) (hi : i < 9) : (atI (tk0 s).1.items i).items.length ≤ 1048576 := by
  obtain ⟨a1, a2, a3, a4, -, -⟩ := h
  have hw := pz_wt s
  rw [pz_fst ((pz_of s).2 ⟨a1, a2⟩)] at hw
  have h1 := wt_item _ _ (at_mem (tk0 s).1.items i (by omega))
  generalize atI (tk0 s).1.items i = a at h1 ⊢
  obtain ⟨l, t, ys⟩ := a
  have h2 := len_wts ys
  have h3 : (IT.mk l t ys).wt = 1 + t.size + IT.wts ys := by rw [IT.wt]
  show ys.length ≤ 1048576
  omega
theorem own_not7 {α : Type} {e : TypeId} {c : α → Value} {w : World} {base X : Nat} {v : Value} {l : List α} {vs : Array Value} {t : TypeId} (h : Or e c w base v l) (hX : Bk w X vs t) (he : e ≠ t) : v.ownBlock ≠ some X := by
  intro hv
  rcases h.2 with ⟨rfl, _⟩ | ⟨g, cap, cur, rfl, _, hh, _⟩
  · simp [Value.ownBlock] at hv
  · simp [Value.ownBlock] at hv
    subst hv
    have hX : w.heap[g]? = some (.cells vs t) := hX
    rw [hh] at hX
    simp at hX
    exact he hX.2
/-- A row of the call's own, one element more: a block beside it is as it was. -/
theorem row_push {α : Type} {e : TypeId} {c : α → Value} {W W' w0 : World} {base X : Nat} {u u' : Value} {l : List α} {x : α} {vs : Array Value} {t : TypeId} (hO : Or e c W base u l) (hX : Bk W X vs t) (he : e ≠ t) (hown : W'.ownsRow base e 1 u' (l.length + 1) (l.map c ++ [c x])) (hg : W.grownBy W' u.ownBlock) (hb : base ≤ W.heap.size) (hB : Below base w0 W) :
    Bk W' X vs t ∧ Or e c W' base u' (l ++ [x]) ∧ u'.ownBlock ≠ some X ∧ Below base w0 W' := by
  have hnX := own_not7 hO hX he
  have hbX : Bk W' X vs t := (hg.block X hX.lt (fun e => hnX e.symm)).trans hX
  have hO' : Or e c W' base u' (l ++ [x]) := by
    unfold Or
    rw [List.map_append, List.length_append]
    exact hown
  exact ⟨hbX, hO', own_not7 hO' hbX he, hB.trans (grown_below hg hb fun k hk => (hO.ge hk).1)⟩
theorem own_shp8 {w : World} {base : Nat} {e : TypeId} {z n : Nat} {v : Value} {xs : List Value} (h : w.ownsRow base e z v n xs) : ∃ ad cap, v = .slice ad n cap := by
  rcases h.2 with ⟨rfl, rfl⟩ | ⟨g, cap, cur, rfl, _⟩
  · exact ⟨_, _, rfl⟩
  · exact ⟨_, _, rfl⟩
end Go.Proofs.Ytapjonmgjccpbaa

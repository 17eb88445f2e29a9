/- Texts joined: RF RFA RFr RFP DkE DkF. -/
import Derived.Test.YtjbhegakgdcldaaJ0
import Derived.RangeFuncNested
import Derived.RangeFuncBound
import Derived.RangeFuncCalls
import Derived.RangeFuncLeaves
import Derived.RangeFuncBox
import Derived.RangeFuncWrites
import Derived.OrdersIn
import Derived.OwnWalkIn
import Derived.Test.YtjbhegakgdcldaaJ1
import Derived.Deep.Light
import Derived.Lib.BitFns
import Derived.Shelf.Abstract
import Derived.Shelf.RegionOpen
import Derived.TacticsInMore
import Derived.LoopNIn
import Derived.LoopIn
import Derived.Deep.OwnRows
import Derived.Scope
section
set_option linter.unusedSimpArgs false
set_option linter.unusedVariables false
namespace Go.Proofs.Ytjbhegakgdcldaa
open Go.RowKit

/-! A range over a function whose own variables are written between its yields: what such a sequence promises, and the loop over it.
The caller's word hangs on nothing that was made behind the sequence's beginning. -/
def SeqB {α : Type} (F : Fence) (n : Nat) (P : Program) (g : Nat) (lb : Array Value) (encs : α → Array Value) (Kp : World → World → Prop) (S Sp : List α → Prop) (w : World) : Prop :=
  ∀ (l : Nat) (J Jx : List α → World → Prop) (W : World), Below w.heap.size w W → (∀ s A B, J s A → Below W.heap.size A B → J s B) → (∀ s A B, Jx s A → Below W.heap.size A B → Jx s B) →
    (∀ pre x A, J pre A → YieldAt F (n - 1) P l (encs x) A fun e B => (e = .returned (.bool true) ∧ J (pre ++ [x]) B ∧ Kp A B) ∨ (e = .returned (.bool false) ∧ Jx (pre ++ [x]) B)) →
    J [] W → CallsIn F n P g (#[.func (.yield l) #[] #[]] ++ lb) W fun e B => (∃ v, e = .returned v) ∧ ((∃ xs, S xs ∧ J xs B) ∨ (∃ pre, Sp pre ∧ Jx pre B))
/-- How a round's body may be left. -/
def leftB {α : Type} (B : Nat) (Kp : World → World → Prop) (I : List α → World → Prop) (Ix : Code → List α → World → Prop) (xs : List α) (W : World) : Exit → Act → World → Prop
  | .normal, _, W' => KeepsFrom B W W' ∧ Kp W W' ∧ I xs W'
  | .ret, _, W' => KeepsFrom B W W' ∧ Ix .ret xs W'
  | .exit id, _, W' => KeepsFrom B W W' ∧ Ix (.exit id) xs W'
  | _, _, _ => False
theorem below_put {B l : Nat} (A : World) (o : Obj) (h : B ≤ l) : Below B A (A.putObj l o) :=
  ⟨rfl, rfl, rfl, by simp [World.putObj], fun k hk => World.putObj_heap_other (by omega)⟩
set_option maxHeartbeats 400000 in
theorem wpIn_rangeB {α : Type} {F : Fence} {n : Nat} {P : Program} {g : Operand} {ps : Array Tmp} {assign body : Code} {Q : Exit → Act → World → Prop} {a : Act} {w : World}
    (hro : F.round = none) (h1 : 1 ≤ n) {gf : Nat} {lb : Array Value} (hg : a.eval g = .func (.func gf) #[] lb) (hFg : F.fn gf) (eg : ∀ args w, (callFunc gf args).run P w = .ok (.enter gf args) w)
    {encs : α → Array Value} {Kp : World → World → Prop} {S Sp : List α → Prop} {w0 : World} (hseq : SeqB F (n - 1) P gf lb encs Kp S Sp w0)
    (hKt : ∀ A B C : World, Kp A B → Kp B C → Kp A C) (hKb : ∀ (W : World) (l : Nat) (o o' : Obj), w.heap.size ≤ l → W.heap[l]? = some o → o.isCells = false → Kp W (W.putObj l o')) (hb0 : Below w0.heap.size w0 w) (hps : ∀ x, (encs x).size = ps.size)
    (I : List α → World → Prop) (Ix : Code → List α → World → Prop) (hI : ∀ s A B, I s A → Below w.heap.size A B → I s B) (hIx : ∀ c s A B, Ix c s A → Below w.heap.size A B → Ix c s B) (h0 : I [] w)
    (Ax : α → Act → World → Prop) (hAx : ∀ x a' A l o o', w.heap.size ≤ l → A.heap[l]? = some o → o.isCells = false → Ax x a' A → Ax x a' (A.putObj l o'))
    (hassign : ∀ (l : Nat) (pre : List α) (x : α) (W : World) (K : Act → World → Prop), I pre W → (∀ a' W', KeepsFrom w.heap.size W W' → Kp W W' → I pre W' → Ax x a' W' → K a' W') →
      assign.wpIn (F.inRound l) (n - 1 - 1) P (Exit.then K (fun _ _ _ => False)) { tmps := (ps.zip (encs x)).foldl (fun t (p, v) => t.setIfInBounds p v) a.tmps, defers := [] } W)
    (hbody : ∀ (l : Nat) (pre : List α) (x : α) (a' : Act) (W : World), I pre W → Ax x a' W → body.wpIn (F.inRound l) (n - 1 - 1) P (leftB w.heap.size Kp I Ix (pre ++ [x]) W) a' W)
    (hdone : ∀ (D : Nat) (xs : List α) (W : World), w.heap.size ≤ D → S xs → I xs W → W.heap[D]? = some (.deferred (some [])) → Q .normal { a with defers := { target := .collected D, args := #[] } :: a.defers } W)
    (hstop : ∀ (D : Nat) (c : Code) (pre : List α) (W : World), w.heap.size ≤ D → Sp pre → Ix c pre W → W.heap[D]? = some (.deferred (some [])) → c.wpIn F n P Q { a with defers := { target := .collected D, args := #[] } :: a.defers } W) :
    (Code.rangeFunc g ps assign body).wpIn F n P Q a w := by
  refine wpIn_rangeFunc fun fn hfn => ?_
  rw [hro]
  obtain ⟨R, hR⟩ : ∃ R : LoopState → Option Code → Loop, R = fun st pe => { state := st, pending := pe, fn, tmps := a.tmps, params := ps, assign, body, defers := w.heap.size } := ⟨_, rfl⟩
  obtain ⟨W1, hW1⟩ : ∃ W1, W1 = (w.alloc (.deferred (some []))).alloc (.loop (R .ready none)) := ⟨_, rfl⟩
  have hz : W1.heap.size = w.heap.size + 2 := by rw [hW1]; simp
  have hbw : Below w.heap.size w W1 := by rw [hW1]; exact ((Below.refl _ w).alloc (Nat.le_refl _) _).alloc (by simp) _
  have hl1 : W1.heap[w.heap.size + 1]? = some (.loop (R .ready none)) := by
    have := World.alloc_heap_new (w.alloc (.deferred (some []))) (.loop (R .ready none))
    rw [World.size_alloc] at this
    rw [hW1]; exact this
  have hd1 : W1.heap[w.heap.size]? = some (.deferred (some [])) := by
    rw [hW1]; exact (Below.heap_alloc _ _ _ (by simp)).trans (World.alloc_heap_new w _)
  refine ⟨w.heap.size + 1, [{ target := .collected w.heap.size, args := #[] }], W1, { target := .fn (.func gf) lb, args := #[.func (.yield (w.heap.size + 1)) #[] #[]] }, W1, gf, #[.func (.yield (w.heap.size + 1)) #[] #[]] ++ lb, W1, ?_, ?_, ?_, ?_, fun _ => h1, ?_⟩
  · rw [hW1, hR]; exact run_enterLoop_outer _ _ _ _ _
  · simp only [resolve, hg]; simp [go_sem]
  · intro f hf
    simp [Target.leads] at hf
    subst hf; exact hFg
  · simp [invoke, go_sem, eg]
  have same : ∀ {A B : World} {k : Nat}, Below W1.heap.size A B → k < w.heap.size + 2 → B.heap[k]? = A.heap[k]? := fun h hk => h.block _ (by omega)
  refine (hseq (w.heap.size + 1) (fun pre W => I pre W ∧ W.heap[w.heap.size + 1]? = some (.loop (R .ready none)) ∧ W.heap[w.heap.size]? = some (.deferred (some [])))
    (fun pre W => ∃ c, Ix c pre W ∧ W.heap[w.heap.size + 1]? = some (.loop (R .done (some c))) ∧ W.heap[w.heap.size]? = some (.deferred (some []))) W1 (hb0.trans (hbw.mono hb0.size))
    (fun s A B h hb => ⟨hI s A B h.1 (hb.mono (by omega)), (same hb (by omega)).trans h.2.1, (same hb (by omega)).trans h.2.2⟩)
    (fun s A B h hb => by
      obtain ⟨c, h1, h2, h3⟩ := h
      exact ⟨c, hIx c s A B h1 (hb.mono (by omega)), (same hb (by omega)).trans h2, (same hb (by omega)).trans h3⟩)
    ?_ ⟨hI _ _ _ h0 hbw, hl1, hd1⟩).mono ?_
  · rintro pre x W ⟨hi, hl, hd⟩
    have hy := run_yield (P := P) (args := encs x) hl (by rw [hR]; exact hps x)
    rw [hR] at hy
    refine ⟨fn, _, assign, body, hy, roundIn_of_wpIn hfn (hassign _ pre x W _ hi fun a' W' hk' hkp' hi' hax => ?_)⟩
    have hl' := hk'.same _ _ (by omega) hl rfl
    have hd' := hk'.same _ _ (Nat.le_refl _) hd rfl
    refine ⟨_, run_beginRound hl' (by rw [hR]), ?_⟩
    have hlt' : w.heap.size + 1 < W'.heap.size := (Array.getElem?_eq_some_iff.1 hl').1
    obtain ⟨W2, hW2⟩ : ∃ W2, W2 = W'.putObj (w.heap.size + 1) (.loop { R .ready none with state := .busy }) := ⟨_, rfl⟩
    rw [← hW2]
    have hl2 : W2.heap[w.heap.size + 1]? = some (.loop { R .ready none with state := .busy }) := by rw [hW2]; exact World.putObj_heap_same hlt'
    have hd2 : W2.heap[w.heap.size]? = some (.deferred (some [])) := by rw [hW2]; exact (World.putObj_heap_other (by omega)).trans hd'
    have hk2 : Kp W W2 := by rw [hW2]; exact hKt _ _ _ hkp' (hKb _ _ _ _ (by omega) hl' rfl)
    have hi2 : I pre W2 := by rw [hW2]; exact hI _ _ _ hi' (below_put _ _ (by omega))
    have ha2 : Ax x a' W2 := by rw [hW2]; exact hAx _ _ _ _ _ _ (by omega) hl' rfl hax
    clear hW2
    refine wpIn_mono (hbody _ pre x a' W2 hi2 ha2) ?_
    have fin : ∀ (j : Option Code) (W3 : World), KeepsFrom w.heap.size W2 W3 →
        ∃ W4, W4 = W3.putObj (w.heap.size + 1) (.loop (R (if j.isNone then .ready else .done) j)) ∧ (Instr.endRound (w.heap.size + 1) j).run P W3 = .ok (.bool j.isNone) W4 ∧ W4.heap[w.heap.size + 1]? = some (.loop (R (if j.isNone then .ready else .done) j)) ∧
          W4.heap[w.heap.size]? = some (.deferred (some [])) ∧ Below w.heap.size W3 W4 ∧ (Kp W2 W3 → Kp W2 W4) := fun j W3 h => by
      have hl3 := h.same _ _ (by omega) hl2 rfl
      have hr := run_endRound (P := P) j hl3
      rw [hR] at hr
      refine ⟨_, rfl, ?_, World.putObj_heap_same (Array.getElem?_eq_some_iff.1 hl3).1, (World.putObj_heap_other (by omega)).trans (h.same _ _ (Nat.le_refl _) hd2 rfl), below_put _ _ (by omega), fun hk => hKt _ _ _ hk (hKb _ _ _ _ (by omega) hl3 rfl)⟩
      rw [hR]; exact hr
    rintro e a3 W3 hp
    cases e with
    | normal =>
      obtain ⟨hk3, hkp3, hi3⟩ := hp
      obtain ⟨W4, _, hr, hl4, hd4, hb4, hkp4⟩ := fin none W3 hk3
      exact ⟨_, _, hr, .inl ⟨rfl, ⟨hI _ _ _ hi3 hb4, hl4, hd4⟩, hKt _ _ _ hk2 (hkp4 hkp3)⟩⟩
    | ret =>
      obtain ⟨hk3, hi3⟩ := hp
      obtain ⟨W4, _, hr, hl4, hd4, hb4, _⟩ := fin (some .ret) W3 hk3
      exact ⟨_, _, hr, .inr ⟨rfl, .ret, hIx _ _ _ _ hi3 hb4, hl4, hd4⟩⟩
    | exit id =>
      obtain ⟨hk3, hi3⟩ := hp
      obtain ⟨W4, _, hr, hl4, hd4, hb4, _⟩ := fin (some (.exit id)) W3 hk3
      exact ⟨_, _, hr, .inr ⟨rfl, .exit id, hIx _ _ _ _ hi3 hb4, hl4, hd4⟩⟩
    | goto t => exact False.elim hp
    | panic ch => exact False.elim hp
    | outgrown => exact False.elim hp
  · rintro e W2 ⟨⟨v, rfl⟩, (⟨xs, hS, hi, hl, hd⟩ | ⟨pre, hSp, c, hi, hl, hd⟩)⟩
    · have he := run_endLoop (P := P) hl (by rw [hR]; simp)
      rw [hR] at he
      exact ⟨none, _, he, hdone _ xs _ (Nat.le_refl _) hS (hI _ _ _ hi (below_put _ _ (by omega))) ((World.putObj_heap_other (by omega)).trans hd)⟩
    · have he := run_endLoop (P := P) hl (by rw [hR]; simp)
      rw [hR] at he
      exact ⟨some c, _, he, hstop _ c pre _ (Nat.le_refl _) hSp (hIx _ _ _ _ hi (below_put _ _ (by omega))) ((World.putObj_heap_other (by omega)).trans hd)⟩
/-- What a round keeps: all blocks of cells but two. -/
def KpX (o p : Nat) (A B : World) : Prop := ∀ b vs t, b ≠ o → b ≠ p → Bk A b vs t → Bk B b vs t
theorem KpX.trans {o p : Nat} (A B C : World) (h : KpX o p A B) (k : KpX o p B C) : KpX o p A C := fun b vs t h1 h2 h3 => k b vs t h1 h2 (h b vs t h1 h2 h3)
theorem kf_below {B : Nat} {W W' : World} (h : Below W.heap.size W W') : KeepsFrom B W W' := ⟨h.size, fun k o _ hk _ => (h.block k (Array.getElem?_eq_some_iff.1 hk).1).trans hk⟩
theorem kpx_put {o p : Nat} (W : World) (l : Nat) (x x' : Obj) (h : W.heap[l]? = some x) (hc : x.isCells = false) : KpX o p W (W.putObj l x') := by
  intro b vs t _ _ hb
  have hne : b ≠ l := by
    intro e
    subst e
    rw [show W.heap[b]? = _ from hb] at h
    simp at h
    subst h
    simp [Obj.isCells] at hc
  exact (World.putObj_heap_other hne).trans hb
theorem bk_put {W : World} {b l : Nat} {vs : Array Value} {t : TypeId} {x x' : Obj} (hb : Bk W b vs t) (h : W.heap[l]? = some x) (hc : x.isCells = false) : Bk (W.putObj l x') b vs t :=
  kpx_put (o := b + 1) (p := b + 1) W l x x' h hc b vs t (by omega) (by omega) hb
end Go.Proofs.Ytjbhegakgdcldaa
end
section
set_option linter.unusedSimpArgs false
set_option linter.unusedVariables false
namespace Go.Proofs.Ytjbhegakgdcldaa
open Go.RowKit

/-! A range over a function that only makes memory between its yields, and tells of what it made: what such a sequence promises, and the loop over it. -/
def SeqA {α : Type} (F : Fence) (n : Nat) (P : Program) (g : Nat) (lb : Array Value) (encs : α → Array Value) (Kp : World → World → Prop) (Gd : Nat → List α → α → World → Prop) (S Sp : List α → Prop) (w : World) : Prop :=
  ∀ (l : Nat) (J Jx : List α → World → Prop) (W : World), Below w.heap.size w W → (∀ s A B, J s A → Below A.heap.size A B → J s B) → (∀ s A B, Jx s A → Below A.heap.size A B → Jx s B) →
    (∀ pre x A0 A, J pre A0 → Below A0.heap.size A0 A → Gd A0.heap.size pre x A → YieldAt F (n - 1) P l (encs x) A fun e B => (e = .returned (.bool true) ∧ J (pre ++ [x]) B ∧ Kp A B) ∨ (e = .returned (.bool false) ∧ Jx (pre ++ [x]) B)) →
    J [] W → CallsIn F n P g (#[.func (.yield l) #[] #[]] ++ lb) W fun e B => (∃ v, e = .returned v) ∧ ((∃ xs, S xs ∧ J xs B) ∨ (∃ pre, Sp pre ∧ Jx pre B))
set_option maxHeartbeats 400000 in
theorem wpIn_rangeA {α : Type} {F : Fence} {n : Nat} {P : Program} {g : Operand} {ps : Array Tmp} {assign body : Code} {Q : Exit → Act → World → Prop} {a : Act} {w : World}
    (hro : F.round = none) (h1 : 1 ≤ n) {gf : Nat} {lb : Array Value} (hg : a.eval g = .func (.func gf) #[] lb) (hFg : F.fn gf) (eg : ∀ args w, (callFunc gf args).run P w = .ok (.enter gf args) w)
    {encs : α → Array Value} {Kp : World → World → Prop} {Gd : Nat → List α → α → World → Prop} {S Sp : List α → Prop} {w0 : World} (hseq : SeqA F (n - 1) P gf lb encs Kp Gd S Sp w0)
    (hKt : ∀ A B C : World, Kp A B → Kp B C → Kp A C) (hKb : ∀ (W : World) (l : Nat) (o o' : Obj), w.heap.size ≤ l → W.heap[l]? = some o → o.isCells = false → Kp W (W.putObj l o')) (hb0 : Below w0.heap.size w0 w) (hps : ∀ x, (encs x).size = ps.size)
    (I : List α → World → Prop) (Ix : Code → List α → World → Prop) (hI : ∀ s A B, I s A → Below A.heap.size A B → I s B) (hIx : ∀ c s A B, Ix c s A → Below A.heap.size A B → Ix c s B)
    (hIp : ∀ s A l o o', w.heap.size ≤ l → A.heap[l]? = some o → o.isCells = false → I s A → I s (A.putObj l o')) (hIxp : ∀ c s A l o o', w.heap.size ≤ l → A.heap[l]? = some o → o.isCells = false → Ix c s A → Ix c s (A.putObj l o')) (h0 : I [] w)
    (Ax : α → Act → World → Prop) (hAx : ∀ x a' A l o o', w.heap.size ≤ l → A.heap[l]? = some o → o.isCells = false → Ax x a' A → Ax x a' (A.putObj l o'))
    (hassign : ∀ (l : Nat) (pre : List α) (x : α) (A0 W : World) (K : Act → World → Prop), I pre A0 → Below A0.heap.size A0 W → Gd A0.heap.size pre x W → I pre W → (∀ a' W', KeepsFrom w.heap.size W W' → Kp W W' → I pre W' → Ax x a' W' → K a' W') →
      assign.wpIn (F.inRound l) (n - 1 - 1) P (Exit.then K (fun _ _ _ => False)) { tmps := (ps.zip (encs x)).foldl (fun t (p, v) => t.setIfInBounds p v) a.tmps, defers := [] } W)
    (hbody : ∀ (l : Nat) (pre : List α) (x : α) (a' : Act) (W : World), I pre W → Ax x a' W → body.wpIn (F.inRound l) (n - 1 - 1) P (leftB w.heap.size Kp I Ix (pre ++ [x]) W) a' W)
    (hdone : ∀ (D : Nat) (xs : List α) (W : World), w.heap.size ≤ D → S xs → I xs W → W.heap[D]? = some (.deferred (some [])) → Q .normal { a with defers := { target := .collected D, args := #[] } :: a.defers } W)
    (hstop : ∀ (D : Nat) (c : Code) (pre : List α) (W : World), w.heap.size ≤ D → Sp pre → Ix c pre W → W.heap[D]? = some (.deferred (some [])) → c.wpIn F n P Q { a with defers := { target := .collected D, args := #[] } :: a.defers } W) :
    (Code.rangeFunc g ps assign body).wpIn F n P Q a w := by
  refine wpIn_rangeFunc fun fn hfn => ?_
  rw [hro]
  obtain ⟨R, hR⟩ : ∃ R : LoopState → Option Code → Loop, R = fun st pe => { state := st, pending := pe, fn, tmps := a.tmps, params := ps, assign, body, defers := w.heap.size } := ⟨_, rfl⟩
  obtain ⟨W1, hW1⟩ : ∃ W1, W1 = (w.alloc (.deferred (some []))).alloc (.loop (R .ready none)) := ⟨_, rfl⟩
  have hz : W1.heap.size = w.heap.size + 2 := by rw [hW1]; simp
  have hbw : Below w.heap.size w W1 := by rw [hW1]; exact ((Below.refl _ w).alloc (Nat.le_refl _) _).alloc (by simp) _
  have hl1 : W1.heap[w.heap.size + 1]? = some (.loop (R .ready none)) := by
    have := World.alloc_heap_new (w.alloc (.deferred (some []))) (.loop (R .ready none))
    rw [World.size_alloc] at this
    rw [hW1]; exact this
  have hd1 : W1.heap[w.heap.size]? = some (.deferred (some [])) := by
    rw [hW1]; exact (Below.heap_alloc _ _ _ (by simp)).trans (World.alloc_heap_new w _)
  refine ⟨w.heap.size + 1, [{ target := .collected w.heap.size, args := #[] }], W1, { target := .fn (.func gf) lb, args := #[.func (.yield (w.heap.size + 1)) #[] #[]] }, W1, gf, #[.func (.yield (w.heap.size + 1)) #[] #[]] ++ lb, W1, ?_, ?_, ?_, ?_, fun _ => h1, ?_⟩
  · rw [hW1, hR]; exact run_enterLoop_outer _ _ _ _ _
  · simp only [resolve, hg]; simp [go_sem]
  · intro f hf
    simp [Target.leads] at hf
    subst hf; exact hFg
  · simp [invoke, go_sem, eg]
  have same : ∀ {A B : World} {k : Nat} {o : Obj}, Below A.heap.size A B → A.heap[k]? = some o → B.heap[k]? = some o := fun h hk => (h.block _ (Array.getElem?_eq_some_iff.1 hk).1).trans hk
  refine (hseq (w.heap.size + 1) (fun pre W => I pre W ∧ W.heap[w.heap.size + 1]? = some (.loop (R .ready none)) ∧ W.heap[w.heap.size]? = some (.deferred (some [])))
    (fun pre W => ∃ c, Ix c pre W ∧ W.heap[w.heap.size + 1]? = some (.loop (R .done (some c))) ∧ W.heap[w.heap.size]? = some (.deferred (some []))) W1 (hb0.trans (hbw.mono hb0.size))
    (fun s A B h hb => ⟨hI s A B h.1 hb, same hb h.2.1, same hb h.2.2⟩)
    (fun s A B h hb => by
      obtain ⟨c, h1, h2, h3⟩ := h
      exact ⟨c, hIx c s A B h1 hb, same hb h2, same hb h3⟩)
    ?_ ⟨hI _ _ _ h0 hbw, hl1, hd1⟩).mono ?_
  · rintro pre x A0 W ⟨hi0, hl0, hd0⟩ hbA hGd
    have hi := hI _ _ _ hi0 hbA
    have hl := same hbA hl0
    have hd := same hbA hd0
    have hy := run_yield (P := P) (args := encs x) hl (by rw [hR]; exact hps x)
    rw [hR] at hy
    refine ⟨fn, _, assign, body, hy, roundIn_of_wpIn hfn (hassign _ pre x A0 W _ hi0 hbA hGd hi fun a' W' hk' hkp' hi' hax => ?_)⟩
    have hl' := hk'.same _ _ (by omega) hl rfl
    have hd' := hk'.same _ _ (Nat.le_refl _) hd rfl
    refine ⟨_, run_beginRound hl' (by rw [hR]), ?_⟩
    have hlt' : w.heap.size + 1 < W'.heap.size := (Array.getElem?_eq_some_iff.1 hl').1
    obtain ⟨W2, hW2⟩ : ∃ W2, W2 = W'.putObj (w.heap.size + 1) (.loop { R .ready none with state := .busy }) := ⟨_, rfl⟩
    rw [← hW2]
    have hl2 : W2.heap[w.heap.size + 1]? = some (.loop { R .ready none with state := .busy }) := by rw [hW2]; exact World.putObj_heap_same hlt'
    have hd2 : W2.heap[w.heap.size]? = some (.deferred (some [])) := by rw [hW2]; exact (World.putObj_heap_other (by omega)).trans hd'
    have hk2 : Kp W W2 := by rw [hW2]; exact hKt _ _ _ hkp' (hKb _ _ _ _ (by omega) hl' rfl)
    have hi2 : I pre W2 := by rw [hW2]; exact hIp _ _ _ _ _ (by omega) hl' rfl hi'
    have ha2 : Ax x a' W2 := by rw [hW2]; exact hAx _ _ _ _ _ _ (by omega) hl' rfl hax
    clear hW2
    refine wpIn_mono (hbody _ pre x a' W2 hi2 ha2) ?_
    have fin : ∀ (j : Option Code) (W3 : World), KeepsFrom w.heap.size W2 W3 →
        ∃ W4, W4 = W3.putObj (w.heap.size + 1) (.loop (R (if j.isNone then .ready else .done) j)) ∧ (Instr.endRound (w.heap.size + 1) j).run P W3 = .ok (.bool j.isNone) W4 ∧ W4.heap[w.heap.size + 1]? = some (.loop (R (if j.isNone then .ready else .done) j)) ∧
          W4.heap[w.heap.size]? = some (.deferred (some [])) ∧ ((∀ s, I s W3 → I s W4) ∧ (∀ c s, Ix c s W3 → Ix c s W4)) ∧ (Kp W2 W3 → Kp W2 W4) := fun j W3 h => by
      have hl3 := h.same _ _ (by omega) hl2 rfl
      have hr := run_endRound (P := P) j hl3
      rw [hR] at hr
      refine ⟨_, rfl, ?_, World.putObj_heap_same (Array.getElem?_eq_some_iff.1 hl3).1, (World.putObj_heap_other (by omega)).trans (h.same _ _ (Nat.le_refl _) hd2 rfl), ⟨fun s hs => hIp _ _ _ _ _ (by omega) hl3 rfl hs, fun c s hs => hIxp _ _ _ _ _ _ (by omega) hl3 rfl hs⟩, fun hk => hKt _ _ _ hk (hKb _ _ _ _ (by omega) hl3 rfl)⟩
      rw [hR]; exact hr
    rintro e a3 W3 hp
    cases e with
    | normal =>
      obtain ⟨hk3, hkp3, hi3⟩ := hp
      obtain ⟨W4, _, hr, hl4, hd4, hb4, hkp4⟩ := fin none W3 hk3
      exact ⟨_, _, hr, .inl ⟨rfl, ⟨hb4.1 _ hi3, hl4, hd4⟩, hKt _ _ _ hk2 (hkp4 hkp3)⟩⟩
    | ret =>
      obtain ⟨hk3, hi3⟩ := hp
      obtain ⟨W4, _, hr, hl4, hd4, hb4, _⟩ := fin (some .ret) W3 hk3
      exact ⟨_, _, hr, .inr ⟨rfl, .ret, hb4.2 _ _ hi3, hl4, hd4⟩⟩
    | exit id =>
      obtain ⟨hk3, hi3⟩ := hp
      obtain ⟨W4, _, hr, hl4, hd4, hb4, _⟩ := fin (some (.exit id)) W3 hk3
      exact ⟨_, _, hr, .inr ⟨rfl, .exit id, hb4.2 _ _ hi3, hl4, hd4⟩⟩
    | goto t => exact False.elim hp
    | panic ch => exact False.elim hp
    | outgrown => exact False.elim hp
  · rintro e W2 ⟨⟨v, rfl⟩, (⟨xs, hS, hi, hl, hd⟩ | ⟨pre, hSp, c, hi, hl, hd⟩)⟩
    · have he := run_endLoop (P := P) hl (by rw [hR]; simp)
      rw [hR] at he
      exact ⟨none, _, he, hdone _ xs _ (Nat.le_refl _) hS (hIp _ _ _ _ _ (by omega) hl rfl hi) ((World.putObj_heap_other (by omega)).trans hd)⟩
    · have he := run_endLoop (P := P) hl (by rw [hR]; simp)
      rw [hR] at he
      exact ⟨some c, _, he, hstop _ c pre _ (Nat.le_refl _) hSp (hIxp _ _ _ _ _ _ (by omega) hl rfl hi) ((World.putObj_heap_other (by omega)).trans hd)⟩
end Go.Proofs.Ytjbhegakgdcldaa
end
section
set_option linter.unusedSimpArgs false
set_option linter.unusedVariables false
namespace Go.Proofs.Ytjbhegakgdcldaa
open Go.RowKit

/-! A drawn region within a round goes as one outside: only a deferred call minds the round. -/
theorem anyIn_round {F : Fence} {n : Nat} {P : Program} {md : Region.Mode} {ops : Array Oper} {Q : Exit → Act → World → Prop} (l : Nat) (hd : ∀ (i : Nat) (o : Oper), ops[i]? = some o → ∀ c, o.op ≠ .defer c) :
    ∀ (fuel : Nat) (listed : Array Bool) (a : Act) (w : World), wpAnyIn F n P md ops Q fuel listed a w → wpAnyIn (F.inRound l) n P md ops Q fuel listed a w
  | 0, _, _, _, h => h
  | fuel + 1, listed, a, w, h => by
    refine ⟨h.1, fun i hi => ?_⟩
    have h1 := wpOpIn_mono (fun a w hk => anyIn_round l hd fuel (listed.setIfInBounds i true) a w hk) (h.2 i hi)
    unfold wpOpIn at h1 ⊢
    cases ho : ops[i]? with
    | none => simp only [ho] at h1 ⊢; exact h1
    | some o =>
      simp only [ho] at h1 ⊢
      split at h1
      · unfold Oper.wpIn at h1 ⊢
        rw [Oper.semAt_plain _ _ _ (hd i o ho)] at h1 ⊢
        rename_i hw
        simp only [hw, if_true]
        exact h1
      · rename_i hw
        simp only [hw]
        exact h1
/-- No deferred call among them. -/
def noDefer (ops : Array Oper) : Bool := ops.all fun o => match o.op with | .defer _ => false | _ => true
theorem noDefer_spec {ops : Array Oper} (h : noDefer ops = true) (i : Nat) (o : Oper) (ho : ops[i]? = some o) (c) : o.op ≠ .defer c := fun e => by
  have hm : o ∈ ops := Array.mem_of_getElem? ho
  have := (Array.all_eq_true'.1 h) o hm
  rw [e] at this
  exact absurd this (by simp)
end Go.Proofs.Ytjbhegakgdcldaa
end
section
set_option linter.unusedSimpArgs false
set_option linter.unusedVariables false
namespace Go.Proofs.Ytjbhegakgdcldaa
open Go.RowKit

/-! As RFA's loop; what is known of a round's values may speak of those ahead of them, too. -/
set_option maxHeartbeats 400000 in
theorem wpIn_rangeP {α : Type} {F : Fence} {n : Nat} {P : Program} {g : Operand} {ps : Array Tmp} {assign body : Code} {Q : Exit → Act → World → Prop} {a : Act} {w : World}
    (hro : F.round = none) (h1 : 1 ≤ n) {gf : Nat} {lb : Array Value} (hg : a.eval g = .func (.func gf) #[] lb) (hFg : F.fn gf) (eg : ∀ args w, (callFunc gf args).run P w = .ok (.enter gf args) w)
    {encs : α → Array Value} {Kp : World → World → Prop} {Gd : Nat → List α → α → World → Prop} {S Sp : List α → Prop} {w0 : World} (hseq : SeqA F (n - 1) P gf lb encs Kp Gd S Sp w0)
    (hKt : ∀ A B C : World, Kp A B → Kp B C → Kp A C) (hKb : ∀ (W : World) (l : Nat) (o o' : Obj), w.heap.size ≤ l → W.heap[l]? = some o → o.isCells = false → Kp W (W.putObj l o')) (hb0 : Below w0.heap.size w0 w) (hps : ∀ x, (encs x).size = ps.size)
    (I : List α → World → Prop) (Ix : Code → List α → World → Prop) (hI : ∀ s A B, I s A → Below A.heap.size A B → I s B) (hIx : ∀ c s A B, Ix c s A → Below A.heap.size A B → Ix c s B)
    (hIp : ∀ s A l o o', w.heap.size ≤ l → A.heap[l]? = some o → o.isCells = false → I s A → I s (A.putObj l o')) (hIxp : ∀ c s A l o o', w.heap.size ≤ l → A.heap[l]? = some o → o.isCells = false → Ix c s A → Ix c s (A.putObj l o')) (h0 : I [] w)
    (Ax : List α → α → Act → World → Prop) (hAx : ∀ pre x a' A l o o', w.heap.size ≤ l → A.heap[l]? = some o → o.isCells = false → Ax pre x a' A → Ax pre x a' (A.putObj l o'))
    (hassign : ∀ (l : Nat) (pre : List α) (x : α) (A0 W : World) (K : Act → World → Prop), I pre A0 → Below A0.heap.size A0 W → Gd A0.heap.size pre x W → I pre W → (∀ a' W', KeepsFrom w.heap.size W W' → Kp W W' → I pre W' → Ax pre x a' W' → K a' W') →
      assign.wpIn (F.inRound l) (n - 1 - 1) P (Exit.then K (fun _ _ _ => False)) { tmps := (ps.zip (encs x)).foldl (fun t (p, v) => t.setIfInBounds p v) a.tmps, defers := [] } W)
    (hbody : ∀ (l : Nat) (pre : List α) (x : α) (a' : Act) (W : World), I pre W → Ax pre x a' W → body.wpIn (F.inRound l) (n - 1 - 1) P (leftB w.heap.size Kp I Ix (pre ++ [x]) W) a' W)
    (hdone : ∀ (D : Nat) (xs : List α) (W : World), w.heap.size ≤ D → S xs → I xs W → W.heap[D]? = some (.deferred (some [])) → Q .normal { a with defers := { target := .collected D, args := #[] } :: a.defers } W)
    (hstop : ∀ (D : Nat) (c : Code) (pre : List α) (W : World), w.heap.size ≤ D → Sp pre → Ix c pre W → W.heap[D]? = some (.deferred (some [])) → c.wpIn F n P Q { a with defers := { target := .collected D, args := #[] } :: a.defers } W) :
    (Code.rangeFunc g ps assign body).wpIn F n P Q a w := by
  refine wpIn_rangeFunc fun fn hfn => ?_
  rw [hro]
  obtain ⟨R, hR⟩ : ∃ R : LoopState → Option Code → Loop, R = fun st pe => { state := st, pending := pe, fn, tmps := a.tmps, params := ps, assign, body, defers := w.heap.size } := ⟨_, rfl⟩
  obtain ⟨W1, hW1⟩ : ∃ W1, W1 = (w.alloc (.deferred (some []))).alloc (.loop (R .ready none)) := ⟨_, rfl⟩
  have hz : W1.heap.size = w.heap.size + 2 := by rw [hW1]; simp
  have hbw : Below w.heap.size w W1 := by rw [hW1]; exact ((Below.refl _ w).alloc (Nat.le_refl _) _).alloc (by simp) _
  have hl1 : W1.heap[w.heap.size + 1]? = some (.loop (R .ready none)) := by
    have := World.alloc_heap_new (w.alloc (.deferred (some []))) (.loop (R .ready none))
    rw [World.size_alloc] at this
    rw [hW1]; exact this
  have hd1 : W1.heap[w.heap.size]? = some (.deferred (some [])) := by
    rw [hW1]; exact (Below.heap_alloc _ _ _ (by simp)).trans (World.alloc_heap_new w _)
  refine ⟨w.heap.size + 1, [{ target := .collected w.heap.size, args := #[] }], W1, { target := .fn (.func gf) lb, args := #[.func (.yield (w.heap.size + 1)) #[] #[]] }, W1, gf, #[.func (.yield (w.heap.size + 1)) #[] #[]] ++ lb, W1, ?_, ?_, ?_, ?_, fun _ => h1, ?_⟩
  · rw [hW1, hR]; exact run_enterLoop_outer _ _ _ _ _
  · simp only [resolve, hg]; simp [go_sem]
  · intro f hf
    simp [Target.leads] at hf
    subst hf; exact hFg
  · simp [invoke, go_sem, eg]
  have same : ∀ {A B : World} {k : Nat} {o : Obj}, Below A.heap.size A B → A.heap[k]? = some o → B.heap[k]? = some o := fun h hk => (h.block _ (Array.getElem?_eq_some_iff.1 hk).1).trans hk
  refine (hseq (w.heap.size + 1) (fun pre W => I pre W ∧ W.heap[w.heap.size + 1]? = some (.loop (R .ready none)) ∧ W.heap[w.heap.size]? = some (.deferred (some [])))
    (fun pre W => ∃ c, Ix c pre W ∧ W.heap[w.heap.size + 1]? = some (.loop (R .done (some c))) ∧ W.heap[w.heap.size]? = some (.deferred (some []))) W1 (hb0.trans (hbw.mono hb0.size))
    (fun s A B h hb => ⟨hI s A B h.1 hb, same hb h.2.1, same hb h.2.2⟩)
    (fun s A B h hb => by
      obtain ⟨c, h1, h2, h3⟩ := h
      exact ⟨c, hIx c s A B h1 hb, same hb h2, same hb h3⟩)
    ?_ ⟨hI _ _ _ h0 hbw, hl1, hd1⟩).mono ?_
  · rintro pre x A0 W ⟨hi0, hl0, hd0⟩ hbA hGd
    have hi := hI _ _ _ hi0 hbA
    have hl := same hbA hl0
    have hd := same hbA hd0
    have hy := run_yield (P := P) (args := encs x) hl (by rw [hR]; exact hps x)
    rw [hR] at hy
    refine ⟨fn, _, assign, body, hy, roundIn_of_wpIn hfn (hassign _ pre x A0 W _ hi0 hbA hGd hi fun a' W' hk' hkp' hi' hax => ?_)⟩
    have hl' := hk'.same _ _ (by omega) hl rfl
    have hd' := hk'.same _ _ (Nat.le_refl _) hd rfl
    refine ⟨_, run_beginRound hl' (by rw [hR]), ?_⟩
    have hlt' : w.heap.size + 1 < W'.heap.size := (Array.getElem?_eq_some_iff.1 hl').1
    obtain ⟨W2, hW2⟩ : ∃ W2, W2 = W'.putObj (w.heap.size + 1) (.loop { R .ready none with state := .busy }) := ⟨_, rfl⟩
    rw [← hW2]
    have hl2 : W2.heap[w.heap.size + 1]? = some (.loop { R .ready none with state := .busy }) := by rw [hW2]; exact World.putObj_heap_same hlt'
    have hd2 : W2.heap[w.heap.size]? = some (.deferred (some [])) := by rw [hW2]; exact (World.putObj_heap_other (by omega)).trans hd'
    have hk2 : Kp W W2 := by rw [hW2]; exact hKt _ _ _ hkp' (hKb _ _ _ _ (by omega) hl' rfl)
    have hi2 : I pre W2 := by rw [hW2]; exact hIp _ _ _ _ _ (by omega) hl' rfl hi'
    have ha2 : Ax pre x a' W2 := by rw [hW2]; exact hAx _ _ _ _ _ _ _ (by omega) hl' rfl hax
    clear hW2
    refine wpIn_mono (hbody _ pre x a' W2 hi2 ha2) ?_
    have fin : ∀ (j : Option Code) (W3 : World), KeepsFrom w.heap.size W2 W3 →
        ∃ W4, W4 = W3.putObj (w.heap.size + 1) (.loop (R (if j.isNone then .ready else .done) j)) ∧ (Instr.endRound (w.heap.size + 1) j).run P W3 = .ok (.bool j.isNone) W4 ∧ W4.heap[w.heap.size + 1]? = some (.loop (R (if j.isNone then .ready else .done) j)) ∧
          W4.heap[w.heap.size]? = some (.deferred (some [])) ∧ ((∀ s, I s W3 → I s W4) ∧ (∀ c s, Ix c s W3 → Ix c s W4)) ∧ (Kp W2 W3 → Kp W2 W4) := fun j W3 h => by
      have hl3 := h.same _ _ (by omega) hl2 rfl
      have hr := run_endRound (P := P) j hl3
      rw [hR] at hr
      refine ⟨_, rfl, ?_, World.putObj_heap_same (Array.getElem?_eq_some_iff.1 hl3).1, (World.putObj_heap_other (by omega)).trans (h.same _ _ (Nat.le_refl _) hd2 rfl), ⟨fun s hs => hIp _ _ _ _ _ (by omega) hl3 rfl hs, fun c s hs => hIxp _ _ _ _ _ _ (by omega) hl3 rfl hs⟩, fun hk => hKt _ _ _ hk (hKb _ _ _ _ (by omega) hl3 rfl)⟩
      rw [hR]; exact hr
    rintro e a3 W3 hp
    cases e with
    | normal =>
      obtain ⟨hk3, hkp3, hi3⟩ := hp
      obtain ⟨W4, _, hr, hl4, hd4, hb4, hkp4⟩ := fin none W3 hk3
      exact ⟨_, _, hr, .inl ⟨rfl, ⟨hb4.1 _ hi3, hl4, hd4⟩, hKt _ _ _ hk2 (hkp4 hkp3)⟩⟩
    | ret =>
      obtain ⟨hk3, hi3⟩ := hp
      obtain ⟨W4, _, hr, hl4, hd4, hb4, _⟩ := fin (some .ret) W3 hk3
      exact ⟨_, _, hr, .inr ⟨rfl, .ret, hb4.2 _ _ hi3, hl4, hd4⟩⟩
    | exit id =>
      obtain ⟨hk3, hi3⟩ := hp
      obtain ⟨W4, _, hr, hl4, hd4, hb4, _⟩ := fin (some (.exit id)) W3 hk3
      exact ⟨_, _, hr, .inr ⟨rfl, .exit id, hb4.2 _ _ hi3, hl4, hd4⟩⟩
    | goto t => exact False.elim hp
    | panic ch => exact False.elim hp
    | outgrown => exact False.elim hp
  · rintro e W2 ⟨⟨v, rfl⟩, (⟨xs, hS, hi, hl, hd⟩ | ⟨pre, hSp, c, hi, hl, hd⟩)⟩
    · have he := run_endLoop (P := P) hl (by rw [hR]; simp)
      rw [hR] at he
      exact ⟨none, _, he, hdone _ xs _ (Nat.le_refl _) hS (hIp _ _ _ _ _ (by omega) hl rfl hi) ((World.putObj_heap_other (by omega)).trans hd)⟩
    · have he := run_endLoop (P := P) hl (by rw [hR]; simp)
      rw [hR] at he
      exact ⟨some c, _, he, hstop _ c pre _ (Nat.le_refl _) hSp (hIxp _ _ _ _ _ _ (by omega) hl rfl hi) ((World.putObj_heap_other (by omega)).trans hd)⟩
end Go.Proofs.Ytjbhegakgdcldaa
end
section
set_option linter.unusedSimpArgs false
set_option linter.unusedVariables false
namespace Go.Proofs.Ytjbhegakgdcldaa
open Go.RowKit Go.Shelf
attribute [local go_sem] Oper.semAt_some

/-! pieces, as a sequence. -/
def pcn (a len k : Nat) : Nat := min (len - k) (64 - (a + k) % 64)
theorem pcn_pos {a len k : Nat} (h : k < len) : 0 < pcn a len k := by unfold pcn; omega
theorem pcn_le {a len k : Nat} (h : k < len) : k + pcn a len k ≤ len := by unfold pcn; omega
def pcs (a len k : Nat) : List (Nat × Nat) := if h : k < len then (k, pcn a len k) :: pcs a len (k + pcn a len k) else []
termination_by len - k
decreasing_by have := pcn_pos (a := a) h; omega
theorem pcs_cons {a len k : Nat} (h : k < len) : pcs a len k = (k, pcn a len k) :: pcs a len (k + pcn a len k) := by rw [pcs, dif_pos h]
theorem pcs_nil {a len k : Nat} (h : ¬ k < len) : pcs a len k = [] := by rw [pcs, dif_neg h]
theorem cell_lt9 {w : World} {a : Addr} {v : Value} (h : w.cell? a = some v) : a.block < w.heap.size := World.block_lt_of_cell? w a h
/-- What a round keeps: cells that nobody owned at the loop's beginning. -/
def KpT (N : Nat) (O : Nat → Nat) (A B : World) : Prop := ∀ p v, p.block < N → O p.block = 0 → A.cell? p = some v → B.cell? p = some v
theorem KpT.trans {N : Nat} {O : Nat → Nat} (A B C : World) (h : KpT N O A B) (k : KpT N O B C) : KpT N O A C := fun p v h1 h2 h3 => k p v h1 h2 (h p v h1 h2 h3)
theorem kpt_put {N : Nat} {O : Nat → Nat} (W : World) (l : Nat) (x x' : Obj) (h : W.heap[l]? = some x) (hc : x.isCells = false) : KpT N O W (W.putObj l x') := by
  intro p v _ _ hp
  by_cases e : p.block = l
  · subst e
    unfold World.cell? at hp
    rw [h] at hp
    cases x <;> simp_all [Obj.isCells]
  · rw [World.cell?_of_block (w := W) (World.putObj_heap_other e)]
    exact hp
theorem KpT.of_below {N : Nat} {O : Nat → Nat} {A B : World} (h : Below A.heap.size A B) : KpT N O A B := fun p v _ _ hp => (h.cell (cell_lt9 hp)).trans hp
theorem KpT.of_fp {N : Nat} {O OA OB : Nat → Nat} {A B : World} (h : Fp OA A OB B) (hO : ∀ b, b < N → O b = 0 → OA b = 0) : KpT N O A B := fun p v h1 h2 hp => h.cell hp (hO _ h1 h2)
def pcenc (ad : Option Addr) (a cap : Nat) (x : Nat × Nat) : Array Value := #[.int .i64 ((a : Int) + (x.1 : Int)), .slice (Option.map (fun y => y.add x.1) ad) x.2 (cap - x.1)]
set_option maxRecDepth 100000 in
set_option maxHeartbeats 4000000 in
theorem pieces_seq (m : Nat) (a len cap Bb Ba N : Nat) (O : Nat → Nat) (ad : Option Addr) (hm : 1 ≤ m) (hn : a + len ≤ 1099511627776) (hcap : len ≤ cap) (w : World)
    (cB : w.cell? ⟨Bb, 0, none⟩ = some (.slice ad len cap)) (cA : w.cell? ⟨Ba, 0, none⟩ = some (.int .i64 (a : Int))) (nB : Bb < N) (nA : Ba < N) (oB : O Bb = 0) (oA : O Ba = 0) :
    SeqA Fence.wide m Try.prog 99 #[.pointer (some ⟨Bb, 0, none⟩), .pointer (some ⟨Ba, 0, none⟩)] (pcenc ad a cap) (KpT N O) (fun _ pre x _ => 0 < x.2 ∧ x.1 + x.2 ≤ len ∧ pre.length ≤ x.1) (fun xs => xs = pcs a len 0) (fun _ => True) w := by
  intro l J Jx W hbW hJ hJx hY h0
  have cB := (hbW.cell (cell_lt9 cB)).trans cB
  have cA := (hbW.cell (cell_lt9 cA)).trans cA
  have HY : Hid (∀ pre x A, (0 < x.2 ∧ x.1 + x.2 ≤ len ∧ pre.length ≤ x.1) → J pre A → YieldAt Fence.wide (m - 1) Try.prog l (pcenc ad a cap x) A fun e B => (e = .returned (.bool true) ∧ J (pre ++ [x]) B ∧ KpT N O A B) ∨ (e = .returned (.bool false) ∧ Jx (pre ++ [x]) B)) := fun pre x A hg hA => hY pre x A A hA (Below.refl _ _) hg
  have HN : Hid ((Bb < N ∧ O Bb = 0) ∧ Ba < N ∧ O Ba = 0) := ⟨⟨nB, oB⟩, nA, oA⟩
  clear hY hJ hJx hbW nB nA oB oA
  show CallsIn Fence.wide m Try.prog 99 #[.func (.yield l) #[] #[], .pointer (some ⟨Bb, 0, none⟩), .pointer (some ⟨Ba, 0, none⟩)] W _
  refine callsIn_of_wp Try.func99 rfl trivial ?_ rfl
  simp only [Try.ntmps99, List.size_toArray, List.length_cons, List.length_nil, Nat.reduceAdd, Nat.reduceSub, Array.replicate_succ, Array.replicate_zero, List.push_toArray, List.append_toArray, List.nil_append, List.cons_append]
  gi_wp2
  gi_loopw [4] (fun i wr => ∃ (k : Nat) (pre : List (Nat × Nat)), k ≤ len ∧ pre.length ≤ k ∧ i = .int .i64 (k : Int) ∧ pre ++ pcs a len k = pcs a len 0 ∧ wr.cell? ⟨Bb, 0, none⟩ = some (.slice ad len cap) ∧ wr.cell? ⟨Ba, 0, none⟩ = some (.int .i64 (a : Int)) ∧ J pre wr) (fun i _ => len - (intOf i).toNat)
  case atStart => exact ⟨0, [], Nat.zero_le _, Nat.le_refl _, rfl, rfl, cB, cA, h0⟩
  case round =>
    clear cB cA h0
    obtain ⟨k, pre, hk, hpl, rfl, hpre, cB, cA, hJk⟩ := hrel
    have HPre : Hid (pre ++ pcs a len k = pcs a len 0) := hpre
    clear hpre
    by_cases hlt : k < len
    · have hlt' : (k : Int) < (len : Int) := by omega
      have e1 : IntKind.i64.wrap ((a : Int) + (k : Int)) = (a : Int) + (k : Int) := IntWalk.i64_in _ (by omega)
      obtain ⟨n, hnE⟩ : ∃ n : Nat, n = pcn a len k := ⟨_, rfl⟩
      have HNE : Hid (pre ++ [(k, n)] ++ pcs a len (k + n) = pcs a len 0 ∧ 0 < n ∧ k + n ≤ len) := by
        have h1 := pcn_pos (a := a) hlt
        have h2 := pcn_le (a := a) hlt
        rw [← hnE] at h1 h2
        refine ⟨?_, h1, h2⟩
        have h3 := HPre.out
        rw [pcs_cons hlt, ← hnE] at h3
        rw [← h3]
        simp
      have HC : Hid (wr.cell? ⟨Bb, 0, none⟩ = some (.slice ad len cap) ∧ wr.cell? ⟨Ba, 0, none⟩ = some (.int .i64 (a : Int))) := ⟨cB, cA⟩
      obtain ⟨fn, tmps, assign, body, hy, hR⟩ := HY.out _ (k, n) wr ⟨HNE.out.2.1, HNE.out.2.2, hpl⟩ hJk
      simp only [pcenc] at hy
      have e3 : ((k : Int) + (n : Int)).toNat - k = n := by omega
      have e4 : IntKind.i64.wrap ((k : Int) + (n : Int)) = (k : Int) + (n : Int) := IntWalk.i64_in _ (by have := HNE.out.2.2; omega)
      have g1 : k + n ≤ len := HNE.out.2.2
      have g2 : ¬ cap = k := by omega
      unfold pcn at hnE
      by_cases hmin : len - k ≤ 64 - (a + k) % 64
      · have hn1 : n = len - k := by omega
        have e2 : IntKind.i64.wrap ((len : Int) - (k : Int)) = (n : Int) := by rw [IntWalk.i64_in _ (by omega)]; omega
        have e5 : (n : Int) ≤ 64 - ((a : Int) + (k : Int)) % 64 := by omega
        have e6 : min (n : Int) (64 - ((a : Int) + (k : Int)) % 64) = (n : Int) := by omega
        clear hnE hn1 hmin HPre
        gi_wp2
        refine hR.mono ?_
        rintro e W3 (⟨rfl, hJ3, hk3⟩ | ⟨rfl, hJx3⟩)
        · gi_wp2
          go_roundw
          case rel => exact ⟨k + n, pre ++ [(k, n)], HNE.out.2.2, by have := HNE.out.2.1; simp; omega, by go_num, HNE.out.1, hk3 _ _ HN.out.1.1 HN.out.1.2 HC.out.1, hk3 _ _ HN.out.2.1 HN.out.2.2 HC.out.2, hJ3⟩
          case measure => have := HNE.out.2.1; simp [intOf]; omega
        · gi_wp2
          refine bodyPost_ret (results_none rfl _ _ _) rfl ?_
          exact ⟨⟨_, rfl⟩, .inr ⟨_, trivial, hJx3⟩⟩
      · have hn1 : n = 64 - (a + k) % 64 := by omega
        have e2 : IntKind.i64.wrap ((len : Int) - (k : Int)) = ((len - k : Nat) : Int) := by rw [IntWalk.i64_in _ (by omega)]; omega
        have e5 : 64 - ((a : Int) + (k : Int)) % 64 = (n : Int) := by omega
        have e6 : n < len - k := by omega
        have e7 : ¬ ((len - k : Nat) : Int) ≤ (n : Int) := by omega
        clear hnE hn1 hmin HPre
        gi_wp2
        refine hR.mono ?_
        rintro e W3 (⟨rfl, hJ3, hk3⟩ | ⟨rfl, hJx3⟩)
        · gi_wp2
          go_roundw
          case rel => exact ⟨k + n, pre ++ [(k, n)], HNE.out.2.2, by have := HNE.out.2.1; simp; omega, by go_num, HNE.out.1, hk3 _ _ HN.out.1.1 HN.out.1.2 HC.out.1, hk3 _ _ HN.out.2.1 HN.out.2.2 HC.out.2, hJ3⟩
          case measure => have := HNE.out.2.1; simp [intOf]; omega
        · gi_wp2
          refine bodyPost_ret (results_none rfl _ _ _) rfl ?_
          exact ⟨⟨_, rfl⟩, .inr ⟨_, trivial, hJx3⟩⟩
    · have hlt' : ¬ (k : Int) < (len : Int) := by omega
      obtain rfl : k = len := by omega
      gi_wp2
      go_end0
      have hp := HPre.out
      rw [pcs_nil (by omega), List.append_nil] at hp
      exact ⟨⟨_, rfl⟩, .inl (by first | exact ⟨_, hp, hJk⟩ | exact hp ▸ hJk)⟩
end Go.Proofs.Ytjbhegakgdcldaa
end
section
set_option linter.unusedSimpArgs false
set_option linter.unusedVariables false
namespace Go.Proofs.Ytjbhegakgdcldaa
open Go.RowKit Go.Shelf
attribute [local go_sem] Oper.semAt_some

/-! Write. -/
def pch (a : Nat) (bs : List UInt8) (x : Nat × Nat) : Ch := ⟨false, a + x.1, (bs.drop x.1).take x.2⟩
def wrL (D : Ds) (i a : Nat) (bs : List UInt8) (xs : List (Nat × Nat)) : Ds := xs.foldl (fun D x => chg D i (pch a bs x)) D
theorem wrL_snoc (D : Ds) (i a : Nat) (bs : List UInt8) (xs : List (Nat × Nat)) (x : Nat × Nat) : wrL D i a bs (xs ++ [x]) = chg (wrL D i a bs xs) i (pch a bs x) := by simp [wrL]
def wrE (D : Ds) (f at_ : Int) (bl : Nat) : Int := if cntE D f ≠ 0 then cntE D f else if at_ < 0 ∨ ((D.now f.toNat).length : Int) < at_ then 1 else if 131072 - at_ < (bl : Int) then 5 else 0
def wrD (D : Ds) (f at_ : Int) (bs : List UInt8) : Ds := if wrE D f at_ bs.length = 0 then wrL (cnt D) f.toNat at_.toNat bs (pcs at_.toNat bs.length 0) else cnt D
set_option maxRecDepth 100000 in
set_option maxHeartbeats 4000000 in
theorem write_no (w : World) (O : Nat → Nat) (d : Nat) (D : Ds) (nv sv cv : Nat → Value) (f at_ : Int) (ad : Option Addr) (bl bc : Nat) (h : DK w O d D nv sv cv) (hl : ∀ i, i < 8 → (D.now i).length ≤ 131072) (hbl : bl ≤ 9223372036854775807) (hw : wrE D f at_ bl ≠ 0) :
    Calls Try.prog 93 #[.pointer (some ⟨d, 0, none⟩), .int .i64 f, .int .i64 at_, .slice ad bl bc] w fun e w' => e = .returned (.int .i64 (wrE D f at_ bl)) ∧ ∃ O' nv' sv' cv', DK w' O' d (cnt D) nv' sv' cv' ∧ Fp O w O' w' := by
  have HF := findC w O d D nv sv cv f h
  have HD : Hid (DK w O d D nv sv cv) := h
  have HEnd : Hid (∀ W pv, Turn w W d (dkc nv sv cv (cnt D).off (cnt D).tO (cnt D).tF) 107 → ∃ O' nv' sv' cv', DK (W.alloc (.cells #[pv] 96)) O' d (cnt D) nv' sv' cv' ∧ Fp O w O' (W.alloc (.cells #[pv] 96))) := fun W pv hW => by
    obtain ⟨r1, r2⟩ := HD.out.counted hW
    have hb : Below W.heap.size W (W.alloc (.cells #[pv] 96)) := (Below.refl _ W).alloc (Nat.le_refl _) _
    exact ⟨O, nv, sv, cv, r1.below hb, r2.trans (Fp.of_below O hb)⟩
  by_cases h0 : cntE D f = 0
  · obtain ⟨ho, i, rfl, hi, hp⟩ := cnt_ok (d := d) h0
    rw [hp, h0] at HF
    have eE : wrE D (i : Int) at_ bl = if at_ < 0 ∨ ((D.now i).length : Int) < at_ then 1 else if 131072 - at_ < (bl : Int) then 5 else 0 := by unfold wrE; rw [if_neg (by rw [h0]; simp), Int.toNat_natCast]
    have hli := hl i hi
    have HF : Hid _ := HF
    obtain ⟨an, cap, env, hle⟩ := (h.now i hi).shape
    have HC0 : Hid (∀ W, Turn w W d (dkc nv sv cv (cnt D).off (cnt D).tO (cnt D).tF) 107 → W.cell? ⟨d, i * 3, none⟩ = some (.slice an (D.now i).length cap) ∧ d < W.heap.size) := fun W hW => ⟨by rw [← env]; exact (hW.blk.cell _).trans (dkc_now _ _ _ _ _ _ hi), hW.blk.lt⟩
    rw [eE] at hw ⊢
    clear eE h env hp h0 ho hl
    generalize (D.now i).length = ln at *
    by_cases hc : at_ < 0 ∨ (ln : Int) < at_
    · rw [if_pos hc]
      by_cases hx : at_ < 0
      all_goals
        go_enter Try.func93, Try.ntmps93
        go_wp2_with (go_at_call 91; refine Calls.mono HF.out ?_; rintro e w8 ⟨rfl, ht8⟩; obtain ⟨c8, l8⟩ := HC0.out _ ht8; have n8 : d ≠ w8.heap.size := (by omega); have H8 : Hid (Turn w w8 d (dkc nv sv cv (cnt D).off (cnt D).tO (cnt D).tF) 107) := ht8; clear ht8)
        go_ret
        exact ⟨rfl, HEnd.out _ _ H8.out⟩
    · rw [if_neg hc] at hw ⊢
      by_cases hf : 131072 - at_ < (bl : Int)
      · rw [if_pos hf]
        have hx : ¬ at_ < 0 := by omega
        have hy : ¬ (ln : Int) < at_ := by omega
        have hdif : IntKind.i64.wrap (131072 - at_) = 131072 - at_ := IntWalk.i64_in _ (by omega)
        clear hw
        go_enter Try.func93, Try.ntmps93
        go_wp2_with (go_at_call 91; refine Calls.mono HF.out ?_; rintro e w8 ⟨rfl, ht8⟩; obtain ⟨c8, l8⟩ := HC0.out _ ht8; have n8 : d ≠ w8.heap.size := (by omega); have H8 : Hid (Turn w w8 d (dkc nv sv cv (cnt D).off (cnt D).tO (cnt D).tF) 107) := ht8; clear ht8)
        go_ret
        exact ⟨rfl, HEnd.out _ _ H8.out⟩
      · rw [if_neg hf] at hw
        exact absurd rfl hw
  · have e : wrE D f at_ bl = cntE D f := if_pos h0
    rw [e]
    rw [cnt_no h0] at HF
    have HF : Hid _ := HF
    have hne : (cntE D f != 0) = true := by rw [bne_iff_ne]; exact h0
    clear h e h0 hl hw
    generalize cntE D f = ev at *
    go_enter Try.func93, Try.ntmps93
    go_wp2_with (go_at_call 91; refine Calls.mono HF.out ?_; rintro e w8 ⟨rfl, ht8⟩; have H8 : Hid (Turn w w8 d (dkc nv sv cv (cnt D).off (cnt D).tO (cnt D).tF) 107) := ht8; clear ht8)
    go_ret
    exact ⟨rfl, HEnd.out _ _ H8.out⟩
/-- A piece of the write under way. -/
structure WrI (w1 : World) (O1 : Nat → Nat) (d : Nat) (D : Ds) (i a : Nat) (bs : List UInt8) (pre : List (Nat × Nat)) (W : World) : Prop where
  ex : ∃ O nv sv cv, DK W O d (wrL D i a bs pre) nv sv cv ∧ Fp O1 w1 O W
  mem : ∀ x ∈ pre, x.1 + x.2 ≤ bs.length
theorem WrI.below {w1 : World} {O1 : Nat → Nat} {d : Nat} {D : Ds} {i a : Nat} {bs : List UInt8} {pre : List (Nat × Nat)} {A B : World} (h : WrI w1 O1 d D i a bs pre A) (hb : Below A.heap.size A B) : WrI w1 O1 d D i a bs pre B := by
  obtain ⟨O, nv, sv, cv, h1, h2⟩ := h.ex
  exact ⟨⟨O, nv, sv, cv, h1.below hb, h2.trans (Fp.of_below O hb)⟩, h.mem⟩
theorem DK.put {w : World} {O : Nat → Nat} {d : Nat} {D : Ds} {nv sv cv : Nat → Value} (h : DK w O d D nv sv cv) {l : Nat} {o o' : Obj} (hl : w.heap[l]? = some o) (ho : o.isCells = false) : DK (w.putObj l o') O d D nv sv cv :=
  h.frame (by simp [World.putObj]) fun b hb => World.putObj_heap_other (fun e => by
    obtain ⟨x, e1, e2⟩ := h.cel b hb
    rw [e, hl] at e1
    simp at e1
    subst e1
    rw [ho] at e2
    cases e2)
theorem WrI.put {w1 : World} {O1 : Nat → Nat} {d : Nat} {D : Ds} {i a : Nat} {bs : List UInt8} {pre : List (Nat × Nat)} {A : World} {l : Nat} {o o' : Obj} (h : WrI w1 O1 d D i a bs pre A) (hl1 : w1.heap.size ≤ l) (hl : A.heap[l]? = some o) (ho : o.isCells = false) : WrI w1 O1 d D i a bs pre (A.putObj l o') := by
  obtain ⟨O, nv, sv, cv, h1, h2⟩ := h.ex
  refine ⟨⟨O, nv, sv, cv, h1.put hl ho, ⟨h2.os, h2.tape, h2.output, by simp [World.putObj]; exact h2.size, h2.old, fun b hb hO => (World.putObj_heap_other (by omega)).trans (h2.keep b hb hO), fun k o2 hk hc => ?_⟩⟩, h.mem⟩
  have hk1 : k < w1.heap.size := (Array.getElem?_eq_some_iff.1 hk).1
  exact (World.putObj_heap_other (by omega)).trans (h2.kf k o2 hk hc)
theorem wr_now {D : Ds} {i a : Nat} {bs : List UInt8} (hn : (D.now i).length ≤ 131072) (hb : a + bs.length ≤ 131072) (xs : List (Nat × Nat)) (hx : ∀ x ∈ xs, x.1 + x.2 ≤ bs.length) : ((wrL D i a bs xs).now i).length ≤ 131072 := by
  induction xs generalizing D with
  | nil => exact hn
  | cons x xs ih =>
    refine ih (D := chg D i (pch a bs x)) ?_ (fun y hy => hx y (List.mem_cons_of_mem _ hy))
    show (upd D.now i (ovr (pch a bs x) (D.now i)) i).length ≤ _
    rw [upd_same]
    refine Nat.le_trans (ovr_le _ _) ?_
    have := hx x List.mem_cons_self
    simp [pch]
    omega
theorem wr_chs {D : Ds} {i a : Nat} {bs : List UInt8} (xs : List (Nat × Nat)) : ((wrL D i a bs xs).chs i).length = (D.chs i).length + xs.length := by
  induction xs generalizing D with
  | nil => rfl
  | cons x xs ih =>
    show ((wrL (chg D i (pch a bs x)) i a bs xs).chs i).length = _
    rw [ih]
    show (upd D.chs i (D.chs i ++ [pch a bs x]) i).length + _ = _
    rw [upd_same]
    simp
    omega
theorem pcs_len (a len : Nat) : ∀ (n k : Nat), len - k ≤ n → (pcs a len k).length ≤ n
  | 0, k, h => by rw [pcs_nil (by omega)]; simp
  | n + 1, k, h => by
    by_cases hk : k < len
    · rw [pcs_cons hk]
      have := pcn_pos (a := a) hk
      have := pcs_len a len n (k + pcn a len k) (by omega)
      simp
      omega
    · rw [pcs_nil hk]; simp
theorem pcs_mem {a len : Nat} : ∀ (n k : Nat), len - k ≤ n → ∀ x ∈ pcs a len k, 0 < x.2 ∧ x.1 + x.2 ≤ len
  | 0, k, h, x, hx => by rw [pcs_nil (by omega)] at hx; cases hx
  | n + 1, k, h, x, hx => by
    by_cases hk : k < len
    · rw [pcs_cons hk] at hx
      have h1 := pcn_pos (a := a) hk
      have h2 := pcn_le (a := a) hk
      rcases List.mem_cons.1 hx with rfl | hx
      · exact ⟨h1, h2⟩
      · exact pcs_mem n (k + pcn a len k) (by omega) x hx
    · rw [pcs_nil hk] at hx; cases hx
/-- A piece is handed on, with a copy of its bytes. -/
theorem wr_step {w1 A B : World} {O1 : Nat → Nat} {d i a : Nat} {D : Ds} {bs : List UInt8} {pre : List (Nat × Nat)} {x : Nat × Nat} {v : Value} (hi : i < 8) (h : WrI w1 O1 d D i a bs pre A) (hb : Below A.heap.size A B) (hv : Ow B A.heap.size v ((bs.drop x.1).take x.2)) (hx : 0 < x.2 ∧ x.1 + x.2 ≤ bs.length) (hab : a + bs.length ≤ 131072)
    (h1 : (D.now i).length ≤ 131072) (h2 : ((wrL D i a bs pre).chs i).length ≤ 1099511627776) :
    Calls Try.prog 97 #[.pointer (some ⟨d, i * 3, none⟩), .agg (chc (pch a bs x) v)] B fun e W => (∃ v, e = .returned v) ∧ WrI w1 O1 d D i a bs (pre ++ [x]) W ∧ ∃ OA OB, (∀ b, b < A.heap.size → O1 b = 0 → b < w1.heap.size → OA b = 0) ∧ Fp OA A OB W := by
  obtain ⟨O, nv, sv, cv, g1, g2⟩ := h.ex
  obtain ⟨ad, n, cap, rfl⟩ := ownsRow_sl hv
  obtain ⟨O', hO'⟩ : ∃ O' : Nat → Nat, O' = fun b => if (Value.slice ad n cap).ownBlock = some b then 25 else O b := ⟨_, rfl⟩
  have hlt : ∀ b, (Value.slice ad n cap).ownBlock = some b → A.heap.size ≤ b := fun b hb' => (hv.ge hb').1
  have gB := g1.below hb
  have gR : DK B O' d (wrL D i a bs pre) nv sv cv := gB.retag (fun b hb' => by
      rw [hO']; simp only []
      rw [if_neg (fun e => by have := hlt b e; have := g1.lt b hb'; omega)]) (fun b hb' => by
      rw [hO'] at hb'; simp only [] at hb'
      by_cases e : (Value.slice ad n cap).ownBlock = some b
      · obtain ⟨c, e2⟩ := hv.bytes b e; exact ⟨_, e2, rfl⟩
      · rw [if_neg e] at hb'; exact gB.cel b hb')
  have hlen : ((bs.drop x.1).take x.2).length = x.2 := by simp; omega
  have hv0 : Ow B 0 (.slice ad n cap) ((bs.drop x.1).take x.2) := by
    refine ⟨hv.1, ?_⟩
    rcases hv.2 with h2 | ⟨g, cap, cur, e, h3, h4, h5⟩
    · exact .inl h2
    · exact .inr ⟨g, cap, cur, e, Nat.zero_le _, h4, h5⟩
  refine (do9 B O' d i (wrL D i a bs pre) nv sv cv (pch a bs x) (.slice ad n cap) gR hi ⟨hv0, fun b hb' => by rw [hO']; exact if_pos hb', fun _ => by show 0 < ((bs.drop x.1).take x.2).length; omega, by show a + x.1 + ((bs.drop x.1).take x.2).length ≤ _; omega, _, _, _, rfl⟩ (Nat.le_trans (wr_now h1 hab pre h.mem) (by omega)) h2).mono ?_
  rintro e W ⟨he, O2, nv2, cv2, r1, r2⟩
  have hAW : Fp O A O2 W := by
    have e1 : Fp O A O' B := (Fp.of_below O hb).re fun b hb' => by rw [hO']; simp only []; rw [if_neg (fun e => by have := hlt b e; omega)]
    exact e1.trans r2
  refine ⟨he, ⟨⟨O2, nv2, sv, cv2, by rw [wrL_snoc]; exact r1, g2.trans hAW⟩, fun y hy => (List.mem_append.1 hy).elim (fun h' => h.mem y h') (fun h' => by simp at h'; subst h'; exact hx.2)⟩, O, O2, fun b _ h0 h3 => g2.old b h3 h0, hAW⟩
end Go.Proofs.Ytjbhegakgdcldaa
end

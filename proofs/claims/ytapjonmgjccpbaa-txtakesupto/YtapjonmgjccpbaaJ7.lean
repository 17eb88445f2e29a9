/- Texts joined: RHdM TkM RF RFA. -/
import Derived.Test.YtapjonmgjccpbaaJ4
import Derived.Test.YtapjonmgjccpbaaFnd
import Derived.Test.YtapjonmgjccpbaaJ0
import Derived.RangeFuncNested
import Derived.RangeFuncBound
import Derived.RangeFuncCalls
import Derived.RangeFuncLeaves
import Derived.RangeFuncBox
import Derived.RangeFuncWrites
section
set_option linter.unusedSimpArgs false
set_option linter.unusedVariables false
namespace Go.Proofs.Ytapjonmgjccpbaa
open Go.RowKit

/-! Lists of bytes as texts. -/
def st (l : List UInt8) : ByteArray := ⟨l.toArray⟩
theorem st_append (l m : List UInt8) : st l ++ st m = st (l ++ m) := by
  apply ByteArray.ext
  rw [ByteArray.data_append]
  simp [st]
theorem st_size (l : List UInt8) : (st l).size = l.length := by simp [st, ByteArray.size]
theorem st_data (t : ByteArray) : st t.data.toList = t := by cases t; rfl
end Go.Proofs.Ytapjonmgjccpbaa
end
section
set_option linter.unusedSimpArgs false
set_option linter.unusedVariables false
namespace Go.Proofs.Ytapjonmgjccpbaa
open Go.RowKit

/-! Which item bytes begin with, in plain data. -/
abbrev TR := IT × Nat × Nat
def zIT : IT := .mk false ⟨#[]⟩ []
/-- All items of some bytes from a place on. -/
def tkAt (f : ByteArray → TR) (s : ByteArray) : Nat → Nat → Option (List IT)
  | 0, p => if s.size ≤ p then some [] else none
  | m + 1, p => if s.size ≤ p then some [] else if (f (s.extract p s.size)).2.2 = 0 then (tkAt f s m (p + (f (s.extract p s.size)).2.1)).map ((f (s.extract p s.size)).1 :: ·) else none
def tkAll (f : ByteArray → TR) (s : ByteArray) : Option (List IT) := tkAt f s s.size 0
def tk : Nat → ByteArray → TR
  | 0, s => if (fnd s).2.2.2 ≠ 0 then (zIT, 0, (fnd s).2.2.2) else if (fnd s).1 = false then (.mk false (s.extract (fnd s).2.1 (fnd s).2.2.1) [], (fnd s).2.2.1, 0) else (zIT, 0, 1)
  | r + 1, s => if (fnd s).2.2.2 ≠ 0 then (zIT, 0, (fnd s).2.2.2) else if (fnd s).1 = false then (.mk false (s.extract (fnd s).2.1 (fnd s).2.2.1) [], (fnd s).2.2.1, 0) else
      match tkAll (tk r) (s.extract (fnd s).2.1 (fnd s).2.2.1) with
      | none => (zIT, 0, 1)
      | some xs => (.mk true ⟨#[]⟩ xs, (fnd s).2.2.1, 0)
/-- A reading goes on by one byte at least, and no further than there are. -/
def Prog1 (f : ByteArray → TR) : Prop := ∀ s, (f s).2.2 = 0 → 1 ≤ (f s).2.1 ∧ (f s).2.1 ≤ s.size
theorem fin_ok (s : ByteArray) (L : Bool) (f n : Nat) (hf : 1 ≤ f) (h : (fin s L f n).2.2.2 = 0) : (fin s L f n).2.1 = f ∧ (fin s L f n).2.2.1 = f + n ∧ f + n ≤ s.size ∧ f + n ≤ 65536 ∧ (fin s L f n).1 = L := by
  unfold fin at *
  split at h
  · simp at h
  · split at h
    · simp at h
    · split at h
      · simp at h
      · next h1 h2 h3 => rw [if_neg h1, if_neg h2, if_neg h3]; exact ⟨rfl, rfl, by omega, by omega, rfl⟩
theorem fnd_ok (s : ByteArray) (h : (fnd s).2.2.2 = 0) : (fnd s).2.1 ≤ (fnd s).2.2.1 ∧ 1 ≤ (fnd s).2.2.1 ∧ (fnd s).2.2.1 ≤ s.size ∧ (fnd s).2.2.1 ≤ 65536 := by
  unfold fnd at *
  generalize (if 192 ≤ hd0 s then 192 else 128) = B at *
  generalize decide (192 ≤ hd0 s) = L at *
  by_cases h0 : s.size = 0
  · rw [if_pos h0] at h; simp at h
  rw [if_neg h0] at h ⊢
  by_cases h1 : hd0 s < 128
  · rw [if_pos h1] at h ⊢; simp; omega
  rw [if_neg h1] at h ⊢
  by_cases h2 : hd0 s - B ≤ 55
  · rw [if_pos h2] at h ⊢
    have := fin_ok _ _ _ _ (by omega) h
    omega
  rw [if_neg h2] at h ⊢
  by_cases h3 : s.size < 1 + (hd0 s - B - 55)
  · rw [if_pos h3] at h; simp at h
  rw [if_neg h3] at h ⊢
  by_cases h4 : tlGood (s.extract 1 (1 + (hd0 s - B - 55))) = true
  · rw [if_pos h4] at h ⊢
    have := fin_ok _ _ _ _ (by omega) h
    omega
  · rw [if_neg h4] at h; simp at h
theorem tk_prog : ∀ r, Prog1 (tk r)
  | 0 => fun s h => by
    unfold tk at *
    split at h
    · next h1 => simp at h; exact absurd h h1
    · next h1 =>
      rw [if_neg h1]
      have := fnd_ok s (by omega)
      split at h
      · next h2 => rw [if_pos h2]; exact ⟨this.2.1, this.2.2.1⟩
      · simp at h
  | r + 1 => fun s h => by
    unfold tk at *
    split at h
    · next h1 => simp at h; exact absurd h h1
    · next h1 =>
      rw [if_neg h1]
      have := fnd_ok s (by omega)
      split at h
      · next h2 => rw [if_pos h2]; exact ⟨this.2.1, this.2.2.1⟩
      · next h2 =>
        rw [if_neg h2]
        split at h
        · simp at h
        · exact ⟨this.2.1, this.2.2.1⟩
/-- Enough rounds are enough. -/
theorem tkAt_fuel {f : ByteArray → TR} (hf : Prog1 f) (s : ByteArray) : ∀ (m m' p : Nat), s.size - p ≤ m → s.size - p ≤ m' → tkAt f s m p = tkAt f s m' p := by
  intro m
  induction m with
  | zero =>
    intro m' p h h'
    have hp : s.size ≤ p := by omega
    cases m' <;> simp [tkAt, hp]
  | succ m ih =>
    intro m' p h h'
    by_cases hp : s.size ≤ p
    · cases m' <;> simp [tkAt, hp]
    · cases m' with
      | zero => omega
      | succ m' =>
        simp only [tkAt, if_neg hp]
        split
        · next he =>
          have := hf _ he
          rw [ih m' _ (by omega) (by omega)]
        · rfl
/-- So far it was read, up to this place. -/
inductive Rn (f : ByteArray → TR) (s : ByteArray) : List IT → Nat → Prop
  | nil : Rn f s [] 0
  | snoc {xs : List IT} {p : Nat} (h : Rn f s xs p) (hp : p < s.size) (he : (f (s.extract p s.size)).2.2 = 0) : Rn f s (xs ++ [(f (s.extract p s.size)).1]) (p + (f (s.extract p s.size)).2.1)
theorem Rn.at {f : ByteArray → TR} (hf : Prog1 f) {s : ByteArray} {xs : List IT} {p : Nat} (h : Rn f s xs p) : tkAll f s = (tkAt f s s.size p).map (xs ++ ·) := by
  induction h with
  | nil => simp [tkAll]
  | @snoc xs p h hp he ih =>
    rw [ih]
    have h1 := hf _ he
    have e : s.size = (s.size - 1) + 1 := by omega
    have e2 : tkAt f s s.size p = (tkAt f s s.size (p + (f (s.extract p s.size)).2.1)).map ((f (s.extract p s.size)).1 :: ·) := by
      rw [tkAt_fuel hf s s.size (s.size + 1) p (by omega) (by omega)]
      conv => lhs; rw [tkAt, if_neg (by omega), if_pos he]
    rw [e2, Option.map_map]
    congr 1
    funext l
    simp
theorem Rn.le {f : ByteArray → TR} (hf : Prog1 f) {s : ByteArray} {xs : List IT} {p : Nat} (h : Rn f s xs p) : p ≤ s.size := by
  induction h with
  | nil => omega
  | @snoc xs p h hp he ih =>
    have h1 := hf _ he
    have : (s.extract p s.size).size = s.size - p := by rw [ByteArray.size_extract]; omega
    omega
theorem Rn.len {f : ByteArray → TR} (hf : Prog1 f) {s : ByteArray} {xs : List IT} {p : Nat} (h : Rn f s xs p) : xs.length ≤ p := by
  induction h with
  | nil => simp
  | @snoc xs p h hp he ih =>
    have h1 := hf _ he
    simp; omega
theorem Rn.done {f : ByteArray → TR} (hf : Prog1 f) {s : ByteArray} {xs : List IT} {p : Nat} (h : Rn f s xs p) (hp : s.size ≤ p) : tkAll f s = some xs := by
  rw [h.at hf]
  cases hs : s.size <;> simp [tkAt, hp, hs] <;> omega
theorem Rn.fail {f : ByteArray → TR} (hf : Prog1 f) {s : ByteArray} {xs : List IT} {p : Nat} (h : Rn f s xs p) (hp : p < s.size) (he : (f (s.extract p s.size)).2.2 ≠ 0) : tkAll f s = none := by
  rw [h.at hf]
  have e : s.size = (s.size - 1) + 1 := by omega
  rw [tkAt_fuel hf s s.size (s.size + 1) p (by omega) (by omega)]
  conv => lhs; rw [tkAt, if_neg (by omega), if_neg he]
  rfl
end Go.Proofs.Ytapjonmgjccpbaa
end
section
set_option linter.unusedSimpArgs false
set_option linter.unusedVariables false
namespace Go.Proofs.Ytapjonmgjccpbaa
open Go.RowKit

/-! A range over a function whose own variables are written between its yields: what such a sequence promises, and the loop over it.
The caller's word hangs on nothing that was made behind the sequence's beginning. -/
def SeqB {α : Type} (F : Fence) (n : Nat) (P : Program) (g : Nat) (lb : Array Value) (encs : α → Array Value) (Kp : World → World → Prop) (S Sp : List α → Prop) (w : World) : Prop :=
  ∀ (l : Nat) (J Jx : List α → World → Prop) (W : World), Below w.heap.size w W → (∀ s A B, J s A → Below W.heap.size A B → J s B) → (∀ s A B, Jx s A → Below W.heap.size A B → Jx s B) →
    (∀ pre x A, J pre A → YieldAt F (n - 1) P l (encs x) A fun e B => (e = .returned (.bool true) ∧ J (pre ++ [x]) B ∧ Kp A B) ∨ (e = .returned (.bool false) ∧ Jx (pre ++ [x]) B)) →
    J [] W → CallsIn F n P g (#[.func (.yield l) #[] #[]] ++ lb) W fun e B => (∃ v, e = .returned v) ∧ ((∃ xs, S xs ∧ J xs B) ∨ (∃ pre, Sp pre ∧ Jx pre B))
/-- How a round's body may be left. -/
def leftB {α : Type} (B : Nat) (Kp : World → World → Prop) (I : List α → World → Prop) (Ix : Code → List α → World → Prop) (xs : List α) (W : World) : Exit → Act → World → Prop
  | .normal, _, W' => KeepsFrom B W W' ∧ Kp W W' ∧ I xs W'
  | .ret, _, W' => KeepsFrom B W W' ∧ Ix .ret xs W'
  | .exit id, _, W' => KeepsFrom B W W' ∧ Ix (.exit id) xs W'
  | _, _, _ => False
theorem below_put {B l : Nat} (A : World) (o : Obj) (h : B ≤ l) : Below B A (A.putObj l o) :=
  ⟨rfl, rfl, rfl, by simp [World.putObj], fun k hk => World.putObj_heap_other (by omega)⟩
set_option maxHeartbeats 400000 in
theorem wpIn_rangeB {α : Type} {F : Fence} {n : Nat} {P : Program} {g : Operand} {ps : Array Tmp} {assign body : Code} {Q : Exit → Act → World → Prop} {a : Act} {w : World}
    (hro : F.round = none) (h1 : 1 ≤ n) {gf : Nat} {lb : Array Value} (hg : a.eval g = .func (.func gf) #[] lb) (hFg : F.fn gf) (eg : ∀ args w, (callFunc gf args).run P w = .ok (.enter gf args) w)
    {encs : α → Array Value} {Kp : World → World → Prop} {S Sp : List α → Prop} {w0 : World} (hseq : SeqB F (n - 1) P gf lb encs Kp S Sp w0)
    (hKt : ∀ A B C : World, Kp A B → Kp B C → Kp A C) (hKb : ∀ (W : World) (l : Nat) (o o' : Obj), w.heap.size ≤ l → W.heap[l]? = some o → o.isCells = false → Kp W (W.putObj l o')) (hb0 : Below w0.heap.size w0 w) (hps : ∀ x, (encs x).size = ps.size)
    (I : List α → World → Prop) (Ix : Code → List α → World → Prop) (hI : ∀ s A B, I s A → Below w.heap.size A B → I s B) (hIx : ∀ c s A B, Ix c s A → Below w.heap.size A B → Ix c s B) (h0 : I [] w)
    (Ax : α → Act → World → Prop) (hAx : ∀ x a' A l o o', w.heap.size ≤ l → A.heap[l]? = some o → o.isCells = false → Ax x a' A → Ax x a' (A.putObj l o'))
    (hassign : ∀ (l : Nat) (pre : List α) (x : α) (W : World) (K : Act → World → Prop), I pre W → (∀ a' W', KeepsFrom w.heap.size W W' → Kp W W' → I pre W' → Ax x a' W' → K a' W') →
      assign.wpIn (F.inRound l) (n - 1 - 1) P (Exit.then K (fun _ _ _ => False)) { tmps := (ps.zip (encs x)).foldl (fun t (p, v) => t.setIfInBounds p v) a.tmps, defers := [] } W)
    (hbody : ∀ (l : Nat) (pre : List α) (x : α) (a' : Act) (W : World), I pre W → Ax x a' W → body.wpIn (F.inRound l) (n - 1 - 1) P (leftB w.heap.size Kp I Ix (pre ++ [x]) W) a' W)
    (hdone : ∀ (D : Nat) (xs : List α) (W : World), w.heap.size ≤ D → S xs → I xs W → W.heap[D]? = some (.deferred (some [])) → Q .normal { a with defers := { target := .collected D, args := #[] } :: a.defers } W)
    (hstop : ∀ (D : Nat) (c : Code) (pre : List α) (W : World), w.heap.size ≤ D → Sp pre → Ix c pre W → W.heap[D]? = some (.deferred (some [])) → c.wpIn F n P Q { a with defers := { target := .collected D, args := #[] } :: a.defers } W) :
    (Code.rangeFunc g ps assign body).wpIn F n P Q a w := by
  refine wpIn_rangeFunc fun fn hfn => ?_
  rw [hro]
  obtain ⟨R, hR⟩ : ∃ R : LoopState → Option Code → Loop, R = fun st pe => { state := st, pending := pe, fn, tmps := a.tmps, params := ps, assign, body, defers := w.heap.size } := ⟨_, rfl⟩
  obtain ⟨W1, hW1⟩ : ∃ W1, W1 = (w.alloc (.deferred (some []))).alloc (.loop (R .ready none)) := ⟨_, rfl⟩
  have hz : W1.heap.size = w.heap.size + 2 := by rw [hW1]; simp
  have hbw : Below w.heap.size w W1 := by rw [hW1]; exact ((Below.refl _ w).alloc (Nat.le_refl _) _).alloc (by simp) _
  have hl1 : W1.heap[w.heap.size + 1]? = some (.loop (R .ready none)) := by
    have := World.alloc_heap_new (w.alloc (.deferred (some []))) (.loop (R .ready none))
    rw [World.size_alloc] at this
    rw [hW1]; exact this
  have hd1 : W1.heap[w.heap.size]? = some (.deferred (some [])) := by
    rw [hW1]; exact (Below.heap_alloc _ _ _ (by simp)).trans (World.alloc_heap_new w _)
  refine ⟨w.heap.size + 1, [{ target := .collected w.heap.size, args := #[] }], W1, { target := .fn (.func gf) lb, args := #[.func (.yield (w.heap.size + 1)) #[] #[]] }, W1, gf, #[.func (.yield (w.heap.size + 1)) #[] #[]] ++ lb, W1, ?_, ?_, ?_, ?_, fun _ => h1, ?_⟩
  · rw [hW1, hR]; exact run_enterLoop_outer _ _ _ _ _
  · simp only [resolve, hg]; simp [go_sem]
  · intro f hf
    simp [Target.leads] at hf
    subst hf; exact hFg
  · simp [invoke, go_sem, eg]
  have same : ∀ {A B : World} {k : Nat}, Below W1.heap.size A B → k < w.heap.size + 2 → B.heap[k]? = A.heap[k]? := fun h hk => h.block _ (by omega)
  refine (hseq (w.heap.size + 1) (fun pre W => I pre W ∧ W.heap[w.heap.size + 1]? = some (.loop (R .ready none)) ∧ W.heap[w.heap.size]? = some (.deferred (some [])))
    (fun pre W => ∃ c, Ix c pre W ∧ W.heap[w.heap.size + 1]? = some (.loop (R .done (some c))) ∧ W.heap[w.heap.size]? = some (.deferred (some []))) W1 (hb0.trans (hbw.mono hb0.size))
    (fun s A B h hb => ⟨hI s A B h.1 (hb.mono (by omega)), (same hb (by omega)).trans h.2.1, (same hb (by omega)).trans h.2.2⟩)
    (fun s A B h hb => by
      obtain ⟨c, h1, h2, h3⟩ := h
      exact ⟨c, hIx c s A B h1 (hb.mono (by omega)), (same hb (by omega)).trans h2, (same hb (by omega)).trans h3⟩)
    ?_ ⟨hI _ _ _ h0 hbw, hl1, hd1⟩).mono ?_
  · rintro pre x W ⟨hi, hl, hd⟩
    have hy := run_yield (P := P) (args := encs x) hl (by rw [hR]; exact hps x)
    rw [hR] at hy
    refine ⟨fn, _, assign, body, hy, roundIn_of_wpIn hfn (hassign _ pre x W _ hi fun a' W' hk' hkp' hi' hax => ?_)⟩
    have hl' := hk'.same _ _ (by omega) hl rfl
    have hd' := hk'.same _ _ (Nat.le_refl _) hd rfl
    refine ⟨_, run_beginRound hl' (by rw [hR]), ?_⟩
    have hlt' : w.heap.size + 1 < W'.heap.size := (Array.getElem?_eq_some_iff.1 hl').1
    obtain ⟨W2, hW2⟩ : ∃ W2, W2 = W'.putObj (w.heap.size + 1) (.loop { R .ready none with state := .busy }) := ⟨_, rfl⟩
    rw [← hW2]
    have hl2 : W2.heap[w.heap.size + 1]? = some (.loop { R .ready none with state := .busy }) := by rw [hW2]; exact World.putObj_heap_same hlt'
    have hd2 : W2.heap[w.heap.size]? = some (.deferred (some [])) := by rw [hW2]; exact (World.putObj_heap_other (by omega)).trans hd'
    have hk2 : Kp W W2 := by rw [hW2]; exact hKt _ _ _ hkp' (hKb _ _ _ _ (by omega) hl' rfl)
    have hi2 : I pre W2 := by rw [hW2]; exact hI _ _ _ hi' (below_put _ _ (by omega))
    have ha2 : Ax x a' W2 := by rw [hW2]; exact hAx _ _ _ _ _ _ (by omega) hl' rfl hax
    clear hW2
    refine wpIn_mono (hbody _ pre x a' W2 hi2 ha2) ?_
    have fin : ∀ (j : Option Code) (W3 : World), KeepsFrom w.heap.size W2 W3 →
        ∃ W4, W4 = W3.putObj (w.heap.size + 1) (.loop (R (if j.isNone then .ready else .done) j)) ∧ (Instr.endRound (w.heap.size + 1) j).run P W3 = .ok (.bool j.isNone) W4 ∧ W4.heap[w.heap.size + 1]? = some (.loop (R (if j.isNone then .ready else .done) j)) ∧
          W4.heap[w.heap.size]? = some (.deferred (some [])) ∧ Below w.heap.size W3 W4 ∧ (Kp W2 W3 → Kp W2 W4) := fun j W3 h => by
      have hl3 := h.same _ _ (by omega) hl2 rfl
      have hr := run_endRound (P := P) j hl3
      rw [hR] at hr
      refine ⟨_, rfl, ?_, World.putObj_heap_same (Array.getElem?_eq_some_iff.1 hl3).1, (World.putObj_heap_other (by omega)).trans (h.same _ _ (Nat.le_refl _) hd2 rfl), below_put _ _ (by omega), fun hk => hKt _ _ _ hk (hKb _ _ _ _ (by omega) hl3 rfl)⟩
      rw [hR]; exact hr
    rintro e a3 W3 hp
    cases e with
    | normal =>
      obtain ⟨hk3, hkp3, hi3⟩ := hp
      obtain ⟨W4, _, hr, hl4, hd4, hb4, hkp4⟩ := fin none W3 hk3
      exact ⟨_, _, hr, .inl ⟨rfl, ⟨hI _ _ _ hi3 hb4, hl4, hd4⟩, hKt _ _ _ hk2 (hkp4 hkp3)⟩⟩
    | ret =>
      obtain ⟨hk3, hi3⟩ := hp
      obtain ⟨W4, _, hr, hl4, hd4, hb4, _⟩ := fin (some .ret) W3 hk3
      exact ⟨_, _, hr, .inr ⟨rfl, .ret, hIx _ _ _ _ hi3 hb4, hl4, hd4⟩⟩
    | exit id =>
      obtain ⟨hk3, hi3⟩ := hp
      obtain ⟨W4, _, hr, hl4, hd4, hb4, _⟩ := fin (some (.exit id)) W3 hk3
      exact ⟨_, _, hr, .inr ⟨rfl, .exit id, hIx _ _ _ _ hi3 hb4, hl4, hd4⟩⟩
    | goto t => exact False.elim hp
    | panic ch => exact False.elim hp
    | outgrown => exact False.elim hp
  · rintro e W2 ⟨⟨v, rfl⟩, (⟨xs, hS, hi, hl, hd⟩ | ⟨pre, hSp, c, hi, hl, hd⟩)⟩
    · have he := run_endLoop (P := P) hl (by rw [hR]; simp)
      rw [hR] at he
      exact ⟨none, _, he, hdone _ xs _ (Nat.le_refl _) hS (hI _ _ _ hi (below_put _ _ (by omega))) ((World.putObj_heap_other (by omega)).trans hd)⟩
    · have he := run_endLoop (P := P) hl (by rw [hR]; simp)
      rw [hR] at he
      exact ⟨some c, _, he, hstop _ c pre _ (Nat.le_refl _) hSp (hIx _ _ _ _ hi (below_put _ _ (by omega))) ((World.putObj_heap_other (by omega)).trans hd)⟩
/-- What a round keeps: all blocks of cells but two. -/
def KpX (o p : Nat) (A B : World) : Prop := ∀ b vs t, b ≠ o → b ≠ p → Bk A b vs t → Bk B b vs t
theorem KpX.trans {o p : Nat} (A B C : World) (h : KpX o p A B) (k : KpX o p B C) : KpX o p A C := fun b vs t h1 h2 h3 => k b vs t h1 h2 (h b vs t h1 h2 h3)
theorem kf_below {B : Nat} {W W' : World} (h : Below W.heap.size W W') : KeepsFrom B W W' := ⟨h.size, fun k o _ hk _ => (h.block k (Array.getElem?_eq_some_iff.1 hk).1).trans hk⟩
theorem kpx_put {o p : Nat} (W : World) (l : Nat) (x x' : Obj) (h : W.heap[l]? = some x) (hc : x.isCells = false) : KpX o p W (W.putObj l x') := by
  intro b vs t _ _ hb
  have hne : b ≠ l := by
    intro e
    subst e
    rw [show W.heap[b]? = _ from hb] at h
    simp at h
    subst h
    simp [Obj.isCells] at hc
  exact (World.putObj_heap_other hne).trans hb
theorem bk_put {W : World} {b l : Nat} {vs : Array Value} {t : TypeId} {x x' : Obj} (hb : Bk W b vs t) (h : W.heap[l]? = some x) (hc : x.isCells = false) : Bk (W.putObj l x') b vs t :=
  kpx_put (o := b + 1) (p := b + 1) W l x x' h hc b vs t (by omega) (by omega) hb
end Go.Proofs.Ytapjonmgjccpbaa
end
section
set_option linter.unusedSimpArgs false
set_option linter.unusedVariables false
namespace Go.Proofs.Ytapjonmgjccpbaa
open Go.RowKit

/-! A range over a function that only makes memory between its yields, and tells of what it made: what such a sequence promises, and the loop over it. -/
def SeqA {α : Type} (F : Fence) (n : Nat) (P : Program) (g : Nat) (lb : Array Value) (encs : α → Array Value) (Kp : World → World → Prop) (Gd : Nat → List α → α → World → Prop) (S Sp : List α → Prop) (w : World) : Prop :=
  ∀ (l : Nat) (J Jx : List α → World → Prop) (W : World), Below w.heap.size w W → (∀ s A B, J s A → Below A.heap.size A B → J s B) → (∀ s A B, Jx s A → Below A.heap.size A B → Jx s B) →
    (∀ pre x A0 A, J pre A0 → Below A0.heap.size A0 A → Gd A0.heap.size pre x A → YieldAt F (n - 1) P l (encs x) A fun e B => (e = .returned (.bool true) ∧ J (pre ++ [x]) B ∧ Kp A B) ∨ (e = .returned (.bool false) ∧ Jx (pre ++ [x]) B)) →
    J [] W → CallsIn F n P g (#[.func (.yield l) #[] #[]] ++ lb) W fun e B => (∃ v, e = .returned v) ∧ ((∃ xs, S xs ∧ J xs B) ∨ (∃ pre, Sp pre ∧ Jx pre B))
set_option maxHeartbeats 400000 in
theorem wpIn_rangeA {α : Type} {F : Fence} {n : Nat} {P : Program} {g : Operand} {ps : Array Tmp} {assign body : Code} {Q : Exit → Act → World → Prop} {a : Act} {w : World}
    (hro : F.round = none) (h1 : 1 ≤ n) {gf : Nat} {lb : Array Value} (hg : a.eval g = .func (.func gf) #[] lb) (hFg : F.fn gf) (eg : ∀ args w, (callFunc gf args).run P w = .ok (.enter gf args) w)
    {encs : α → Array Value} {Kp : World → World → Prop} {Gd : Nat → List α → α → World → Prop} {S Sp : List α → Prop} {w0 : World} (hseq : SeqA F (n - 1) P gf lb encs Kp Gd S Sp w0)
    (hKt : ∀ A B C : World, Kp A B → Kp B C → Kp A C) (hKb : ∀ (W : World) (l : Nat) (o o' : Obj), w.heap.size ≤ l → W.heap[l]? = some o → o.isCells = false → Kp W (W.putObj l o')) (hb0 : Below w0.heap.size w0 w) (hps : ∀ x, (encs x).size = ps.size)
    (I : List α → World → Prop) (Ix : Code → List α → World → Prop) (hI : ∀ s A B, I s A → Below A.heap.size A B → I s B) (hIx : ∀ c s A B, Ix c s A → Below A.heap.size A B → Ix c s B)
    (hIp : ∀ s A l o o', w.heap.size ≤ l → A.heap[l]? = some o → o.isCells = false → I s A → I s (A.putObj l o')) (hIxp : ∀ c s A l o o', w.heap.size ≤ l → A.heap[l]? = some o → o.isCells = false → Ix c s A → Ix c s (A.putObj l o')) (h0 : I [] w)
    (Ax : α → Act → World → Prop) (hAx : ∀ x a' A l o o', w.heap.size ≤ l → A.heap[l]? = some o → o.isCells = false → Ax x a' A → Ax x a' (A.putObj l o'))
    (hassign : ∀ (l : Nat) (pre : List α) (x : α) (A0 W : World) (K : Act → World → Prop), I pre A0 → Below A0.heap.size A0 W → Gd A0.heap.size pre x W → I pre W → (∀ a' W', KeepsFrom w.heap.size W W' → Kp W W' → I pre W' → Ax x a' W' → K a' W') →
      assign.wpIn (F.inRound l) (n - 1 - 1) P (Exit.then K (fun _ _ _ => False)) { tmps := (ps.zip (encs x)).foldl (fun t (p, v) => t.setIfInBounds p v) a.tmps, defers := [] } W)
    (hbody : ∀ (l : Nat) (pre : List α) (x : α) (a' : Act) (W : World), I pre W → Ax x a' W → body.wpIn (F.inRound l) (n - 1 - 1) P (leftB w.heap.size Kp I Ix (pre ++ [x]) W) a' W)
    (hdone : ∀ (D : Nat) (xs : List α) (W : World), w.heap.size ≤ D → S xs → I xs W → W.heap[D]? = some (.deferred (some [])) → Q .normal { a with defers := { target := .collected D, args := #[] } :: a.defers } W)
    (hstop : ∀ (D : Nat) (c : Code) (pre : List α) (W : World), w.heap.size ≤ D → Sp pre → Ix c pre W → W.heap[D]? = some (.deferred (some [])) → c.wpIn F n P Q { a with defers := { target := .collected D, args := #[] } :: a.defers } W) :
    (Code.rangeFunc g ps assign body).wpIn F n P Q a w := by
  refine wpIn_rangeFunc fun fn hfn => ?_
  rw [hro]
  obtain ⟨R, hR⟩ : ∃ R : LoopState → Option Code → Loop, R = fun st pe => { state := st, pending := pe, fn, tmps := a.tmps, params := ps, assign, body, defers := w.heap.size } := ⟨_, rfl⟩
  obtain ⟨W1, hW1⟩ : ∃ W1, W1 = (w.alloc (.deferred (some []))).alloc (.loop (R .ready none)) := ⟨_, rfl⟩
  have hz : W1.heap.size = w.heap.size + 2 := by rw [hW1]; simp
  have hbw : Below w.heap.size w W1 := by rw [hW1]; exact ((Below.refl _ w).alloc (Nat.le_refl _) _).alloc (by simp) _
  have hl1 : W1.heap[w.heap.size + 1]? = some (.loop (R .ready none)) := by
    have := World.alloc_heap_new (w.alloc (.deferred (some []))) (.loop (R .ready none))
    rw [World.size_alloc] at this
    rw [hW1]; exact this
  have hd1 : W1.heap[w.heap.size]? = some (.deferred (some [])) := by
    rw [hW1]; exact (Below.heap_alloc _ _ _ (by simp)).trans (World.alloc_heap_new w _)
  refine ⟨w.heap.size + 1, [{ target := .collected w.heap.size, args := #[] }], W1, { target := .fn (.func gf) lb, args := #[.func (.yield (w.heap.size + 1)) #[] #[]] }, W1, gf, #[.func (.yield (w.heap.size + 1)) #[] #[]] ++ lb, W1, ?_, ?_, ?_, ?_, fun _ => h1, ?_⟩
  · rw [hW1, hR]; exact run_enterLoop_outer _ _ _ _ _
  · simp only [resolve, hg]; simp [go_sem]
  · intro f hf
    simp [Target.leads] at hf
    subst hf; exact hFg
  · simp [invoke, go_sem, eg]
  have same : ∀ {A B : World} {k : Nat} {o : Obj}, Below A.heap.size A B → A.heap[k]? = some o → B.heap[k]? = some o := fun h hk => (h.block _ (Array.getElem?_eq_some_iff.1 hk).1).trans hk
  refine (hseq (w.heap.size + 1) (fun pre W => I pre W ∧ W.heap[w.heap.size + 1]? = some (.loop (R .ready none)) ∧ W.heap[w.heap.size]? = some (.deferred (some [])))
    (fun pre W => ∃ c, Ix c pre W ∧ W.heap[w.heap.size + 1]? = some (.loop (R .done (some c))) ∧ W.heap[w.heap.size]? = some (.deferred (some []))) W1 (hb0.trans (hbw.mono hb0.size))
    (fun s A B h hb => ⟨hI s A B h.1 hb, same hb h.2.1, same hb h.2.2⟩)
    (fun s A B h hb => by
      obtain ⟨c, h1, h2, h3⟩ := h
      exact ⟨c, hIx c s A B h1 hb, same hb h2, same hb h3⟩)
    ?_ ⟨hI _ _ _ h0 hbw, hl1, hd1⟩).mono ?_
  · rintro pre x A0 W ⟨hi0, hl0, hd0⟩ hbA hGd
    have hi := hI _ _ _ hi0 hbA
    have hl := same hbA hl0
    have hd := same hbA hd0
    have hy := run_yield (P := P) (args := encs x) hl (by rw [hR]; exact hps x)
    rw [hR] at hy
    refine ⟨fn, _, assign, body, hy, roundIn_of_wpIn hfn (hassign _ pre x A0 W _ hi0 hbA hGd hi fun a' W' hk' hkp' hi' hax => ?_)⟩
    have hl' := hk'.same _ _ (by omega) hl rfl
    have hd' := hk'.same _ _ (Nat.le_refl _) hd rfl
    refine ⟨_, run_beginRound hl' (by rw [hR]), ?_⟩
    have hlt' : w.heap.size + 1 < W'.heap.size := (Array.getElem?_eq_some_iff.1 hl').1
    obtain ⟨W2, hW2⟩ : ∃ W2, W2 = W'.putObj (w.heap.size + 1) (.loop { R .ready none with state := .busy }) := ⟨_, rfl⟩
    rw [← hW2]
    have hl2 : W2.heap[w.heap.size + 1]? = some (.loop { R .ready none with state := .busy }) := by rw [hW2]; exact World.putObj_heap_same hlt'
    have hd2 : W2.heap[w.heap.size]? = some (.deferred (some [])) := by rw [hW2]; exact (World.putObj_heap_other (by omega)).trans hd'
    have hk2 : Kp W W2 := by rw [hW2]; exact hKt _ _ _ hkp' (hKb _ _ _ _ (by omega) hl' rfl)
    have hi2 : I pre W2 := by rw [hW2]; exact hIp _ _ _ _ _ (by omega) hl' rfl hi'
    have ha2 : Ax x a' W2 := by rw [hW2]; exact hAx _ _ _ _ _ _ (by omega) hl' rfl hax
    clear hW2
    refine wpIn_mono (hbody _ pre x a' W2 hi2 ha2) ?_
    have fin : ∀ (j : Option Code) (W3 : World), KeepsFrom w.heap.size W2 W3 →
        ∃ W4, W4 = W3.putObj (w.heap.size + 1) (.loop (R (if j.isNone then .ready else .done) j)) ∧ (Instr.endRound (w.heap.size + 1) j).run P W3 = .ok (.bool j.isNone) W4 ∧ W4.heap[w.heap.size + 1]? = some (.loop (R (if j.isNone then .ready else .done) j)) ∧
          W4.heap[w.heap.size]? = some (.deferred (some [])) ∧ ((∀ s, I s W3 → I s W4) ∧ (∀ c s, Ix c s W3 → Ix c s W4)) ∧ (Kp W2 W3 → Kp W2 W4) := fun j W3 h => by
      have hl3 := h.same _ _ (by omega) hl2 rfl
      have hr := run_endRound (P := P) j hl3
      rw [hR] at hr
      refine ⟨_, rfl, ?_, World.putObj_heap_same (Array.getElem?_eq_some_iff.1 hl3).1, (World.putObj_heap_other (by omega)).trans (h.same _ _ (Nat.le_refl _) hd2 rfl), ⟨fun s hs => hIp _ _ _ _ _ (by omega) hl3 rfl hs, fun c s hs => hIxp _ _ _ _ _ _ (by omega) hl3 rfl hs⟩, fun hk => hKt _ _ _ hk (hKb _ _ _ _ (by omega) hl3 rfl)⟩
      rw [hR]; exact hr
    rintro e a3 W3 hp
    cases e with
    | normal =>
      obtain ⟨hk3, hkp3, hi3⟩ := hp
      obtain ⟨W4, _, hr, hl4, hd4, hb4, hkp4⟩ := fin none W3 hk3
      exact ⟨_, _, hr, .inl ⟨rfl, ⟨hb4.1 _ hi3, hl4, hd4⟩, hKt _ _ _ hk2 (hkp4 hkp3)⟩⟩
    | ret =>
      obtain ⟨hk3, hi3⟩ := hp
      obtain ⟨W4, _, hr, hl4, hd4, hb4, _⟩ := fin (some .ret) W3 hk3
      exact ⟨_, _, hr, .inr ⟨rfl, .ret, hb4.2 _ _ hi3, hl4, hd4⟩⟩
    | exit id =>
      obtain ⟨hk3, hi3⟩ := hp
      obtain ⟨W4, _, hr, hl4, hd4, hb4, _⟩ := fin (some (.exit id)) W3 hk3
      exact ⟨_, _, hr, .inr ⟨rfl, .exit id, hb4.2 _ _ hi3, hl4, hd4⟩⟩
    | goto t => exact False.elim hp
    | panic ch => exact False.elim hp
    | outgrown => exact False.elim hp
  · rintro e W2 ⟨⟨v, rfl⟩, (⟨xs, hS, hi, hl, hd⟩ | ⟨pre, hSp, c, hi, hl, hd⟩)⟩
    · have he := run_endLoop (P := P) hl (by rw [hR]; simp)
      rw [hR] at he
      exact ⟨none, _, he, hdone _ xs _ (Nat.le_refl _) hS (hIp _ _ _ _ _ (by omega) hl rfl hi) ((World.putObj_heap_other (by omega)).trans hd)⟩
    · have he := run_endLoop (P := P) hl (by rw [hR]; simp)
      rw [hR] at he
      exact ⟨some c, _, he, hstop _ c pre _ (Nat.le_refl _) hSp (hIxp _ _ _ _ _ _ (by omega) hl rfl hi) ((World.putObj_heap_other (by omega)).trans hd)⟩
end Go.Proofs.Ytapjonmgjccpbaa
end

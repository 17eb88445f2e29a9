/- Texts joined: RFr RFP DkE Uns UnsQ CrD Pk9. -/
import Derived.Test.YtljhhdpeakencaaJ3
import Derived.OrdersIn
import Derived.OwnWalkIn
import Derived.Test.YtljhhdpeakencaaJ2
import Derived.Deep.Light
import Derived.Lib.BitFns
import Derived.Shelf.Abstract
import Derived.Shelf.RegionOpen
import Derived.TacticsInMore
import Derived.LoopNIn
import Derived.LoopIn
import Derived.Deep.OwnRows
import Derived.Scope
section
set_option linter.unusedSimpArgs false
set_option linter.unusedVariables false
namespace Go.Proofs.Ytljhhdpeakencaa
open Go.RowKit

/-! A drawn region within a round goes as one outside: only a deferred call minds the round. -/
theorem anyIn_round {F : Fence} {n : Nat} {P : Program} {md : Region.Mode} {ops : Array Oper} {Q : Exit → Act → World → Prop} (l : Nat) (hd : ∀ (i : Nat) (o : Oper), ops[i]? = some o → ∀ c, o.op ≠ .defer c) :
    ∀ (fuel : Nat) (listed : Array Bool) (a : Act) (w : World), wpAnyIn F n P md ops Q fuel listed a w → wpAnyIn (F.inRound l) n P md ops Q fuel listed a w
  | 0, _, _, _, h => h
  | fuel + 1, listed, a, w, h => by
    refine ⟨h.1, fun i hi => ?_⟩
    have h1 := wpOpIn_mono (fun a w hk => anyIn_round l hd fuel (listed.setIfInBounds i true) a w hk) (h.2 i hi)
    unfold wpOpIn at h1 ⊢
    cases ho : ops[i]? with
    | none => simp only [ho] at h1 ⊢; exact h1
    | some o =>
      simp only [ho] at h1 ⊢
      split at h1
      · unfold Oper.wpIn at h1 ⊢
        rw [Oper.semAt_plain _ _ _ (hd i o ho)] at h1 ⊢
        rename_i hw
        simp only [hw, if_true]
        exact h1
      · rename_i hw
        simp only [hw]
        exact h1
/-- No deferred call among them. -/
def noDefer (ops : Array Oper) : Bool := ops.all fun o => match o.op with | .defer _ => false | _ => true
theorem noDefer_spec {ops : Array Oper} (h : noDefer ops = true) (i : Nat) (o : Oper) (ho : ops[i]? = some o) (c) : o.op ≠ .defer c := fun e => by
  have hm : o ∈ ops := Array.mem_of_getElem? ho
  have := (Array.all_eq_true'.1 h) o hm
  rw [e] at this
  exact absurd this (by simp)
end Go.Proofs.Ytljhhdpeakencaa
end
section
set_option linter.unusedSimpArgs false
set_option linter.unusedVariables false
namespace Go.Proofs.Ytljhhdpeakencaa
open Go.RowKit

/-! As RFA's loop; what is known of a round's values may speak of those ahead of them, too. -/
set_option maxHeartbeats 400000 in
theorem wpIn_rangeP {α : Type} {F : Fence} {n : Nat} {P : Program} {g : Operand} {ps : Array Tmp} {assign body : Code} {Q : Exit → Act → World → Prop} {a : Act} {w : World}
    (hro : F.round = none) (h1 : 1 ≤ n) {gf : Nat} {lb : Array Value} (hg : a.eval g = .func (.func gf) #[] lb) (hFg : F.fn gf) (eg : ∀ args w, (callFunc gf args).run P w = .ok (.enter gf args) w)
    {encs : α → Array Value} {Kp : World → World → Prop} {Gd : Nat → List α → α → World → Prop} {S Sp : List α → Prop} {w0 : World} (hseq : SeqA F (n - 1) P gf lb encs Kp Gd S Sp w0)
    (hKt : ∀ A B C : World, Kp A B → Kp B C → Kp A C) (hKb : ∀ (W : World) (l : Nat) (o o' : Obj), w.heap.size ≤ l → W.heap[l]? = some o → o.isCells = false → Kp W (W.putObj l o')) (hb0 : Below w0.heap.size w0 w) (hps : ∀ x, (encs x).size = ps.size)
    (I : List α → World → Prop) (Ix : Code → List α → World → Prop) (hI : ∀ s A B, I s A → Below A.heap.size A B → I s B) (hIx : ∀ c s A B, Ix c s A → Below A.heap.size A B → Ix c s B)
    (hIp : ∀ s A l o o', w.heap.size ≤ l → A.heap[l]? = some o → o.isCells = false → I s A → I s (A.putObj l o')) (hIxp : ∀ c s A l o o', w.heap.size ≤ l → A.heap[l]? = some o → o.isCells = false → Ix c s A → Ix c s (A.putObj l o')) (h0 : I [] w)
    (Ax : List α → α → Act → World → Prop) (hAx : ∀ pre x a' A l o o', w.heap.size ≤ l → A.heap[l]? = some o → o.isCells = false → Ax pre x a' A → Ax pre x a' (A.putObj l o'))
    (hassign : ∀ (l : Nat) (pre : List α) (x : α) (A0 W : World) (K : Act → World → Prop), I pre A0 → Below A0.heap.size A0 W → Gd A0.heap.size pre x W → I pre W → (∀ a' W', KeepsFrom w.heap.size W W' → Kp W W' → I pre W' → Ax pre x a' W' → K a' W') →
      assign.wpIn (F.inRound l) (n - 1 - 1) P (Exit.then K (fun _ _ _ => False)) { tmps := (ps.zip (encs x)).foldl (fun t (p, v) => t.setIfInBounds p v) a.tmps, defers := [] } W)
    (hbody : ∀ (l : Nat) (pre : List α) (x : α) (a' : Act) (W : World), I pre W → Ax pre x a' W → body.wpIn (F.inRound l) (n - 1 - 1) P (leftB w.heap.size Kp I Ix (pre ++ [x]) W) a' W)
    (hdone : ∀ (D : Nat) (xs : List α) (W : World), w.heap.size ≤ D → S xs → I xs W → W.heap[D]? = some (.deferred (some [])) → Q .normal { a with defers := { target := .collected D, args := #[] } :: a.defers } W)
    (hstop : ∀ (D : Nat) (c : Code) (pre : List α) (W : World), w.heap.size ≤ D → Sp pre → Ix c pre W → W.heap[D]? = some (.deferred (some [])) → c.wpIn F n P Q { a with defers := { target := .collected D, args := #[] } :: a.defers } W) :
    (Code.rangeFunc g ps assign body).wpIn F n P Q a w := by
  refine wpIn_rangeFunc fun fn hfn => ?_
  rw [hro]
  obtain ⟨R, hR⟩ : ∃ R : LoopState → Option Code → Loop, R = fun st pe => { state := st, pending := pe, fn, tmps := a.tmps, params := ps, assign, body, defers := w.heap.size } := ⟨_, rfl⟩
  obtain ⟨W1, hW1⟩ : ∃ W1, W1 = (w.alloc (.deferred (some []))).alloc (.loop (R .ready none)) := ⟨_, rfl⟩
  have hz : W1.heap.size = w.heap.size + 2 := by rw [hW1]; simp
  have hbw : Below w.heap.size w W1 := by rw [hW1]; exact ((Below.refl _ w).alloc (Nat.le_refl _) _).alloc (by simp) _
  have hl1 : W1.heap[w.heap.size + 1]? = some (.loop (R .ready none)) := by
    have := World.alloc_heap_new (w.alloc (.deferred (some []))) (.loop (R .ready none))
    rw [World.size_alloc] at this
    rw [hW1]; exact this
  have hd1 : W1.heap[w.heap.size]? = some (.deferred (some [])) := by
    rw [hW1]; exact (Below.heap_alloc _ _ _ (by simp)).trans (World.alloc_heap_new w _)
  refine ⟨w.heap.size + 1, [{ target := .collected w.heap.size, args := #[] }], W1, { target := .fn (.func gf) lb, args := #[.func (.yield (w.heap.size + 1)) #[] #[]] }, W1, gf, #[.func (.yield (w.heap.size + 1)) #[] #[]] ++ lb, W1, ?_, ?_, ?_, ?_, fun _ => h1, ?_⟩
  · rw [hW1, hR]; exact run_enterLoop_outer _ _ _ _ _
  · simp only [resolve, hg]; simp [go_sem]
  · intro f hf
    simp [Target.leads] at hf
    subst hf; exact hFg
  · simp [invoke, go_sem, eg]
  have same : ∀ {A B : World} {k : Nat} {o : Obj}, Below A.heap.size A B → A.heap[k]? = some o → B.heap[k]? = some o := fun h hk => (h.block _ (Array.getElem?_eq_some_iff.1 hk).1).trans hk
  refine (hseq (w.heap.size + 1) (fun pre W => I pre W ∧ W.heap[w.heap.size + 1]? = some (.loop (R .ready none)) ∧ W.heap[w.heap.size]? = some (.deferred (some [])))
    (fun pre W => ∃ c, Ix c pre W ∧ W.heap[w.heap.size + 1]? = some (.loop (R .done (some c))) ∧ W.heap[w.heap.size]? = some (.deferred (some []))) W1 (hb0.trans (hbw.mono hb0.size))
    (fun s A B h hb => ⟨hI s A B h.1 hb, same hb h.2.1, same hb h.2.2⟩)
    (fun s A B h hb => by
      obtain ⟨c, h1, h2, h3⟩ := h
      exact ⟨c, hIx c s A B h1 hb, same hb h2, same hb h3⟩)
    ?_ ⟨hI _ _ _ h0 hbw, hl1, hd1⟩).mono ?_
  · rintro pre x A0 W ⟨hi0, hl0, hd0⟩ hbA hGd
    have hi := hI _ _ _ hi0 hbA
    have hl := same hbA hl0
    have hd := same hbA hd0
    have hy := run_yield (P := P) (args := encs x) hl (by rw [hR]; exact hps x)
    rw [hR] at hy
    refine ⟨fn, _, assign, body, hy, roundIn_of_wpIn hfn (hassign _ pre x A0 W _ hi0 hbA hGd hi fun a' W' hk' hkp' hi' hax => ?_)⟩
    have hl' := hk'.same _ _ (by omega) hl rfl
    have hd' := hk'.same _ _ (Nat.le_refl _) hd rfl
    refine ⟨_, run_beginRound hl' (by rw [hR]), ?_⟩
    have hlt' : w.heap.size + 1 < W'.heap.size := (Array.getElem?_eq_some_iff.1 hl').1
    obtain ⟨W2, hW2⟩ : ∃ W2, W2 = W'.putObj (w.heap.size + 1) (.loop { R .ready none with state := .busy }) := ⟨_, rfl⟩
    rw [← hW2]
    have hl2 : W2.heap[w.heap.size + 1]? = some (.loop { R .ready none with state := .busy }) := by rw [hW2]; exact World.putObj_heap_same hlt'
    have hd2 : W2.heap[w.heap.size]? = some (.deferred (some [])) := by rw [hW2]; exact (World.putObj_heap_other (by omega)).trans hd'
    have hk2 : Kp W W2 := by rw [hW2]; exact hKt _ _ _ hkp' (hKb _ _ _ _ (by omega) hl' rfl)
    have hi2 : I pre W2 := by rw [hW2]; exact hIp _ _ _ _ _ (by omega) hl' rfl hi'
    have ha2 : Ax pre x a' W2 := by rw [hW2]; exact hAx _ _ _ _ _ _ _ (by omega) hl' rfl hax
    clear hW2
    refine wpIn_mono (hbody _ pre x a' W2 hi2 ha2) ?_
    have fin : ∀ (j : Option Code) (W3 : World), KeepsFrom w.heap.size W2 W3 →
        ∃ W4, W4 = W3.putObj (w.heap.size + 1) (.loop (R (if j.isNone then .ready else .done) j)) ∧ (Instr.endRound (w.heap.size + 1) j).run P W3 = .ok (.bool j.isNone) W4 ∧ W4.heap[w.heap.size + 1]? = some (.loop (R (if j.isNone then .ready else .done) j)) ∧
          W4.heap[w.heap.size]? = some (.deferred (some [])) ∧ ((∀ s, I s W3 → I s W4) ∧ (∀ c s, Ix c s W3 → Ix c s W4)) ∧ (Kp W2 W3 → Kp W2 W4) := fun j W3 h => by
      have hl3 := h.same _ _ (by omega) hl2 rfl
      have hr := run_endRound (P := P) j hl3
      rw [hR] at hr
      refine ⟨_, rfl, ?_, World.putObj_heap_same (Array.getElem?_eq_some_iff.1 hl3).1, (World.putObj_heap_other (by omega)).trans (h.same _ _ (Nat.le_refl _) hd2 rfl), ⟨fun s hs => hIp _ _ _ _ _ (by omega) hl3 rfl hs, fun c s hs => hIxp _ _ _ _ _ _ (by omega) hl3 rfl hs⟩, fun hk => hKt _ _ _ hk (hKb _ _ _ _ (by omega) hl3 rfl)⟩
      rw [hR]; exact hr
    rintro e a3 W3 hp
    cases e with
    | normal =>
      obtain ⟨hk3, hkp3, hi3⟩ := hp
      obtain ⟨W4, _, hr, hl4, hd4, hb4, hkp4⟩ := fin none W3 hk3
      exact ⟨_, _, hr, .inl ⟨rfl, ⟨hb4.1 _ hi3, hl4, hd4⟩, hKt _ _ _ hk2 (hkp4 hkp3)⟩⟩
    | ret =>
      obtain ⟨hk3, hi3⟩ := hp
      obtain ⟨W4, _, hr, hl4, hd4, hb4, _⟩ := fin (some .ret) W3 hk3
      exact ⟨_, _, hr, .inr ⟨rfl, .ret, hb4.2 _ _ hi3, hl4, hd4⟩⟩
    | exit id =>
      obtain ⟨hk3, hi3⟩ := hp
      obtain ⟨W4, _, hr, hl4, hd4, hb4, _⟩ := fin (some (.exit id)) W3 hk3
      exact ⟨_, _, hr, .inr ⟨rfl, .exit id, hb4.2 _ _ hi3, hl4, hd4⟩⟩
    | goto t => exact False.elim hp
    | panic ch => exact False.elim hp
    | outgrown => exact False.elim hp
  · rintro e W2 ⟨⟨v, rfl⟩, (⟨xs, hS, hi, hl, hd⟩ | ⟨pre, hSp, c, hi, hl, hd⟩)⟩
    · have he := run_endLoop (P := P) hl (by rw [hR]; simp)
      rw [hR] at he
      exact ⟨none, _, he, hdone _ xs _ (Nat.le_refl _) hS (hIp _ _ _ _ _ (by omega) hl rfl hi) ((World.putObj_heap_other (by omega)).trans hd)⟩
    · have he := run_endLoop (P := P) hl (by rw [hR]; simp)
      rw [hR] at he
      exact ⟨some c, _, he, hstop _ c pre _ (Nat.le_refl _) hSp (hIxp _ _ _ _ _ _ (by omega) hl rfl hi) ((World.putObj_heap_other (by omega)).trans hd)⟩
end Go.Proofs.Ytljhhdpeakencaa
end
section
set_option linter.unusedSimpArgs false
set_option linter.unusedVariables false
namespace Go.Proofs.Ytljhhdpeakencaa
open Go.RowKit Go.Shelf
attribute [local go_sem] Oper.semAt_some

/-! pieces, as a sequence. -/
def pcn (a len k : Nat) : Nat := min (len - k) (64 - (a + k) % 64)
theorem pcn_pos {a len k : Nat} (h : k < len) : 0 < pcn a len k := by unfold pcn; omega
theorem pcn_le {a len k : Nat} (h : k < len) : k + pcn a len k ≤ len := by unfold pcn; omega
def pcs (a len k : Nat) : List (Nat × Nat) := if h : k < len then (k, pcn a len k) :: pcs a len (k + pcn a len k) else []
termination_by len - k
decreasing_by have := pcn_pos (a := a) h; omega
theorem pcs_cons {a len k : Nat} (h : k < len) : pcs a len k = (k, pcn a len k) :: pcs a len (k + pcn a len k) := by rw [pcs, dif_pos h]
theorem pcs_nil {a len k : Nat} (h : ¬ k < len) : pcs a len k = [] := by rw [pcs, dif_neg h]
theorem cell_lt9 {w : World} {a : Addr} {v : Value} (h : w.cell? a = some v) : a.block < w.heap.size := World.block_lt_of_cell? w a h
/-- What a round keeps: cells that nobody owned at the loop's beginning. -/
def KpT (N : Nat) (O : Nat → Nat) (A B : World) : Prop := ∀ p v, p.block < N → O p.block = 0 → A.cell? p = some v → B.cell? p = some v
theorem KpT.trans {N : Nat} {O : Nat → Nat} (A B C : World) (h : KpT N O A B) (k : KpT N O B C) : KpT N O A C := fun p v h1 h2 h3 => k p v h1 h2 (h p v h1 h2 h3)
theorem kpt_put {N : Nat} {O : Nat → Nat} (W : World) (l : Nat) (x x' : Obj) (h : W.heap[l]? = some x) (hc : x.isCells = false) : KpT N O W (W.putObj l x') := by
  intro p v _ _ hp
  by_cases e : p.block = l
  · subst e
    unfold World.cell? at hp
    rw [h] at hp
    cases x <;> simp_all [Obj.isCells]
  · rw [World.cell?_of_block (w := W) (World.putObj_heap_other e)]
    exact hp
theorem KpT.of_below {N : Nat} {O : Nat → Nat} {A B : World} (h : Below A.heap.size A B) : KpT N O A B := fun p v _ _ hp => (h.cell (cell_lt9 hp)).trans hp
theorem KpT.of_fp {N : Nat} {O OA OB : Nat → Nat} {A B : World} (h : Fp OA A OB B) (hO : ∀ b, b < N → O b = 0 → OA b = 0) : KpT N O A B := fun p v h1 h2 hp => h.cell hp (hO _ h1 h2)
def pcenc (ad : Option Addr) (a cap : Nat) (x : Nat × Nat) : Array Value := #[.int .i64 ((a : Int) + (x.1 : Int)), .slice (Option.map (fun y => y.add x.1) ad) x.2 (cap - x.1)]
set_option maxRecDepth 100000 in
set_option maxHeartbeats 4000000 in
theorem pieces_seq (m : Nat) (a len cap Bb Ba N : Nat) (O : Nat → Nat) (ad : Option Addr) (hm : 1 ≤ m) (hn : a + len ≤ 1099511627776) (hcap : len ≤ cap) (w : World)
    (cB : w.cell? ⟨Bb, 0, none⟩ = some (.slice ad len cap)) (cA : w.cell? ⟨Ba, 0, none⟩ = some (.int .i64 (a : Int))) (nB : Bb < N) (nA : Ba < N) (oB : O Bb = 0) (oA : O Ba = 0) :
    SeqA Fence.wide m Try.prog 95 #[.pointer (some ⟨Bb, 0, none⟩), .pointer (some ⟨Ba, 0, none⟩)] (pcenc ad a cap) (KpT N O) (fun _ pre x _ => 0 < x.2 ∧ x.1 + x.2 ≤ len ∧ pre.length ≤ x.1) (fun xs => xs = pcs a len 0) (fun _ => True) w := by
  intro l J Jx W hbW hJ hJx hY h0
  have cB := (hbW.cell (cell_lt9 cB)).trans cB
  have cA := (hbW.cell (cell_lt9 cA)).trans cA
  have HY : Hid (∀ pre x A, (0 < x.2 ∧ x.1 + x.2 ≤ len ∧ pre.length ≤ x.1) → J pre A → YieldAt Fence.wide (m - 1) Try.prog l (pcenc ad a cap x) A fun e B => (e = .returned (.bool true) ∧ J (pre ++ [x]) B ∧ KpT N O A B) ∨ (e = .returned (.bool false) ∧ Jx (pre ++ [x]) B)) := fun pre x A hg hA => hY pre x A A hA (Below.refl _ _) hg
  have HN : Hid ((Bb < N ∧ O Bb = 0) ∧ Ba < N ∧ O Ba = 0) := ⟨⟨nB, oB⟩, nA, oA⟩
  clear hY hJ hJx hbW nB nA oB oA
  show CallsIn Fence.wide m Try.prog 95 #[.func (.yield l) #[] #[], .pointer (some ⟨Bb, 0, none⟩), .pointer (some ⟨Ba, 0, none⟩)] W _
  refine callsIn_of_wp Try.func95 rfl trivial ?_ rfl
  simp only [Try.ntmps95, List.size_toArray, List.length_cons, List.length_nil, Nat.reduceAdd, Nat.reduceSub, Array.replicate_succ, Array.replicate_zero, List.push_toArray, List.append_toArray, List.nil_append, List.cons_append]
  gi_wp2
  gi_loopw [4] (fun i wr => ∃ (k : Nat) (pre : List (Nat × Nat)), k ≤ len ∧ pre.length ≤ k ∧ i = .int .i64 (k : Int) ∧ pre ++ pcs a len k = pcs a len 0 ∧ wr.cell? ⟨Bb, 0, none⟩ = some (.slice ad len cap) ∧ wr.cell? ⟨Ba, 0, none⟩ = some (.int .i64 (a : Int)) ∧ J pre wr) (fun i _ => len - (intOf i).toNat)
  case atStart => exact ⟨0, [], Nat.zero_le _, Nat.le_refl _, rfl, rfl, cB, cA, h0⟩
  case round =>
    clear cB cA h0
    obtain ⟨k, pre, hk, hpl, rfl, hpre, cB, cA, hJk⟩ := hrel
    have HPre : Hid (pre ++ pcs a len k = pcs a len 0) := hpre
    clear hpre
    by_cases hlt : k < len
    · have hlt' : (k : Int) < (len : Int) := by omega
      have e1 : IntKind.i64.wrap ((a : Int) + (k : Int)) = (a : Int) + (k : Int) := IntWalk.i64_in _ (by omega)
      obtain ⟨n, hnE⟩ : ∃ n : Nat, n = pcn a len k := ⟨_, rfl⟩
      have HNE : Hid (pre ++ [(k, n)] ++ pcs a len (k + n) = pcs a len 0 ∧ 0 < n ∧ k + n ≤ len) := by
        have h1 := pcn_pos (a := a) hlt
        have h2 := pcn_le (a := a) hlt
        rw [← hnE] at h1 h2
        refine ⟨?_, h1, h2⟩
        have h3 := HPre.out
        rw [pcs_cons hlt, ← hnE] at h3
        rw [← h3]
        simp
      have HC : Hid (wr.cell? ⟨Bb, 0, none⟩ = some (.slice ad len cap) ∧ wr.cell? ⟨Ba, 0, none⟩ = some (.int .i64 (a : Int))) := ⟨cB, cA⟩
      obtain ⟨fn, tmps, assign, body, hy, hR⟩ := HY.out _ (k, n) wr ⟨HNE.out.2.1, HNE.out.2.2, hpl⟩ hJk
      simp only [pcenc] at hy
      have e3 : ((k : Int) + (n : Int)).toNat - k = n := by omega
      have e4 : IntKind.i64.wrap ((k : Int) + (n : Int)) = (k : Int) + (n : Int) := IntWalk.i64_in _ (by have := HNE.out.2.2; omega)
      have g1 : k + n ≤ len := HNE.out.2.2
      have g2 : ¬ cap = k := by omega
      unfold pcn at hnE
      by_cases hmin : len - k ≤ 64 - (a + k) % 64
      · have hn1 : n = len - k := by omega
        have e2 : IntKind.i64.wrap ((len : Int) - (k : Int)) = (n : Int) := by rw [IntWalk.i64_in _ (by omega)]; omega
        have e5 : (n : Int) ≤ 64 - ((a : Int) + (k : Int)) % 64 := by omega
        have e6 : min (n : Int) (64 - ((a : Int) + (k : Int)) % 64) = (n : Int) := by omega
        clear hnE hn1 hmin HPre
        gi_wp2
        refine hR.mono ?_
        rintro e W3 (⟨rfl, hJ3, hk3⟩ | ⟨rfl, hJx3⟩)
        · gi_wp2
          go_roundw
          case rel => exact ⟨k + n, pre ++ [(k, n)], HNE.out.2.2, by have := HNE.out.2.1; simp; omega, by go_num, HNE.out.1, hk3 _ _ HN.out.1.1 HN.out.1.2 HC.out.1, hk3 _ _ HN.out.2.1 HN.out.2.2 HC.out.2, hJ3⟩
          case measure => have := HNE.out.2.1; simp [intOf]; omega
        · gi_wp2
          refine bodyPost_ret (results_none rfl _ _ _) rfl ?_
          exact ⟨⟨_, rfl⟩, .inr ⟨_, trivial, hJx3⟩⟩
      · have hn1 : n = 64 - (a + k) % 64 := by omega
        have e2 : IntKind.i64.wrap ((len : Int) - (k : Int)) = ((len - k : Nat) : Int) := by rw [IntWalk.i64_in _ (by omega)]; omega
        have e5 : 64 - ((a : Int) + (k : Int)) % 64 = (n : Int) := by omega
        have e6 : n < len - k := by omega
        have e7 : ¬ ((len - k : Nat) : Int) ≤ (n : Int) := by omega
        clear hnE hn1 hmin HPre
        gi_wp2
        refine hR.mono ?_
        rintro e W3 (⟨rfl, hJ3, hk3⟩ | ⟨rfl, hJx3⟩)
        · gi_wp2
          go_roundw
          case rel => exact ⟨k + n, pre ++ [(k, n)], HNE.out.2.2, by have := HNE.out.2.1; simp; omega, by go_num, HNE.out.1, hk3 _ _ HN.out.1.1 HN.out.1.2 HC.out.1, hk3 _ _ HN.out.2.1 HN.out.2.2 HC.out.2, hJ3⟩
          case measure => have := HNE.out.2.1; simp [intOf]; omega
        · gi_wp2
          refine bodyPost_ret (results_none rfl _ _ _) rfl ?_
          exact ⟨⟨_, rfl⟩, .inr ⟨_, trivial, hJx3⟩⟩
    · have hlt' : ¬ (k : Int) < (len : Int) := by omega
      obtain rfl : k = len := by omega
      gi_wp2
      go_end0
      have hp := HPre.out
      rw [pcs_nil (by omega), List.append_nil] at hp
      exact ⟨⟨_, rfl⟩, .inl (by first | exact ⟨_, hp, hJk⟩ | exact hp ▸ hJk)⟩
end Go.Proofs.Ytljhhdpeakencaa
end
section
set_option linter.unusedSimpArgs false
set_option linter.unusedVariables false
namespace Go.Proofs.Ytljhhdpeakencaa
open Go.RowKit Go.Shelf
attribute [local go_sem] Oper.semAt_some

/-! unsynced, as a sequence. -/
def gl (D : Ds) (n : Nat) : List (Nat × Ch) := (List.range n).flatMap fun f => (D.chs f).map fun c => (f, c)
theorem gl_succ (D : Ds) (n : Nat) : gl D (n + 1) = gl D n ++ (D.chs n).map fun c => (n, c) := by simp [gl, List.range_succ, List.flatMap_append]
/-- A whole struct loaded, in a fence. -/
theorem wpListIn_load_mid9 {F : Fence} {n : Nat} {P : Program} {ops : Array Oper} {rest : List Oper} {op : Oper} {a : Act} {w : World} {Q : Exit → Act → World → Prop} (hgd : op.guard = none) (ty : TypeId) (x : Operand) (ho : op.op = .load ty x)
    (b o : Nat) (hx : a.eval x = .pointer (some ⟨b, o, none⟩)) (cs : List Value) (d : TypeDesc) (hc : w.rangeAt b o cs)
    (hu : P.underlying ty = some d) (hd : d.isRow = true) (hi : (P.info? ty).map (·.size) = some cs.length)
    (h : wpListIn F n P ops Q rest (a.put op.dst (.agg cs.toArray)) w) : wpListIn F n P ops Q (op :: rest) a w := by
  refine wpListIn_plain hgd fun K hK' => ?_
  unfold Oper.wpIn
  refine ⟨?_, ?_⟩
  · simp [Oper.about, ho]
  · rw [Oper.semAt_plain F _ _ (by rw [ho]; intro c hc'; cases hc')]
    unfold execOp
    simp only [ho, hx, Instr.loadAt, Instr.sureAddr, Sem.run_bind, Sem.run_pure, Result.andThen_ok, run_loadVar_mid w b o ty cs d hc hu hd hi]
    exact hK' _ _ h
/-- What a round keeps: what is owned. -/
def KpO (O : Nat → Nat) (A B : World) : Prop := ∀ b o, O b ≠ 0 → A.heap[b]? = some o → o.isCells = true → B.heap[b]? = some o
theorem KpO.trans {O : Nat → Nat} (A B C : World) (h : KpO O A B) (k : KpO O B C) : KpO O A C := fun b o h1 h2 h3 => k b o h1 (h b o h1 h2 h3) h3
theorem kpo_put {O : Nat → Nat} (W : World) (l : Nat) (x x' : Obj) (h : W.heap[l]? = some x) (hc : x.isCells = false) : KpO O W (W.putObj l x') := fun b o _ hb ho => by
  by_cases e : b = l
  · subst e; rw [h] at hb; simp at hb; subst hb; rw [hc] at ho; cases ho
  · exact (World.putObj_heap_other e).trans hb
theorem KpO.of_below {O : Nat → Nat} {A B : World} (h : Below A.heap.size A B) : KpO O A B := fun b o _ hb _ => (h.block b (Array.getElem?_eq_some_iff.1 hb).1).trans hb
theorem DK.kpo {A B : World} {O : Nat → Nat} {d : Nat} {D : Ds} {nv sv cv : Nat → Value} (h : DK A O d D nv sv cv) (hk : KpO O A B) : DK B O d D nv sv cv := by
  have e : ∀ b, O b ≠ 0 → B.heap[b]? = A.heap[b]? := fun b hb => by
    obtain ⟨o, h1, h2⟩ := h.cel b hb
    rw [h1]; exact hk b o hb h1 h2
  exact ⟨(e d (by rw [h.td]; omega)).trans h.blk, fun i hi => (h.now i hi).same fun b e' => e b (by rw [h.tn i hi b e']; omega), fun i hi => (h.safe i hi).same fun b e' => e b (by rw [h.ts i hi b e']; omega),
   fun i hi => (h.chs i hi).same (fun b e' => e b (by rw [h.tc i hi b e']; omega)) (fun b e' _ => ⟨e b (by rw [e']; omega), e'⟩), h.tn, h.ts, h.tc, h.td, fun b hb => by rw [e b hb]; exact h.cel b hb, h.bO, h.bF⟩
abbrev Un := Nat × Ch × Value
def unenc (x : Un) : Array Value := #[.int .i64 (x.1 : Int), .agg (chc x.2.1 x.2.2)]
def unp (x : Un) : Nat × Ch := (x.1, x.2.1)
abbrev dk24 (nv sv cv : Nat → Value) : Array Value := #[nv 0, sv 0, cv 0, nv 1, sv 1, cv 1, nv 2, sv 2, cv 2, nv 3, sv 3, cv 3, nv 4, sv 4, cv 4, nv 5, sv 5, cv 5, nv 6, sv 6, cv 6, nv 7, sv 7, cv 7]
theorem info68 : (Try.prog.info? 96).map (·.size) = some 24 := by kernel_rfl
theorem dk_range {w : World} {O : Nat → Nat} {d : Nat} {D : Ds} {nv sv cv : Nat → Value} (h : DK w O d D nv sv cv) : w.rangeAt d 0 (dk24 nv sv cv).toList := fun j x hx => by
  have hj : j < 24 := (List.getElem?_eq_some_iff.1 hx).1
  rw [Nat.zero_add, h.blk.cell]
  have e : (dkc nv sv cv D.off D.tO D.tF)[j]? = (dk24 nv sv cv).toList[j]? := by
    have e2 : (dkc nv sv cv D.off D.tO D.tF).toList = (dk24 nv sv cv).toList ++ [.bool D.off, .int .i64 (D.tO : Int), .int .i64 (D.tF : Int)] := rfl
    rw [← Array.getElem?_toList, e2, List.getElem?_append_left (by show j < 24; exact hj)]
  rw [e]; exact hx
set_option maxRecDepth 100000 in
theorem dk_index (nv sv cv : Nat → Value) (i : Nat) (hi : i < 8) (w : World) : (Instr.index 96 (.agg (dk24 nv sv cv)) (.int .i64 (i : Int))).run Try.prog w = .ok (.agg #[nv i, sv i, cv i]) w := by
  rcases lt8 hi with rfl | rfl | rfl | rfl | rfl | rfl | rfl | rfl <;> (go_simp; rfl)
end Go.Proofs.Ytljhhdpeakencaa
end
section
set_option linter.unusedSimpArgs false
set_option linter.unusedVariables false
namespace Go.Proofs.Ytljhhdpeakencaa
open Go.RowKit Go.Shelf
attribute [local go_sem] Oper.semAt_some

def UnG (O : Nat → Nat) (D : Ds) (pre : List Un) (x : Un) (A : World) : Prop := x.1 < 8 ∧ Ow A 0 x.2.2 x.2.1.bs ∧ (∀ b, x.2.2.ownBlock = some b → O b = 25) ∧ x.2.1 ∈ D.chs x.1 ∧ ∃ rest, gl D 8 = pre.map unp ++ unp x :: rest
theorem gl_at (D : Ds) (n j : Nat) (hn : n < 8) (hj : j < (D.chs n).length) (pre : List Un) (hp : pre.map unp = gl D n ++ ((D.chs n).take j).map fun c => (n, c)) (bv : Value) : ∃ rest, gl D 8 = pre.map unp ++ unp (n, (D.chs n)[j], bv) :: rest := by
  have h8 : ∀ m, m ≤ 8 → ∃ r, gl D 8 = gl D m ++ r := by
    intro m hm
    obtain ⟨t, ht⟩ : ∃ t, 8 = m + t := ⟨8 - m, by omega⟩
    rw [ht]
    refine ⟨((List.range t).map (m + ·)).flatMap fun f => (D.chs f).map fun c => (f, c), ?_⟩
    unfold gl
    rw [List.range_add, List.flatMap_append]
  obtain ⟨r, hr⟩ := h8 (n + 1) (by omega)
  refine ⟨((D.chs n).drop (j + 1)).map (fun c => (n, c)) ++ r, ?_⟩
  rw [hr, gl_succ, hp]
  have e : D.chs n = (D.chs n).take j ++ (D.chs n)[j] :: (D.chs n).drop (j + 1) := by rw [List.getElem_cons_drop, List.take_append_drop]
  have e2 : (D.chs n).map (fun c => (n, c)) = ((D.chs n).take j).map (fun c => (n, c)) ++ (n, (D.chs n)[j]) :: ((D.chs n).drop (j + 1)).map (fun c => (n, c)) := by
    conv => lhs; rw [e]
    simp only [List.map_append, List.map_cons]
  rw [e2]
  simp [unp, List.append_assoc]
set_option maxRecDepth 100000 in
set_option maxHeartbeats 8000000 in
theorem unsynced_seq (m d Bx : Nat) (O : Nat → Nat) (D : Ds) (nv sv cv : Nat → Value) (hm : 1 ≤ m) (w : World) (h : DK w O d D nv sv cv) (hl : ∀ i, i < 8 → (D.chs i).length ≤ 1099511627776) (cB : w.cell? ⟨Bx, 0, none⟩ = some (.pointer (some ⟨d, 0, none⟩))) :
    SeqA Fence.wide m Try.prog 94 #[.pointer (some ⟨Bx, 0, none⟩)] unenc (KpO O) (fun _ pre x A => UnG O D pre x A) (fun xs => xs.map unp = gl D 8) (fun _ => True) w := by
  intro l J Jx W hbW hJ hJx hY h0
  have cB := (hbW.cell (cell_lt9 cB)).trans cB
  have hD := h.below hbW
  have HD : Hid (DK W O d D nv sv cv) := hD
  have HY : Hid (∀ pre x A0 A, UnG O D pre x A → J pre A0 → Below A0.heap.size A0 A → YieldAt Fence.wide (m - 1) Try.prog l (unenc x) A fun e B => (e = .returned (.bool true) ∧ J (pre ++ [x]) B ∧ KpO O A B) ∨ (e = .returned (.bool false) ∧ Jx (pre ++ [x]) B)) := fun pre x A0 A hg hA hb => hY pre x A0 A hA hb hg
  have HL : Hid (∀ i, i < 8 → (D.chs i).length ≤ 1099511627776) := hl
  have HJ : Hid (∀ s A B, J s A → Below A.heap.size A B → J s B) := hJ
  clear hY hJ hJx hbW h hl
  show CallsIn Fence.wide m Try.prog 94 #[.func (.yield l) #[] #[], .pointer (some ⟨Bx, 0, none⟩)] W _
  refine callsIn_of_wp Try.func94 rfl trivial ?_ rfl
  simp only [Try.ntmps94, List.size_toArray, List.length_cons, List.length_nil, Nat.reduceAdd, Nat.reduceSub, Array.replicate_succ, Array.replicate_zero, List.push_toArray, List.append_toArray, List.nil_append, List.cons_append]
  have ld := hD.blk.lt
  gi_wp2_with (refine wpListIn_load_mid9 rfl 96 _ rfl d 0 rfl (dk24 nv sv cv).toList _ (dk_range HD.out) Try.underlying96 rfl info68 ?_)
  gi_loopw [11] (fun i wr => ∃ (n : Nat) (pre : List Un), n ≤ 8 ∧ i = .int .i64 (n : Int) ∧ pre.map unp = gl D n ∧ DK wr O d D nv sv cv ∧ J pre wr) (fun i _ => 8 - (intOf i).toNat)
  case atStart => exact ⟨0, [], by omega, rfl, rfl, HD.out, h0⟩
  case round =>
    clear cB hD ld h0 HD
    obtain ⟨n, pre, hn, rfl, hpre, hD, hJn⟩ := hrel
    have HD : Hid (DK wr O d D nv sv cv) := hD
    have HPre : Hid (pre.map unp = gl D n) := hpre
    have HJn : Hid (J pre wr) := hJn
    by_cases hlt : n < 8
    · have hlt' : (n : Int) < 8 := by omega
      have hix := dk_index nv sv cv n hlt
      have HIx : Hid _ := hix
      obtain ⟨ac, lc, capc, ecv⟩ : ∃ ac lc capc, cv n = .slice ac lc capc := by
        obtain ⟨ps, _, h2, _⟩ := hD.chs n hlt
        exact ownsRow_sl h2
      have hlc : lc = (D.chs n).length := by
        obtain ⟨ps, h1, h2, _⟩ := hD.chs n hlt
        rw [ecv] at h2
        rcases h2.2 with ⟨e, hz⟩ | ⟨g, cap, cur, e, _⟩
        · simp at e; rw [← h1, List.length_map]; omega
        · simp at e; rw [← h1, List.length_map]; omega
      have hnv : (nv n).oneCell' = true := by obtain ⟨_, _, _, e⟩ := ownsRow_sl (hD.now n hlt); rw [e]; rfl
      have hsv : (sv n).oneCell' = true := by obtain ⟨_, _, _, e⟩ := ownsRow_sl (hD.safe n hlt); rw [e]; rfl
      have hlc2 : lc ≤ 1099511627776 := by rw [hlc]; exact HL.out n hlt
      have Hecv : Hid (cv n = .slice ac lc capc ∧ lc = (D.chs n).length) := ⟨ecv, hlc⟩
      obtain ⟨an, ln, cn, env⟩ := ownsRow_sl (hD.now n hlt)
      obtain ⟨as9, ls9, cs9, esv⟩ := ownsRow_sl (hD.safe n hlt)
      rw [ecv, env, esv] at hix
      clear hD hpre hJn hlc HIx hnv hsv ecv env esv
      gi_wp2
      obtain ⟨W1, hW1⟩ : ∃ W1, W1 = wr.alloc (.cells #[.slice an ln cn, .slice as9 ls9 cs9, .slice ac lc capc] 95) := ⟨_, rfl⟩
      have hb1 : Below wr.heap.size wr W1 := by rw [hW1]; exact (Below.refl _ _).alloc (Nat.le_refl _) _
      rw [← hW1]
      have hD1 := HD.out.below hb1
      have hJ1 := HJ.out _ _ _ HJn.out hb1
      clear hW1 hb1 hix HD HJn
      gi_loopw [18] (fun i wq => ∃ (j : Nat) (pre' : List Un), j ≤ lc ∧ i = .int .i64 (j : Int) ∧ pre'.map unp = gl D n ++ ((D.chs n).take j).map (fun c => (n, c)) ∧ DK wq O d D nv sv cv ∧ J pre' wq) (fun i _ => lc - (intOf i).toNat)
      case atStart => exact ⟨0, pre, by omega, rfl, by rw [HPre.out]; simp, hD1, hJ1⟩
      case round =>
        clear hD1 hJ1
        obtain ⟨j, pre', hj, rfl, hpre', hDq, hJq⟩ := hrel
        have HPre' : Hid (pre'.map unp = gl D n ++ ((D.chs n).take j).map (fun c => (n, c))) := hpre'
        have HDq : Hid (DK wr O d D nv sv cv) := hDq
        have HJq : Hid (J pre' wr) := hJq
        by_cases hlj : j < lc
        · have hlj' : (j : Int) < (lc : Int) := by omega
          have hjc : j < (D.chs n).length := by have := Hecv.out.2; omega
          obtain ⟨g, cap, bv, e1, k0, k1, k2, hbv, htag⟩ := (hDq.chs n hlt).at j hjc
          rw [Hecv.out.1] at e1
          simp at e1
          obtain ⟨rfl, e2, rfl⟩ := e1
          have hG := gl_at D n j hlt hjc pre' hpre' bv
          have hnext : (pre' ++ [((n, (D.chs n)[j], bv) : Un)]).map unp = gl D n ++ ((D.chs n).take (j + 1)).map (fun c => (n, c)) := by
            rw [List.map_append, hpre', List.take_succ_eq_append_getElem hjc]
            simp only [unp, List.map_append, List.map_cons, List.map_nil, List.append_assoc]
          obtain ⟨c, hcc⟩ : ∃ c, c = (D.chs n)[j] := ⟨_, rfl⟩
          have hmem : c ∈ D.chs n := by rw [hcc]; exact List.getElem_mem hjc
          rw [← hcc] at hG hnext hbv k0 k1
          have HN : Hid ((pre' ++ [((n, c, bv) : Un)]).map unp = gl D n ++ ((D.chs n).take (j + 1)).map (fun c => (n, c))) := hnext
          obtain ⟨ad0, n0, cap0, rfl⟩ := ownsRow_sl hbv
          have HGd : Hid (∀ A, Below wr.heap.size wr A → UnG O D pre' (n, c, .slice ad0 n0 cap0) A) := fun A hA => ⟨hlt, hbv.below hA hbv.lt, htag, hmem, hG⟩
          clear hDq hJq hpre' hbv htag hG hnext hmem hcc e2
          obtain ⟨fn, tmps, assign, body, hy, hR⟩ := HY.out pre' (n, c, .slice ad0 n0 cap0) wr (wr.alloc (.cells #[.bool c.cut, .int .i64 (c.pos : Int), .slice ad0 n0 cap0] 109)) (HGd.out _ ((Below.refl _ _).alloc (Nat.le_refl _) _)) HJq.out ((Below.refl _ _).alloc (Nat.le_refl _) _)
          simp only [unenc] at hy
          have HDa : Hid (DK (wr.alloc (.cells #[.bool c.cut, .int .i64 (c.pos : Int), .slice ad0 n0 cap0] 109)) O d D nv sv cv) := HDq.out.below ((Below.refl _ _).alloc (Nat.le_refl _) _)
          gi_wp2
          refine hR.mono ?_
          rintro e W3 (⟨rfl, hJ3, hk3⟩ | ⟨rfl, hJx3⟩)
          · gi_wp2
            go_roundw
            case rel => exact ⟨j + 1, pre' ++ [(n, c, .slice ad0 n0 cap0)], by omega, by go_num, HN.out, HDa.out.kpo hk3, hJ3⟩
            case measure => simp [intOf]; omega
          · gi_wp2
            refine bodyPost_ret (results_none rfl _ _ _) rfl ?_
            exact ⟨⟨_, rfl⟩, .inr ⟨_, trivial, hJx3⟩⟩
        · have hlj' : ¬ (j : Int) < (lc : Int) := by omega
          obtain rfl : j = lc := by omega
          have hpe : pre'.map unp = gl D (n + 1) := by
            rw [HPre'.out, gl_succ, Hecv.out.2, List.take_length]
          have HPe : Hid (pre'.map unp = gl D (n + 1)) := hpe
          clear hDq hJq hpre' hpe
          gi_wp2
          go_roundw
          case rel => exact ⟨n + 1, pre', by omega, by go_num, HPe.out, HDq.out, HJq.out⟩
          case measure => simp [intOf]; omega
    · have hlt' : ¬ (n : Int) < 8 := by omega
      obtain rfl : n = 8 := by omega
      clear hD hpre hJn
      gi_wp2
      go_end0
      exact ⟨⟨_, rfl⟩, .inl ⟨pre, HPre.out, HJn.out⟩⟩
end Go.Proofs.Ytljhhdpeakencaa
end
section
set_option linter.unusedSimpArgs false
set_option linter.unusedVariables false
namespace Go.Proofs.Ytljhhdpeakencaa
open Go.RowKit

/-! Crash: what is kept; rows of one's own, and picks. -/
def stp (r : Nat → List UInt8) (x : Nat × Ch) (p : Int) : Nat → List UInt8 := match kpt x.2 p with
  | none => r
  | some c => upd r x.1 (ovr c (r x.1))
def crL (r : Nat → List UInt8) (xs : List (Nat × Ch)) (ps : List Int) : Nat → List UInt8 := (xs.zip ps).foldl (fun r z => stp r z.1 z.2) r
theorem crL_nil (r : Nat → List UInt8) (ps : List Int) : crL r [] ps = r := rfl
theorem zip_snoc {α β : Type} (xs : List α) (x : α) (ps : List β) (h : xs.length < ps.length) : (xs ++ [x]).zip ps = xs.zip ps ++ [(x, ps[xs.length])] := by
  induction xs generalizing ps with
  | nil =>
    cases ps with
    | nil => simp at h
    | cons p ps => simp
  | cons y ys ih =>
    cases ps with
    | nil => simp at h
    | cons p ps =>
      simp only [List.cons_append, List.zip_cons_cons, List.length_cons, List.getElem_cons_succ]
      rw [ih ps (by simpa using h)]
theorem zip_over {α β : Type} (xs ys : List α) (ps : List β) (h : ps.length ≤ xs.length) : (xs ++ ys).zip ps = xs.zip ps := by
  induction xs generalizing ps with
  | nil =>
    cases ps with
    | nil => simp
    | cons p ps => simp at h
  | cons y xs ih =>
    cases ps with
    | nil => simp
    | cons p ps =>
      simp only [List.cons_append, List.zip_cons_cons]
      rw [ih ps (by simpa using h)]
theorem crL_snoc (r : Nat → List UInt8) (xs : List (Nat × Ch)) (x : Nat × Ch) (ps : List Int) (h : xs.length < ps.length) : crL r (xs ++ [x]) ps = stp (crL r xs ps) x ps[xs.length] := by
  unfold crL
  rw [zip_snoc _ _ _ h, List.foldl_append]
  rfl
theorem crL_over (r : Nat → List UInt8) (xs ys : List (Nat × Ch)) (ps : List Int) (h : ps.length ≤ xs.length) : crL r (xs ++ ys) ps = crL r xs ps := by unfold crL; rw [zip_over _ _ _ h]
/-- What a crash keeps of each file. -/
def crash (D : Ds) (ps : List Int) : Nat → List UInt8 := crL D.safe (gl D 8) ps
/-- Whole numbers that are read. -/
def Rp (w : World) (v : Value) (ps : List Int) : Prop :=
  ∃ ad cap, v = .slice ad ps.length cap ∧ ps.length ≤ cap ∧ ps.length ≤ 9223372036854775807 ∧ (∀ p ∈ ps, -9223372036854775808 ≤ p ∧ p ≤ 9223372036854775807) ∧ ∀ i (h : i < ps.length), ∃ b off, ad = some ⟨b, off, none⟩ ∧ w.cell? ⟨b, off + i, none⟩ = some (.int .i64 ps[i])
theorem Rp.cells {w w' : World} {v : Value} {ps : List Int} (h : Rp w v ps) (hk : ∀ a u, w.cell? a = some u → (∃ n c, v = .slice (some ⟨a.block, n, none⟩) ps.length c) → w'.cell? a = some u) : Rp w' v ps := by
  obtain ⟨ad, cap, rfl, hle, hm, hr, hc⟩ := h
  refine ⟨ad, cap, rfl, hle, hm, hr, fun i hi => ?_⟩
  obtain ⟨b, off, rfl, hx⟩ := hc i hi
  exact ⟨b, off, rfl, hk _ _ hx ⟨off, cap, rfl⟩⟩
theorem Rp.below {w w' : World} {v : Value} {ps : List Int} (h : Rp w v ps) (hb : Below w.heap.size w w') : Rp w' v ps :=
  h.cells fun a u hc _ => (hb.cell (World.block_lt_of_cell? w a hc)).trans hc
theorem Rp.fp {O O' : Nat → Nat} {w w' : World} {v : Value} {ps : List Int} (h : Rp w v ps) (hf : Fp O w O' w') (hO : ∀ b n c, v = .slice (some ⟨b, n, none⟩) ps.length c → O b = 0) : Rp w' v ps :=
  h.cells fun a u hc ⟨n, c, e⟩ => hf.cell hc (hO _ _ _ e)
abbrev r8 (rv : Nat → Value) : Array Value := #[rv 0, rv 1, rv 2, rv 3, rv 4, rv 5, rv 6, rv 7]
theorem r8_at (rv : Nat → Value) {i : Nat} (h : i < 8) : (r8 rv)[i]? = some (rv i) := by rcases lt8 h with rfl | rfl | rfl | rfl | rfl | rfl | rfl | rfl <;> rfl
theorem r8_set (rv : Nat → Value) {i : Nat} (h : i < 8) (v : Value) : (r8 rv).setIfInBounds i v = r8 (upd rv i v) := by rcases lt8 h with rfl | rfl | rfl | rfl | rfl | rfl | rfl | rfl <;> rfl
/-- Eight rows of one's own, in a block of their own; and the picks that are left, in a box. -/
structure RW (W : World) (T : Nat → Nat) (rb pb : Nat) (rv : Nat → Value) (pv : Value) (r : Nat → List UInt8) : Prop where
  blk : Bk W rb (r8 rv) 37
  box : Bk W pb #[pv] 38
  ow : ∀ i, i < 8 → Ow W 0 (rv i) (r i)
  tg : ∀ i, i < 8 → ∀ b, (rv i).ownBlock = some b → T b = i + 1
  tb : T rb = 9
  tp : T pb = 10
  cel : ∀ b, T b ≠ 0 → ∃ o, W.heap[b]? = some o ∧ o.isCells = true
theorem RW.lt {W : World} {T : Nat → Nat} {rb pb : Nat} {rv : Nat → Value} {pv : Value} {r : Nat → List UInt8} (h : RW W T rb pb rv pv r) : ∀ b, T b ≠ 0 → b < W.heap.size := fun b hb => by
  obtain ⟨o, e, _⟩ := h.cel b hb
  exact (Array.getElem?_eq_some_iff.1 e).1
theorem RW.frame {W W' : World} {T : Nat → Nat} {rb pb : Nat} {rv : Nat → Value} {pv : Value} {r : Nat → List UInt8} (h : RW W T rb pb rv pv r) (hk : ∀ b, T b ≠ 0 → W'.heap[b]? = W.heap[b]?) : RW W' T rb pb rv pv r :=
  ⟨(hk rb (by rw [h.tb]; omega)).trans h.blk, (hk pb (by rw [h.tp]; omega)).trans h.box, fun i hi => (h.ow i hi).same fun b e => hk b (by rw [h.tg i hi b e]; omega), h.tg, h.tb, h.tp, fun b hb => by rw [hk b hb]; exact h.cel b hb⟩
theorem RW.below {W W' : World} {T : Nat → Nat} {rb pb : Nat} {rv : Nat → Value} {pv : Value} {r : Nat → List UInt8} (h : RW W T rb pb rv pv r) (hb : Below W.heap.size W W') : RW W' T rb pb rv pv r :=
  h.frame fun b hn => hb.block b (h.lt b hn)
theorem RW.put {W : World} {T : Nat → Nat} {rb pb : Nat} {rv : Nat → Value} {pv : Value} {r : Nat → List UInt8} (h : RW W T rb pb rv pv r) {l : Nat} {o o' : Obj} (hl : W.heap[l]? = some o) (ho : o.isCells = false) : RW (W.putObj l o') T rb pb rv pv r :=
  h.frame fun b hb => World.putObj_heap_other (fun e => by
    obtain ⟨x, e1, e2⟩ := h.cel b hb
    rw [e, hl] at e1
    simp at e1
    subst e1
    rw [ho] at e2
    cases e2)
/-- The picks moved on. -/
theorem RW.pick {W : World} {T : Nat → Nat} {rb pb : Nat} {rv : Nat → Value} {pv : Value} {r : Nat → List UInt8} (h : RW W T rb pb rv pv r) (pv' : Value) : RW (W.setCell ⟨pb, 0, none⟩ pv') T rb pb rv pv' r ∧ Fp T W T (W.setCell ⟨pb, 0, none⟩ pv') := by
  have ht := Turn.set h.box 0 pv'
  have ne : ∀ b, T b ≠ 10 → (W.setCell ⟨pb, 0, none⟩ pv').heap[b]? = W.heap[b]? := fun b hb => ht.other b (fun e => hb (e ▸ h.tp))
  refine ⟨⟨(ne rb (by rw [h.tb]; omega)).trans h.blk, ht.blk, fun i hi => (h.ow i hi).same fun b e => ne b (by rw [h.tg i hi b e]; omega), h.tg, h.tb, h.tp, fun b hb => ?_⟩, Fp.of_turn ht h.box (by rw [h.tp]; omega)⟩
  by_cases e : b = pb
  · subst e; exact ⟨_, ht.blk, rfl⟩
  · rw [ht.other b e]; exact h.cel b hb
/-- A row changed. -/
theorem RW.step {w w' : World} {T : Nat → Nat} {rb pb i : Nat} {rv : Nat → Value} {pv : Value} {r : Nat → List UInt8} (h : RW w T rb pb rv pv r) (hi : i < 8) {v : Value} {l : List UInt8}
    (hos : w'.os = w.os) (htp : w'.tape = w.tape) (hout : w'.output = w.output) (hsz : w.heap.size ≤ w'.heap.size) (hblk : Bk w' rb (r8 (upd rv i v)) 37) (hn : Ow w' 0 v l) (sn : Sn w (rv i) v)
    (hk : ∀ k, k < w.heap.size → k ≠ rb → some k ≠ (rv i).ownBlock → w'.heap[k]? = w.heap[k]?) :
    ∃ T', RW w' T' rb pb (upd rv i v) pv (upd r i l) ∧ Fp T w T' w' := by
  have ne : ∀ b, b < w.heap.size → T b ≠ 9 → T b ≠ i + 1 → w'.heap[b]? = w.heap[b]? := fun b hb h1 h2 => hk b hb (fun e => h1 (e ▸ h.tb)) (fun e => h2 (h.tg i hi b e.symm))
  obtain ⟨T', hT⟩ : ∃ T' : Nat → Nat, T' = fun b => if b < w.heap.size then (if some b = (rv i).ownBlock ∧ v.ownBlock ≠ some b then 0 else T b) else if v.ownBlock = some b then i + 1 else 0 := ⟨_, rfl⟩
  have o0 : ∀ b, b < w.heap.size → ¬ (some b = (rv i).ownBlock ∧ v.ownBlock ≠ some b) → T' b = T b := fun b hb hn => by rw [hT]; simp only []; rw [if_pos hb, if_neg hn]
  have o1 : ∀ b, b < w.heap.size → T b ≠ i + 1 → T' b = T b := fun b hb h1 => o0 b hb (fun h3 => h1 (h.tg i hi b h3.1.symm))
  have o2 : ∀ b, T b ≠ 0 → T b ≠ i + 1 → T' b = T b := fun b hb => o1 b (h.lt b hb)
  have htb := h.tb
  have htp' := h.tp
  refine ⟨T', ⟨hblk, (ne pb (h.lt pb (by omega)) (by omega) (by omega)).trans h.box, fun j hj => ?_, fun j hj b e => ?_, by rw [o2 rb (by omega) (by omega)]; exact htb, by rw [o2 pb (by omega) (by omega)]; exact htp', fun b hb => ?_⟩, ⟨hos, htp, hout, hsz, fun b hb ho => by rw [o1 b hb (by omega)]; exact ho, fun b hb ho => ne b hb (by omega) (by omega), fun k o h1 h2 => ?_⟩⟩
  · by_cases e : j = i
    · subst e; simp only [upd_same]; exact hn
    · simp only [upd_other _ _ e]
      refine (h.ow j hj).same fun b e' => ?_
      have ht := h.tg j hj b e'
      exact ne b (h.lt b (by omega)) (by omega) (by omega)
  · by_cases e' : j = i
    · subst e'
      simp only [upd_same] at e
      rcases sn with h1 | h1
      · have ht := h.tg j hj b (h1 ▸ e)
        rw [o0 b (h.lt b (by omega)) (fun h3 => h3.2 e)]
        exact ht
      · rw [hT]; simp only []; rw [if_neg (by have := h1 b e; omega), if_pos e]
    · simp only [upd_other _ _ e'] at e
      have ht := h.tg j hj b e
      rw [o2 b (by omega) (by omega)]; exact ht
  · rw [hT] at hb
    simp only [] at hb
    by_cases e : b < w.heap.size
    · rw [if_pos e] at hb
      by_cases e1 : v.ownBlock = some b
      · obtain ⟨c, e2⟩ := hn.bytes b e1; exact ⟨_, e2, rfl⟩
      · by_cases e3 : some b = (rv i).ownBlock ∧ v.ownBlock ≠ some b
        · rw [if_pos e3] at hb; exact absurd rfl hb
        · rw [if_neg e3] at hb
          by_cases e4 : b = rb
          · subst e4; exact ⟨_, hblk, rfl⟩
          · rw [hk b e e4 (fun e5 => e3 ⟨e5, e1⟩)]
            exact h.cel b hb
    · rw [if_neg e] at hb
      by_cases e1 : v.ownBlock = some b
      · obtain ⟨c, e2⟩ := hn.bytes b e1; exact ⟨_, e2, rfl⟩
      · rw [if_neg e1] at hb; exact absurd rfl hb
  · have hkl : k < w.heap.size := (Array.getElem?_eq_some_iff.1 h1).1
    have nc : ∀ c t, w.heap[k]? ≠ some (.cells c t) := fun c t e => by rw [e] at h1; simp at h1; subst h1; simp [Obj.isCells] at h2
    rw [← h1]
    refine hk k hkl (fun e => ?_) (fun e => ?_)
    · subst e; exact nc _ _ h.blk
    · obtain ⟨c, e2⟩ := (h.ow i hi).bytes k e.symm; exact nc _ _ e2
end Go.Proofs.Ytljhhdpeakencaa
end
section
set_option linter.unusedSimpArgs false
set_option linter.unusedVariables false
namespace Go.Proofs.Ytljhhdpeakencaa
open Go.RowKit

/-! The page's disk, and how it lies in memory. -/
def PCv (w : World) (O : Nat → Nat) (v : Value) (l : List Ch) : Prop :=
  ∃ ps : List (Ch × Value), ps.map Prod.fst = l ∧ w.ownsRow 0 112 3 v ps.length (ps.flatMap ccells) ∧ ∀ p ∈ ps, Ow w 0 p.2 p.1.bs ∧ ∀ b, p.2.ownBlock = some b → O b = 5
theorem PCv.same {w w' : World} {O O' : Nat → Nat} {v : Value} {l : List Ch} (h : PCv w O v l) (hs : ∀ b, v.ownBlock = some b → w'.heap[b]? = w.heap[b]?) (hb : ∀ b, O b = 5 → b < w.heap.size → w'.heap[b]? = w.heap[b]? ∧ O' b = 5) : PCv w' O' v l := by
  obtain ⟨ps, h1, h2, h3⟩ := h
  exact ⟨ps, h1, ownsRow_same h2 hs, fun p hp => ⟨(h3 p hp).1.same fun b e => (hb b ((h3 p hp).2 b e) ((h3 p hp).1.lt b e)).1, fun b e => (hb b ((h3 p hp).2 b e) ((h3 p hp).1.lt b e)).2⟩⟩
theorem PCv.lt {w : World} {O : Nat → Nat} {v : Value} {l : List Ch} (h : PCv w O v l) : ∀ b, v.ownBlock = some b → b < w.heap.size := fun b hb => by
  obtain ⟨ps, h1, h2, h3⟩ := h
  exact (h2.lt b hb).2
theorem PCv.nil (w : World) (O : Nat → Nat) : PCv w O (.slice none 0 0) [] := ⟨[], rfl, World.ownsRow_nil w 0 _ 3, fun p hp => by cases hp⟩
abbrev l8 (f : Nat → Value) : List Value := [f 0, f 1, f 2, f 3, f 4, f 5, f 6, f 7]
theorem l8_at (f : Nat → Value) {i : Nat} (h : i < 8) : (l8 f)[i]? = some (f i) := by rcases lt8 h with rfl | rfl | rfl | rfl | rfl | rfl | rfl | rfl <;> rfl
theorem l8_set (f : Nat → Value) {i : Nat} (h : i < 8) (v : Value) : (l8 f).set i v = l8 (upd f i v) := by rcases lt8 h with rfl | rfl | rfl | rfl | rfl | rfl | rfl | rfl <;> rfl
/-- How far the page's numbers tell the same as the disk's. -/
structure PN (D : Ds) (left bad : Int) (armed off hurt : Bool) : Prop where
  off : off = D.off
  arm : D.off = false → armed = decide (D.tO ≠ 0) ∧ (D.tO ≠ 0 → left = D.tO)
  hur : D.off = false → hurt = decide (D.tF ≠ 0) ∧ (D.tF ≠ 0 → bad = D.tF)
abbrev pkc (LV SV NV : Value) (left bad : Int) (armed off hurt : Bool) : Array Value := #[LV, SV, NV, .int .i64 left, .int .i64 bad, .bool armed, .bool off, .bool hurt]
/-- Eight rows in a row of one's own. -/
structure R8 (w : World) (e : TypeId) (g : Nat) (c : Nat) (f : Nat → Value) : Prop where
  own : w.ownsRow 0 e 1 (.slice (some ⟨g, 0, none⟩) 8 c) 8 (l8 f)
theorem R8.cell {w : World} {e : TypeId} {g c : Nat} {f : Nat → Value} (h : R8 w e g c f) {i : Nat} (hi : i < 8) : w.cell? ⟨g, i, none⟩ = some (f i) := (World.ownsRow.cellAt h.own i (by omega)).trans (l8_at f hi)
theorem R8.frozen {w : World} {e : TypeId} {g c : Nat} {f : Nat → Value} (h : R8 w e g c f) (i : Nat) : w.frozen? ⟨g, i, none⟩ = false := World.ownsRow.frozenAt h.own i
theorem R8.blk {w : World} {e : TypeId} {g c : Nat} {f : Nat → Value} (h : R8 w e g c f) : ∃ cur, w.heap[g]? = some (.cells cur e) := by
  rcases h.own.2 with ⟨e0, _⟩ | ⟨g', c', cur, e1, _, hh, _⟩
  · simp at e0
  · simp at e1; obtain ⟨rfl, rfl⟩ := e1; exact ⟨cur, hh⟩
theorem R8.lt {w : World} {e : TypeId} {g c : Nat} {f : Nat → Value} (h : R8 w e g c f) : g < w.heap.size := by obtain ⟨cur, e⟩ := h.blk; exact (Array.getElem?_eq_some_iff.1 e).1
theorem R8.same {w w' : World} {e : TypeId} {g c : Nat} {f : Nat → Value} (h : R8 w e g c f) (hs : w'.heap[g]? = w.heap[g]?) : R8 w' e g c f := ⟨ownsRow_same h.own fun b hb => by simp [Value.ownBlock] at hb; subst hb; exact hs⟩
theorem R8.set {w : World} {e : TypeId} {g c : Nat} {f : Nat → Value} (h : R8 w e g c f) {i : Nat} (hi : i < 8) (v : Value) : R8 (w.setCell ⟨g, i, none⟩ v) e g c (upd f i v) := by
  refine ⟨?_⟩
  rcases h.own.2 with ⟨e0, _⟩ | ⟨g', c', cur, e1, hb, hh, h1, h2, h3, h4⟩
  · simp at e0
  · simp at e1
    obtain ⟨rfl, rfl⟩ := e1
    refine ⟨rfl, .inr ⟨g, c, cur.setIfInBounds i v, rfl, hb, ?_, h1, h2, by simpa using h3, ?_⟩⟩
    · simp [World.setCell, Array.getElem?_modify, hh]
    · rw [Array.toList_setIfInBounds, ← l8_set f hi v, ← h4, List.take_set]
/-- The page's disk at a block: owners: 1 the disk, 2, 3, 4 its rows, 5 all bytes, 10 + i the changes of file i. -/
structure PK (w : World) (O : Nat → Nat) (d : Nat) (D : Ds) (gl gs gn cl cs cn : Nat) (lv sv cv : Nat → Value) (left bad : Int) (armed off hurt : Bool) : Prop where
  blk : Bk w d (pkc (.slice (some ⟨gl, 0, none⟩) 8 cl) (.slice (some ⟨gs, 0, none⟩) 8 cs) (.slice (some ⟨gn, 0, none⟩) 8 cn) left bad armed off hurt) 101
  live : R8 w 37 gl cl lv
  safr : R8 w 37 gs cs sv
  new : R8 w 110 gn cn cv
  now : ∀ i, i < 8 → Ow w 0 (lv i) (D.now i) ∧ ∀ b, (lv i).ownBlock = some b → O b = 5
  safe : ∀ i, i < 8 → Ow w 0 (sv i) (D.safe i) ∧ ∀ b, (sv i).ownBlock = some b → O b = 5
  chs : ∀ i, i < 8 → PCv w O (cv i) (D.chs i)
  tc : ∀ i, i < 8 → ∀ b, (cv i).ownBlock = some b → O b = 10 + i
  t1 : O d = 1
  t2 : O gl = 2
  t3 : O gs = 3
  t4 : O gn = 4
  cel : ∀ b, O b ≠ 0 → ∃ o, w.heap[b]? = some o ∧ o.isCells = true
  pn : PN D left bad armed off hurt
section
variable {w w' : World} {O : Nat → Nat} {d : Nat} {D : Ds} {gl gs gn cl cs cn : Nat} {lv sv cv : Nat → Value} {left bad : Int} {armed off hurt : Bool}
theorem PK.lt (h : PK w O d D gl gs gn cl cs cn lv sv cv left bad armed off hurt) : ∀ b, O b ≠ 0 → b < w.heap.size := fun b hb => by
  obtain ⟨o, e, _⟩ := h.cel b hb
  exact (Array.getElem?_eq_some_iff.1 e).1
theorem PK.frame (h : PK w O d D gl gs gn cl cs cn lv sv cv left bad armed off hurt) (hk : ∀ b, O b ≠ 0 → w'.heap[b]? = w.heap[b]?) : PK w' O d D gl gs gn cl cs cn lv sv cv left bad armed off hurt :=
  ⟨(hk d (by rw [h.t1]; omega)).trans h.blk, h.live.same (hk _ (by rw [h.t2]; omega)), h.safr.same (hk _ (by rw [h.t3]; omega)), h.new.same (hk _ (by rw [h.t4]; omega)), fun i hi => ⟨(h.now i hi).1.same fun b e => hk b (by rw [(h.now i hi).2 b e]; omega), (h.now i hi).2⟩, fun i hi => ⟨(h.safe i hi).1.same fun b e => hk b (by rw [(h.safe i hi).2 b e]; omega), (h.safe i hi).2⟩,
   fun i hi => (h.chs i hi).same (fun b e => hk b (by rw [h.tc i hi b e]; omega)) (fun b e _ => ⟨hk b (by rw [e]; omega), e⟩), h.tc, h.t1, h.t2, h.t3, h.t4, fun b hb => by rw [hk b hb]; exact h.cel b hb, h.pn⟩
theorem PK.below (h : PK w O d D gl gs gn cl cs cn lv sv cv left bad armed off hurt) (hb : Below w.heap.size w w') : PK w' O d D gl gs gn cl cs cn lv sv cv left bad armed off hurt :=
  h.frame fun b hn => hb.block b (h.lt b hn)
/-- Its own block turned. -/
theorem PK.turn (h : PK w O d D gl gs gn cl cs cn lv sv cv left bad armed off hurt) {D' : Ds} {left' bad' : Int} {armed' off' hurt' : Bool} (ht : Turn w w' d (pkc (.slice (some ⟨gl, 0, none⟩) 8 cl) (.slice (some ⟨gs, 0, none⟩) 8 cs) (.slice (some ⟨gn, 0, none⟩) 8 cn) left' bad' armed' off' hurt') 101)
    (e1 : D'.now = D.now) (e2 : D'.safe = D.safe) (e3 : D'.chs = D.chs) (hp : PN D' left' bad' armed' off' hurt') : PK w' O d D' gl gs gn cl cs cn lv sv cv left' bad' armed' off' hurt' ∧ Fp O w O w' := by
  have ne : ∀ b, O b ≠ 1 → w'.heap[b]? = w.heap[b]? := fun b hb => ht.other b (fun e => hb (e ▸ h.t1))
  refine ⟨⟨ht.blk, h.live.same (ne _ (by rw [h.t2]; omega)), h.safr.same (ne _ (by rw [h.t3]; omega)), h.new.same (ne _ (by rw [h.t4]; omega)), fun i hi => by rw [e1]; exact ⟨(h.now i hi).1.same fun b e => ne b (by rw [(h.now i hi).2 b e]; omega), (h.now i hi).2⟩, fun i hi => by rw [e2]; exact ⟨(h.safe i hi).1.same fun b e => ne b (by rw [(h.safe i hi).2 b e]; omega), (h.safe i hi).2⟩,
   fun i hi => by rw [e3]; exact (h.chs i hi).same (fun b e => ne b (by rw [h.tc i hi b e]; omega)) (fun b e _ => ⟨ne b (by rw [e]; omega), e⟩), h.tc, h.t1, h.t2, h.t3, h.t4, fun b hb => ?_, hp⟩, Fp.of_turn ht h.blk (by rw [h.t1]; omega)⟩
  by_cases e : b = d
  · subst e; exact ⟨_, ht.blk, rfl⟩
  · rw [ht.other b e]; exact h.cel b hb
end
end Go.Proofs.Ytljhhdpeakencaa
end

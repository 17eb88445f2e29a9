/- Texts joined: RFh Crs D19 ShA ShB Idx. -/
import Derived.Test.YtjbhegakgdcldaaJ2
import Derived.Deep.RegionHeld3
import Derived.Test.YtjbhegakgdcldaaJ4
import Derived.Test.YtjbhegakgdcldaaJ3
import Derived.Test.YtjbhegakgdcldaaJ0
section
set_option linter.unusedSimpArgs false
set_option linter.unusedVariables false
namespace Go.Proofs.Ytjbhegakgdcldaa
open Go.RowKit

/-! A drawn region within a round, walked under what is held: as one outside any fence. -/
theorem rows_wide {n : Nat} {P : Program} {row : String} {args : Array Value} {w : World} {R : Value → World → Prop} (h : Rows P row args w R) : RowsIn Fence.wide n P row args w R :=
  fun c cs _ => let ⟨v, w', r, s⟩ := h c cs; ⟨v, w', r, stepsIn_wide.2 s⟩
theorem oper_wide {n : Nat} {P : Program} {o : Oper} {a : Act} {w : World} {K : Act → World → Prop} {Q : Exit → Act → World → Prop} (h : Oper.wp P o a w K Q) : o.wpIn Fence.wide n P a w K Q := by
  refine ⟨fun _ _ => trivial, ?_⟩
  show o.uponIn Fence.wide n P a K Q ((execOp a.eval o).run P w)
  unfold Oper.wp at h
  generalize (execOp a.eval o).run P w = r at h
  cases r with
  | ok x w' =>
    cases x with
    | value v => exact h
    | skip => exact h
    | defer d => exact h
    | enter f args => exact ⟨fun e => by simp [Fence.wide] at e, callsIn_wide.2 h⟩
    | row row args => exact ⟨fun e => by simp [Fence.wide] at e, rows_wide h⟩
    | _ => exact h.elim
  | halt x w' => cases x <;> first | exact h | exact h.elim
theorem anyIn_of_any {n : Nat} {P : Program} {md : Region.Mode} {ops : Array Oper} {Q : Exit → Act → World → Prop} (hno : ∀ a w, ¬ Q .outgrown a w) :
    ∀ (fuel : Nat) (listed : Array Bool) (a : Act) (w : World), wpAny P md ops Q fuel listed a w → wpAnyIn Fence.wide n P md ops Q fuel listed a w
  | 0, _, _, _, h => h
  | fuel + 1, listed, a, w, h => by
    refine ⟨h.1, fun i hi => ?_⟩
    have h1 := h.2 i hi
    unfold wpOp at h1
    unfold wpOpIn
    cases ho : ops[i]? with
    | none => simp only [ho] at h1 ⊢; exact anyIn_of_any hno fuel _ _ _ h1
    | some o =>
      simp only [ho] at h1 ⊢
      split at h1
      · rename_i hw
        simp only [hw, if_true]
        exact Oper.wpIn_mono (fun a w hk => anyIn_of_any hno fuel _ a w hk) (oper_wide (h1.resolve_right (fun e => by obtain ⟨_, a, w, h⟩ := e; exact hno a w h)))
      · rename_i hw
        simp only [hw]
        exact ⟨fun _ _ => trivial, anyIn_of_any hno fuel _ _ _ h1⟩
/-- The beginning: a drawn region within a round. -/
theorem round_held {n l : Nat} {P : Program} {id : Nat} {ops : Array Oper} {Q : Exit → Act → World → Prop} {S : World → Prop} {a : Act} {w : World} (hm : P.follows .mixedOrders = true) (hd : noDefer ops = true) (hno : ∀ a w, ¬ Q .outgrown a w) (hS : S w.drew)
    (h : S w.drew → wpAnyH P .any ops Q S ops.size (Array.replicate ops.size false) a w.drew) : (Code.region id ops true).wpIn (Fence.wide.inRound l) n P Q a w :=
  wpIn_region_any hm (anyIn_round l (noDefer_spec hd) _ _ _ _ (anyIn_of_any hno _ _ _ _ (wpAny_of_held _ _ _ _ (h hS))))
end Go.Proofs.Ytjbhegakgdcldaa
end
section
set_option linter.unusedSimpArgs false
set_option linter.unusedVariables false
namespace Go.Proofs.Ytjbhegakgdcldaa
open Go.RowKit Go.Shelf
attribute [local go_sem] Oper.semAt_some

/-! Crash. -/
theorem unsynced_any (d : Nat) (w : World) : Calls Try.prog 81 #[.pointer (some ⟨d, 0, none⟩)] w fun e w' => e = .returned (.func (.func 94) #[] #[.pointer (some ⟨w.heap.size, 0, none⟩)]) ∧ w' = w.alloc (.cells #[.pointer (some ⟨d, 0, none⟩)] 28) := by
  go_enter Try.func81, Try.ntmps81
  go_wp2
  go_ret
  exact ⟨by simp, rfl⟩
theorem infoR : (Try.prog.info? 58).map (fun i => (i.zero, i.size, i.bytes)) = some (some (.slice none 0 0), 1, 24) := by kernel_rfl
theorem mk_rows (w : World) : (Instr.makeSlice 84 (.int .i64 8) (.int .i64 8)).run Try.prog w = .ok (.slice (some ⟨w.heap.size, 0, none⟩) 8 8) (w.alloc (.cells #[.slice none 0 0, .slice none 0 0, .slice none 0 0, .slice none 0 0, .slice none 0 0, .slice none 0 0, .slice none 0 0, .slice none 0 0] 58)) := by
  obtain ⟨i, hi, hz, hsize, hby⟩ := info_of infoR
  have h := run_make (P := Try.prog) w 84 58 i _ Try.underlying84 hi hz .i64 .i64 8 8 (by omega) (by omega) (by rw [hby]; omega) (by omega)
  rw [hsize] at h
  rw [h]
  have e : madeCells (Value.slice none 0 0).cells (Int.toNat 8 * 1) = #[.slice none 0 0, .slice none 0 0, .slice none 0 0, .slice none 0 0, .slice none 0 0, .slice none 0 0, .slice none 0 0, .slice none 0 0] := by
    apply Array.ext'
    rw [show (Value.slice none 0 0).cells = #[.slice none 0 0] from rfl, toList_madeCells_one]
    rfl
  rw [e]
  rfl
abbrev nils : Nat → Value := fun _ => .slice none 0 0
/-- The world ahead of the first loop. -/
def crW (w : World) (d : Nat) (pv : Value) : World := (((w.setCell ⟨d, 24, none⟩ (.bool true)).alloc (.cells #[pv] 23)).alloc (.cells (r8 nils) 58)).alloc (.cells #[.slice (some ⟨w.heap.size + 1, 0, none⟩) 8 8] 84)
def crT (n : Nat) : Nat → Nat := fun b => if b = n + 1 then 9 else if b = n then 10 else 0
theorem crW_facts {w : World} {O : Nat → Nat} {d : Nat} {D : Ds} {nv sv cv : Nat → Value} (pv : Value) (h : DK w O d D nv sv cv) :
    DK (crW w d pv) O d { D with off := true } nv sv cv ∧ Fp O w O (crW w d pv) ∧ RW (crW w d pv) (crT w.heap.size) (w.heap.size + 1) w.heap.size nils pv (fun _ => []) ∧
    (crW w d pv).cell? ⟨w.heap.size + 2, 0, none⟩ = some (.slice (some ⟨w.heap.size + 1, 0, none⟩) 8 8) ∧ (crW w d pv).heap.size = w.heap.size + 3 ∧ (∀ b, b < w.heap.size → b ≠ d → (crW w d pv).heap[b]? = w.heap[b]?) := by
  have ht := Turn.set h.blk 24 (.bool true)
  rw [dkc_setOff] at ht
  have hz : (w.setCell ⟨d, 24, none⟩ (.bool true)).heap.size = w.heap.size := by simp
  have hb : Below w.heap.size (w.setCell ⟨d, 24, none⟩ (.bool true)) (crW w d pv) := (((Below.refl _ _).alloc (by simp) _).alloc (by simp) _).alloc (by simp; omega) _
  have hb' : Below (w.setCell ⟨d, 24, none⟩ (.bool true)).heap.size (w.setCell ⟨d, 24, none⟩ (.bool true)) (crW w d pv) := by rw [hz]; exact hb
  have b0 : Bk (crW w d pv) w.heap.size #[pv] 23 := ((Bk.new' _ _ _ (by simp)).alloc _).alloc _
  have b1 : Bk (crW w d pv) (w.heap.size + 1) (r8 nils) 58 := (Bk.new' _ _ _ (by simp)).alloc _
  have b2 : Bk (crW w d pv) (w.heap.size + 2) #[.slice (some ⟨w.heap.size + 1, 0, none⟩) 8 8] 84 := Bk.new' _ _ _ (by simp)
  refine ⟨(h.turn ht h.bO h.bF).below hb', (Fp.of_turn ht h.blk (by rw [h.td]; omega)).trans (Fp.of_below O hb'), ⟨b1, b0, fun i hi => Ow.nil _ _, fun i hi b e => by simp [Value.ownBlock] at e, ?_, ?_, fun b hb => ?_⟩, b2.cell 0, by simp [crW], fun b hb1 hb2 => (hb.block b hb1).trans (ht.other b hb2)⟩
  · simp [crT]
  · simp [crT]
  · unfold crT at hb
    by_cases e1 : b = w.heap.size + 1
    · subst e1; exact ⟨_, b1, rfl⟩
    · rw [if_neg e1] at hb
      by_cases e2 : b = w.heap.size
      · subst e2; exact ⟨_, b0, rfl⟩
      · rw [if_neg e2] at hb; exact absurd rfl hb
/-- Under way in the first loop: so many rows were copied. -/
structure Cr1 (w : World) (O : Nat → Nat) (d : Nat) (D : Ds) (nv sv cv : Nat → Value) (pv : Value) (n : Nat) (W : World) : Prop where
  ex : ∃ T rv, RW W T (w.heap.size + 1) w.heap.size rv pv (fun i => if i < n then D.safe i else []) ∧ Fp (crT w.heap.size) (crW w d pv) T W ∧ (∀ b, T b ≠ 0 → w.heap.size ≤ b)
theorem crT_ge {n b : Nat} (h : crT n b ≠ 0) : n ≤ b := by
  unfold crT at h
  by_cases e1 : b = n + 1
  · omega
  · rw [if_neg e1] at h
    by_cases e2 : b = n
    · omega
    · rw [if_neg e2] at h; exact absurd rfl h
theorem Cr1.zero {w : World} {O : Nat → Nat} {d : Nat} {D : Ds} {nv sv cv : Nat → Value} (pv : Value) (hD : DK w O d D nv sv cv) : Cr1 w O d D nv sv cv pv 0 (crW w d pv) :=
  ⟨crT w.heap.size, nils, (crW_facts pv hD).2.2.1, Fp.refl _ _, fun b hb => crT_ge hb⟩
theorem Cr1.keep {w W : World} {O : Nat → Nat} {d : Nat} {D : Ds} {nv sv cv : Nat → Value} {pv : Value} {n : Nat} (h : Cr1 w O d D nv sv cv pv n W) (hD : DK w O d D nv sv cv) :
    DK W O d { D with off := true } nv sv cv ∧ Fp O w O W ∧ W.cell? ⟨w.heap.size + 2, 0, none⟩ = some (.slice (some ⟨w.heap.size + 1, 0, none⟩) 8 8) ∧ w.heap.size + 3 ≤ W.heap.size := by
  obtain ⟨T, rv, h1, h2, h3⟩ := h.ex
  obtain ⟨c1, c2, c3, c4, c5, c6⟩ := crW_facts pv hD
  have hT : ∀ b, b < w.heap.size → crT w.heap.size b = 0 := fun b hb => by unfold crT; rw [if_neg (by omega), if_neg (by omega)]
  refine ⟨c1.frame h2.size fun b hb => h2.keep b (by have := hD.lt b hb; omega) (hT b (hD.lt b hb)), ⟨h2.os.trans c2.os, h2.tape.trans c2.tape, h2.output.trans c2.output, Nat.le_trans c2.size h2.size, fun b _ hb => hb, fun b hb ho => (h2.keep b (by omega) (hT b hb)).trans (c2.keep b hb ho), fun k o e1 e2 => h2.kf k o (c2.kf k o e1 e2) e2⟩, h2.cell c4 (by simp [crT]), by have := h2.size; omega⟩
theorem Cr1.below {w A B : World} {O : Nat → Nat} {d : Nat} {D : Ds} {nv sv cv : Nat → Value} {pv : Value} {n : Nat} (h : Cr1 w O d D nv sv cv pv n A) (hb : Below A.heap.size A B) : Cr1 w O d D nv sv cv pv n B := by
  obtain ⟨T, rv, h1, h2, h3⟩ := h.ex
  exact ⟨T, rv, h1.below hb, h2.trans (Fp.of_below T hb), h3⟩
theorem Ow.zero {w : World} {base : Nat} {v : Value} {l : List UInt8} (h : Ow w base v l) : Ow w 0 v l := by
  refine ⟨h.1, ?_⟩
  rcases h.2 with h2 | ⟨g, cap, cur, e, h3, h4, h5⟩
  · exact .inl h2
  · exact .inr ⟨g, cap, cur, e, Nat.zero_le _, h4, h5⟩
theorem cr1_step {w A B : World} {O : Nat → Nat} {d : Nat} {D : Ds} {nv sv cv : Nat → Value} {pv : Value} {n : Nat} {v : Value} (hn : n < 8) (h : Cr1 w O d D nv sv cv pv n A) (hb : Below A.heap.size A B) (hv : Ow B A.heap.size v (D.safe n)) : Cr1 w O d D nv sv cv pv (n + 1) (B.setCell ⟨w.heap.size + 1, n, none⟩ v) := by
  obtain ⟨T, rv, h1, h2, h3⟩ := h.ex
  have hB := h1.below hb
  have hzz := hb.size
  have hod : ∀ b, v.ownBlock = some b → b ≠ w.heap.size + 1 := fun b hb' e => by
    have h4 := (hv.ge hb').1
    have h5 := h1.lt (w.heap.size + 1) (by rw [h1.tb]; omega)
    omega
  obtain ⟨T2, r1, r2⟩ := h1.step hn (w' := B.setCell ⟨w.heap.size + 1, n, none⟩ v) (v := v) (l := D.safe n) hb.os hb.tape hb.output (by simp; omega) (hB.blk.set _ _ (r8_set rv hn v)) (hv.zero.same fun b hb' => Below.heap_setCell B _ _ b (hod b hb')) (.inr fun k hk => (hv.ge hk).1)
    (fun k hk n1 n2 => by rw [Below.heap_setCell B _ _ k n1, hb.block k hk])
  refine ⟨⟨T2, upd rv n v, ?_, h2.trans r2, fun b hb' => ?_⟩⟩
  · have e : (fun i => if i < n + 1 then D.safe i else []) = upd (fun i => if i < n then D.safe i else []) n (D.safe n) := by
      funext i
      unfold upd
      by_cases h6 : i = n
      · subst h6; simp
      · rw [if_neg h6]
        by_cases h7 : i < n
        · simp only []; rw [if_pos h7, if_pos (by omega)]
        · simp only []; rw [if_neg h7, if_neg (by omega)]
    rw [e]; exact r1
  · by_cases h6 : b < A.heap.size
    · by_cases h7 : T b = 0
      · exact absurd (r2.old b h6 h7) hb'
      · exact h3 b h7
    · have := h1.lt (w.heap.size + 1) (by rw [h1.tb]; omega); omega
theorem RW.congr {W : World} {T : Nat → Nat} {rb pb : Nat} {rv : Nat → Value} {pv : Value} {r r' : Nat → List UInt8} (h : RW W T rb pb rv pv r) (e : ∀ i, i < 8 → r i = r' i) : RW W T rb pb rv pv r' :=
  ⟨h.blk, h.box, fun i hi => by rw [← e i hi]; exact h.ow i hi, h.tg, h.tb, h.tp, h.cel⟩
/-- Under way in the second loop. -/
structure Cr2 (w : World) (O : Nat → Nat) (d : Nat) (D : Ds) (nv sv cv : Nat → Value) (W0 : World) (T0 : Nat → Nat) (ps : List Int) (pre : List Un) (W : World) : Prop where
  ex : ∃ T rv pv, RW W T (w.heap.size + 1) w.heap.size rv pv (crL D.safe (pre.map unp) ps) ∧ Fp T0 W0 T W ∧ Rp W pv (ps.drop pre.length) ∧ ∀ b n m c, pv = .slice (some ⟨b, n, none⟩) m c → m ≠ 0 → T0 b = 0 ∧ b < W0.heap.size
  len : pre.length ≤ ps.length
  bd : ∀ i, i < 8 → (crL D.safe (pre.map unp) ps i).length ≤ 131072
  base : DK W0 O d { D with off := true } nv sv cv ∧ Fp O w O W0 ∧ W0.cell? ⟨w.heap.size + 2, 0, none⟩ = some (.slice (some ⟨w.heap.size + 1, 0, none⟩) 8 8)
  t0 : (∀ b, b < w.heap.size → T0 b = 0) ∧ T0 (w.heap.size + 2) = 0 ∧ w.heap.size + 3 ≤ W0.heap.size
theorem bk_put9 {A : World} {b l : Nat} {vs : Array Value} {t : TypeId} {x x' : Obj} (h : Bk A b vs t) (hl : A.heap[l]? = some x) (hx : x.isCells = false) : Bk (A.putObj l x') b vs t :=
  (World.putObj_heap_other (fun e => by
    subst e; rw [show A.heap[b]? = _ from h] at hl; simp at hl; subst hl; simp [Obj.isCells] at hx)).trans h
theorem ow_put9 {A : World} {base l : Nat} {v : Value} {s : List UInt8} {x x' : Obj} (h : Ow A base v s) (hl : A.heap[l]? = some x) (hx : x.isCells = false) : Ow (A.putObj l x') base v s :=
  h.same fun b hb => by
    obtain ⟨c, e⟩ := h.bytes b hb
    exact World.putObj_heap_other (fun e2 => by subst e2; rw [e] at hl; simp at hl; subst hl; simp [Obj.isCells] at hx)
theorem ung_put {O : Nat → Nat} {D : Ds} {pre : List Un} {x : Un} {A : World} {l : Nat} {o o' : Obj} (h : UnG O D pre x A) (hl : A.heap[l]? = some o) (hx : o.isCells = false) : UnG O D pre x (A.putObj l o') :=
  ⟨h.1, ow_put9 h.2.1 hl hx, h.2.2.1, h.2.2.2.1, h.2.2.2.2⟩
section
variable {w : World} {O : Nat → Nat} {d : Nat} {D : Ds} {nv sv cv : Nat → Value} {W0 : World} {T0 : Nat → Nat} {ps : List Int} {pre : List Un}
theorem Cr2.below {A B : World} (h : Cr2 w O d D nv sv cv W0 T0 ps pre A) (hb : Below A.heap.size A B) : Cr2 w O d D nv sv cv W0 T0 ps pre B := by
  obtain ⟨T, rv, pv, h1, h2, h3, h4⟩ := h.ex
  exact ⟨⟨T, rv, pv, h1.below hb, h2.trans (Fp.of_below T hb), h3.below hb, h4⟩, h.len, h.bd, h.base, h.t0⟩
theorem Fp.put {O1 O2 : Nat → Nat} {w1 A : World} {l : Nat} {o o' : Obj} (h2 : Fp O1 w1 O2 A) (hl1 : w1.heap.size ≤ l) (hl : A.heap[l]? = some o) : Fp O1 w1 O2 (A.putObj l o') :=
  ⟨h2.os, h2.tape, h2.output, by simp [World.putObj]; exact h2.size, h2.old, fun b hb hO => (World.putObj_heap_other (by omega)).trans (h2.keep b hb hO), fun k o2 hk hc => by
    have hk1 : k < w1.heap.size := (Array.getElem?_eq_some_iff.1 hk).1
    exact (World.putObj_heap_other (by omega)).trans (h2.kf k o2 hk hc)⟩
theorem rp_put9 {A : World} {l : Nat} {v : Value} {s : List Int} {x x' : Obj} (h : Rp A v s) (hl : A.heap[l]? = some x) (hx : x.isCells = false) : Rp (A.putObj l x') v s :=
  h.cells fun a u hc _ => by
    by_cases e : a.block = l
    · subst e
      unfold World.cell? at hc
      rw [hl] at hc
      cases x <;> simp_all [Obj.isCells]
    · rw [World.cell?_of_block (w := A) (World.putObj_heap_other e)]; exact hc
theorem Cr2.put {A : World} {l : Nat} {o o' : Obj} (h : Cr2 w O d D nv sv cv W0 T0 ps pre A) (hl1 : W0.heap.size ≤ l) (hl : A.heap[l]? = some o) (ho : o.isCells = false) : Cr2 w O d D nv sv cv W0 T0 ps pre (A.putObj l o') := by
  obtain ⟨T, rv, pv, h1, h2, h3, h4⟩ := h.ex
  exact ⟨⟨T, rv, pv, h1.put hl ho, h2.put hl1 hl, rp_put9 h3 hl ho, h4⟩, h.len, h.bd, h.base, h.t0⟩
theorem Cr2.keep {A : World} (h : Cr2 w O d D nv sv cv W0 T0 ps pre A) (hD : DK w O d D nv sv cv) : DK A O d { D with off := true } nv sv cv ∧ Fp O w O A ∧ A.cell? ⟨w.heap.size + 2, 0, none⟩ = some (.slice (some ⟨w.heap.size + 1, 0, none⟩) 8 8) ∧ W0.heap.size ≤ A.heap.size := by
  obtain ⟨T, rv, pv, h1, h2, h3, h4⟩ := h.ex
  obtain ⟨b1, b2, b3⟩ := h.base
  obtain ⟨t1, t2, t3⟩ := h.t0
  refine ⟨b1.frame h2.size fun b hb => h2.keep b (b1.lt b hb) (t1 b (hD.lt b hb)), ⟨h2.os.trans b2.os, h2.tape.trans b2.tape, h2.output.trans b2.output, Nat.le_trans b2.size h2.size, fun b _ hb => hb, fun b hb ho => (h2.keep b (by omega) (t1 b hb)).trans (b2.keep b hb ho), fun k o e1 e2 => h2.kf k o (b2.kf k o e1 e2) e2⟩, h2.cell b3 t2, h2.size⟩
theorem Rp.cells1 {w w' : World} {v : Value} {ps : List Int} (h : Rp w v ps) (hk : ps.length ≠ 0 → ∀ a u, w.cell? a = some u → (∃ n c, v = .slice (some ⟨a.block, n, none⟩) ps.length c) → w'.cell? a = some u) : Rp w' v ps := by
  obtain ⟨ad, cap, rfl, hle, hm, hr, hc⟩ := h
  refine ⟨ad, cap, rfl, hle, hm, hr, fun i hi => ?_⟩
  obtain ⟨b, off, rfl, hx⟩ := hc i hi
  exact ⟨b, off, rfl, hk (by omega) _ _ hx ⟨off, cap, rfl⟩⟩
/-- A pick was taken; its change is still to be done. -/
structure Cr3 (w : World) (O : Nat → Nat) (d : Nat) (D : Ds) (nv sv cv : Nat → Value) (W0 : World) (T0 : Nat → Nat) (ps : List Int) (pre : List Un) (T : Nat → Nat) (rv : Nat → Value) (pv : Value) (W : World) : Prop where
  rw : RW W T (w.heap.size + 1) w.heap.size rv pv (crL D.safe (pre.map unp) ps)
  fp : Fp T0 W0 T W
  rp : Rp W pv (ps.drop (pre.length + 1))
  blk : ∀ b n m c, pv = .slice (some ⟨b, n, none⟩) m c → m ≠ 0 → T0 b = 0 ∧ b < W0.heap.size
  len : pre.length < ps.length
  bd : ∀ i, i < 8 → (crL D.safe (pre.map unp) ps i).length ≤ 131072
  base : DK W0 O d { D with off := true } nv sv cv ∧ Fp O w O W0 ∧ W0.cell? ⟨w.heap.size + 2, 0, none⟩ = some (.slice (some ⟨w.heap.size + 1, 0, none⟩) 8 8)
  t0 : (∀ b, b < w.heap.size → T0 b = 0) ∧ T0 (w.heap.size + 2) = 0 ∧ w.heap.size + 3 ≤ W0.heap.size
section
variable {w : World} {O : Nat → Nat} {d : Nat} {D : Ds} {nv sv cv : Nat → Value} {W0 : World} {T0 : Nat → Nat} {ps : List Int} {pre : List Un} {T : Nat → Nat} {rv : Nat → Value} {pv : Value}
theorem Cr3.below {A B : World} (h : Cr3 w O d D nv sv cv W0 T0 ps pre T rv pv A) (hb : Below A.heap.size A B) : Cr3 w O d D nv sv cv W0 T0 ps pre T rv pv B :=
  ⟨h.rw.below hb, h.fp.trans (Fp.of_below T hb), h.rp.below hb, h.blk, h.len, h.bd, h.base, h.t0⟩
theorem Cr3.skip9 {A : World} (h : Cr3 w O d D nv sv cv W0 T0 ps pre T rv pv A) (x : Un) (hk : kpt x.2.1 (ps[pre.length]'h.len) = none) : Cr2 w O d D nv sv cv W0 T0 ps (pre ++ [x]) A := by
  have hl0 := h.len
  have e : crL D.safe ((pre ++ [x]).map unp) ps = crL D.safe (pre.map unp) ps := by
    rw [List.map_append]
    show crL D.safe (pre.map unp ++ [unp x]) ps = _
    rw [crL_snoc _ _ _ _ (by rw [List.length_map]; exact h.len)]
    simp only [List.length_map]
    unfold stp
    rw [show kpt (unp x).2 ps[pre.length] = none from hk]
  have hl : (pre ++ [x]).length = pre.length + 1 := by simp
  exact ⟨⟨T, rv, pv, by rw [e]; exact h.rw, h.fp, by rw [hl]; exact h.rp, h.blk⟩, by rw [hl]; exact h.len, fun i hi => by rw [e]; exact h.bd i hi, h.base, h.t0⟩
theorem Cr3.done9 {A B : World} (h : Cr3 w O d D nv sv cv W0 T0 ps pre T rv pv A) (x : Un) {c' : Ch} {v : Value} (hx : x.1 < 8) (hk : kpt x.2.1 (ps[pre.length]'h.len) = some c') (hc : c'.pos + c'.bs.length ≤ 131072)
    (hv : Ow B 0 v (ovr c' (crL D.safe (pre.map unp) ps x.1))) (hg : A.grownBy B (rv x.1).ownBlock) (hs : Sn A (rv x.1) v) : Cr2 w O d D nv sv cv W0 T0 ps (pre ++ [x]) (B.setCell ⟨w.heap.size + 1, x.1, none⟩ v) := by
  have hl0 := h.len
  have e : crL D.safe ((pre ++ [x]).map unp) ps = upd (crL D.safe (pre.map unp) ps) x.1 (ovr c' (crL D.safe (pre.map unp) ps x.1)) := by
    rw [List.map_append]
    show crL D.safe (pre.map unp ++ [unp x]) ps = _
    rw [crL_snoc _ _ _ _ (by rw [List.length_map]; exact h.len)]
    simp only [List.length_map]
    unfold stp
    rw [show kpt (unp x).2 ps[pre.length] = some c' from hk]
    rfl
  have hbB : Bk B (w.heap.size + 1) (r8 rv) 58 := h.rw.blk.grown hg (fun e => by have h1 := h.rw.tg x.1 hx _ e.symm; have h2 := h.rw.tb; omega)
  have hod : ∀ b, v.ownBlock = some b → b ≠ w.heap.size + 1 := fun b hb' e => by
    subst e
    obtain ⟨c, e2⟩ := hv.bytes _ hb'
    rw [show B.heap[w.heap.size + 1]? = _ from hbB] at e2
    simp at e2
  obtain ⟨T2, r1, r2⟩ := h.rw.step hx (w' := B.setCell ⟨w.heap.size + 1, x.1, none⟩ v) (v := v) (l := ovr c' (crL D.safe (pre.map unp) ps x.1)) hg.os hg.tape hg.output (by simp; exact hg.size) (hbB.set _ _ (r8_set rv hx v)) (hv.same fun b hb' => Below.heap_setCell B _ _ b (hod b hb')) hs
    (fun k hk n1 n2 => by rw [Below.heap_setCell B _ _ k n1, hg.block k hk n2])
  have hl : (pre ++ [x]).length = pre.length + 1 := by simp
  refine ⟨⟨T2, upd rv x.1 v, pv, by rw [e]; exact r1, h.fp.trans r2, ?_, h.blk⟩, by rw [hl]; exact h.len, fun i hi => ?_, h.base, h.t0⟩
  · rw [hl]
    refine h.rp.cells1 fun hm a u hc he => ?_
    obtain ⟨n, c, e3⟩ := he
    obtain ⟨h7, h8⟩ := h.blk _ _ _ _ e3 hm
    exact r2.cell hc (h.fp.old _ h8 h7)
  · rw [e]
    by_cases e5 : i = x.1
    · subst e5; rw [upd_same]
      refine Nat.le_trans (ovr_le _ _) ?_
      have := h.bd x.1 hx
      omega
    · rw [upd_other _ _ e5]; exact h.bd i hi
end
section
variable {w : World} {O : Nat → Nat} {d : Nat} {D : Ds} {nv sv cv : Nat → Value} {W0 : World} {T0 : Nat → Nat} {ps : List Int} {pre : List Un} {T : Nat → Nat} {rv : Nat → Value} {pv : Value}
theorem cr_keep {W W' : World} {T2 : Nat → Nat} (hD : DK w O d D nv sv cv) (h3 : Cr3 w O d D nv sv cv W0 T0 ps pre T rv pv W') {A : World} (hA : Fp T W T2 A) : KeepsFrom W0.heap.size W A ∧ KpO O W A := by
  refine ⟨hA.keepsFrom _, fun b o hb h1 h2 => ?_⟩
  have hl := hD.lt b hb
  have ht : T b = 0 := h3.fp.old b (by have := h3.t0.2.2; omega) (h3.t0.1 b hl)
  rw [hA.keep b (Array.getElem?_eq_some_iff.1 h1).1 ht]; exact h1
theorem cr_none {W W2 W' : World} {x : Un} {p : Int} (hD : DK w O d D nv sv cv) (h : Cr3 w O d D nv sv cv W0 T0 ps pre T rv pv W2 ∧ Fp T W T W2) (hb : Below W2.heap.size W2 W') (hp : p = ps[pre.length]'h.1.len) (hk : kpt x.2.1 p = none) :
    KeepsFrom W0.heap.size W W' ∧ KpO O W W' ∧ Cr2 w O d D nv sv cv W0 T0 ps (pre ++ [x]) W' := by
  obtain ⟨h1, h2⟩ := cr_keep hD h.1 (h.2.trans (Fp.of_below T hb))
  exact ⟨h1, h2, (h.1.below hb).skip9 x (by rw [← hp]; exact hk)⟩
theorem cr_some {W W2 A B : World} {x : Un} {p : Int} {c' : Ch} {v : Value} (hD : DK w O d D nv sv cv) (h : Cr3 w O d D nv sv cv W0 T0 ps pre T rv pv W2 ∧ Fp T W T W2) (hb : Below W2.heap.size W2 A) (hp : p = ps[pre.length]'h.1.len) (hx : x.1 < 8) (hk : kpt x.2.1 p = some c') (hc : c'.pos + c'.bs.length ≤ 131072)
    (hv : Ow B 0 v (ovr c' (crL D.safe (pre.map unp) ps x.1))) (hg : A.grownBy B (rv x.1).ownBlock) (hs : Sn A (rv x.1) v) :
    KeepsFrom W0.heap.size W (B.setCell ⟨w.heap.size + 1, x.1, none⟩ v) ∧ KpO O W (B.setCell ⟨w.heap.size + 1, x.1, none⟩ v) ∧ Cr2 w O d D nv sv cv W0 T0 ps (pre ++ [x]) (B.setCell ⟨w.heap.size + 1, x.1, none⟩ v) := by
  have hA := h.1.below hb
  have hbB : Bk B (w.heap.size + 1) (r8 rv) 58 := hA.rw.blk.grown hg (fun e => by have h1 := hA.rw.tg x.1 hx _ e.symm; have h2 := hA.rw.tb; omega)
  have hod : ∀ b, v.ownBlock = some b → b ≠ w.heap.size + 1 := fun b hb' e => by
    subst e
    obtain ⟨c, e2⟩ := hv.bytes _ hb'
    rw [show B.heap[w.heap.size + 1]? = _ from hbB] at e2
    simp at e2
  obtain ⟨T2, r1, r2⟩ := hA.rw.step hx (w' := B.setCell ⟨w.heap.size + 1, x.1, none⟩ v) (v := v) (l := ovr c' (crL D.safe (pre.map unp) ps x.1)) hg.os hg.tape hg.output (by simp; exact hg.size) (hbB.set _ _ (r8_set rv hx v)) (hv.same fun b hb' => Below.heap_setCell B _ _ b (hod b hb')) hs
    (fun k hk n1 n2 => by rw [Below.heap_setCell B _ _ k n1, hg.block k hk n2])
  obtain ⟨h1, h2⟩ := cr_keep hD h.1 (h.2.trans ((Fp.of_below T hb).trans r2))
  exact ⟨h1, h2, hA.done9 x hx (by rw [← hp]; exact hk) hc hv hg hs⟩
end
theorem cr2_zero {wr A : World} {pv : Value} (hD : DK w O d D nv sv cv) (hp : Rp w pv ps) (hpO : ps.length ≠ 0 → ∀ b n c, pv = .slice (some ⟨b, n, none⟩) ps.length c → O b = 0) (hs : ∀ i, i < 8 → (D.safe i).length ≤ 131072) (h : Cr1 w O d D nv sv cv pv 8 wr) (hb : Below wr.heap.size wr A) : ∃ T0, Cr2 w O d D nv sv cv A T0 ps [] A := by
  obtain ⟨k1, k2, k3, k4⟩ := (h.below hb).keep hD
  obtain ⟨T, rv, h1, h2, h3⟩ := (h.below hb).ex
  have ht : ∀ b, b < w.heap.size → T b = 0 := fun b hb' => by
    by_cases e : T b = 0
    · exact e
    · have := h3 b e; omega
  have hpA : Rp A pv ps := hp.cells1 fun hm a u hc ⟨n, c, e⟩ => k2.cell hc (hpO hm _ _ _ e)
  refine ⟨T, ⟨⟨T, rv, pv, h1.congr fun i hi => by rw [if_pos hi]; rfl, Fp.refl _ _, hpA, fun b n m c e hm => ?_⟩, by simp, fun i hi => hs i hi, ⟨k1, k2, k3⟩, ht, ?_, k4⟩⟩
  · subst e
    obtain ⟨ad, cap, e, _, _, _, hc⟩ := hp
    simp at e
    obtain ⟨rfl, rfl, rfl⟩ := e
    obtain ⟨b', off, e2, hx⟩ := hc 0 (by omega)
    simp at e2
    obtain ⟨rfl, rfl⟩ := e2
    have hl := cell_lt9 hx
    exact ⟨ht _ hl, by have : b < w.heap.size := hl; omega⟩
  · obtain ⟨c1, c2, c3, c4, c5, c6⟩ := crW_facts pv hD
    have e : crT w.heap.size (w.heap.size + 2) = 0 := by simp [crT]
    have := h2.old (w.heap.size + 2) (by omega) e
    exact this
theorem cr2_end {A : World} (hD : DK w O d D nv sv cv) (h : Cr2 w O d D nv sv cv W0 T0 ps pre A) (he : crL D.safe (pre.map unp) ps = crash D ps) :
    ∃ T rb pb rv pv', Ending.returned (Value.slice (some ⟨w.heap.size + 1, 0, none⟩) 8 8) = .returned (.slice (some ⟨rb, 0, none⟩) 8 8) ∧ RW A T rb pb rv pv' (crash D ps) ∧ (∀ b, T b ≠ 0 → w.heap.size ≤ b) ∧ DK A O d { D with off := true } nv sv cv ∧ Fp O w O A := by
  obtain ⟨k1, k2, k3, k4⟩ := h.keep hD
  obtain ⟨T, rv, pv, h1, h2, h3, h4⟩ := h.ex
  refine ⟨T, w.heap.size + 1, w.heap.size, rv, pv, rfl, by rw [← he]; exact h1, fun b hb => ?_, k1, k2⟩
  by_cases e : b < w.heap.size
  · exact absurd (h2.old b (by have := h.t0.2.2; omega) (h.t0.1 b e)) hb
  · omega
end
set_option maxRecDepth 100000 in
set_option maxHeartbeats 8000000 in
theorem crash9 (w : World) (O : Nat → Nat) (d : Nat) (D : Ds) (nv sv cv : Nat → Value) (pv : Value) (ps : List Int) (h : DK w O d D nv sv cv) (hp : Rp w pv ps) (hpO : ps.length ≠ 0 → ∀ b n c, pv = .slice (some ⟨b, n, none⟩) ps.length c → O b = 0) (hs : ∀ i, i < 8 → (D.safe i).length ≤ 131072) (hm : ∀ i, i < 8 → (D.chs i).length ≤ 1099511627776) (hc : ∀ i, i < 8 → ∀ c ∈ D.chs i, ChB c) :
    Calls Try.prog 62 #[.pointer (some ⟨d, 0, none⟩), pv] w fun e w' => ∃ T rb pb rv pv', e = .returned (.slice (some ⟨rb, 0, none⟩) 8 8) ∧ RW w' T rb pb rv pv' (crash D ps) ∧ (∀ b, T b ≠ 0 → w.heap.size ≤ b) ∧ DK w' O d { D with off := true } nv sv cv ∧ Fp O w O w' := by
  have HD : Hid (DK w O d D nv sv cv) := h
  have c24 := h.c24
  have f24 := h.fz 24
  have ld := h.blk.lt
  have hpv : ∃ ad n c, pv = .slice ad n c := by obtain ⟨ad, c, e, _⟩ := hp; exact ⟨_, _, _, e⟩
  obtain ⟨pa, pn, pc, rfl⟩ := hpv
  have HP : Hid (Rp w (.slice pa pn pc) ps ∧ (ps.length ≠ 0 → ∀ b n c, Value.slice pa pn pc = .slice (some ⟨b, n, none⟩) ps.length c → O b = 0)) := ⟨hp, hpO⟩
  have HB : Hid ((∀ i, i < 8 → (D.safe i).length ≤ 131072) ∧ (∀ i, i < 8 → (D.chs i).length ≤ 1099511627776) ∧ ∀ i, i < 8 → ∀ c ∈ D.chs i, ChB c) := ⟨hs, hm, hc⟩
  clear h hp hpO hs hm hc
  have hmk := mk_rows
  have HW : Hid _ := crW_facts (.slice pa pn pc) HD.out
  have H0 := Cr1.zero (.slice pa pn pc) HD.out
  refine (callsIn_wide (n := 6)).1 ?_
  refine callsIn_of_wp_marks Try.func62 rfl trivial ?_ rfl
  simp only [Try.ntmps62, List.size_toArray, List.length_cons, List.length_nil, Nat.reduceAdd, Nat.reduceSub, Array.replicate_succ, Array.replicate_zero, List.push_toArray, List.append_toArray, List.nil_append, List.cons_append]
  gi_wp2
  refine wpIn_wide.2 (wp_scope_straight ((wpIn_wide (n := 6)).1 ?_))
  gi_wp2_with (refine wpListIn_load_mid9 rfl 105 _ rfl d 0 rfl (dk24 nv sv cv).toList _ (dk_range HW.out.1) Try.underlying105 rfl info68 ?_)
  have hrb : w.heap.size + 1 < (crW w d (.slice pa pn pc)).heap.size := by have := HW.out.2.2.2.2.1; omega
  gi_loopw [21] (fun i wr => ∃ n : Nat, n ≤ 8 ∧ i = .int .i64 (n : Int) ∧ Cr1 w O d D nv sv cv (.slice pa pn pc) n wr) (fun i _ => 8 - (intOf i).toNat)
  case atStart => exact ⟨0, by omega, rfl, H0⟩
  case round =>
    clear H0 hmk hrb c24 f24
    obtain ⟨n, hn, rfl, hC⟩ := hrel
    have HC : Hid (Cr1 w O d D nv sv cv (.slice pa pn pc) n wr) := hC
    by_cases hlt : n < 8
    · have hlt' : (n : Int) < 8 := by omega
      have hix := dk_index nv sv cv n hlt
      obtain ⟨an, ln, cn, env⟩ := ownsRow_sl (HD.out.now n hlt)
      obtain ⟨as9, ls9, cs9, esv⟩ := ownsRow_sl (HD.out.safe n hlt)
      obtain ⟨ps9, hq1, hq2, hq3⟩ := HD.out.chs n hlt
      obtain ⟨ac9, lc9, cc9, ecv⟩ := ownsRow_sl hq2
      rw [ecv, env, esv] at hix
      obtain ⟨hD1, hF1, hR1, hz1⟩ := hC.keep HD.out
      have hS1 : Ow wr 0 (.slice as9 ls9 cs9) (D.safe n) := by rw [← esv]; exact hD1.safe n hlt
      have HS1 : Hid (Ow wr 0 (.slice as9 ls9 cs9) (D.safe n) ∧ (D.safe n).length ≤ 131072 ∧ wr.cell? ⟨w.heap.size + 1 + 1, 0, none⟩ = some (.slice (some ⟨w.heap.size + 1, 0, none⟩) 8 8)) := ⟨hS1, HB.out.1 n hlt, hR1⟩
      have hro : ∃ (T : Nat → Nat) (rv : Nat → Value), Bk wr (w.heap.size + 1) (r8 rv) 58 ∧ ∀ b, (r8 rv)[n]? = some b → b.oneCell' = true := by
        obtain ⟨T, rv, h1, _⟩ := hC.ex
        refine ⟨T, rv, h1.blk, fun b hb => ?_⟩
        rw [r8_at rv hlt] at hb
        obtain ⟨a1, a2, a3, e⟩ := ownsRow_sl (h1.ow n hlt)
        injection hb with hb
        rw [← hb, e]; rfl
      obtain ⟨T9, rv9, hbk9, _⟩ := hro
      have HBk : Hid (Bk wr (w.heap.size + 1) (r8 rv9) 58) := hbk9
      clear hC env esv ecv hq1 hq2 hq3 hD1 hF1 hR1 hS1 hbk9
      have HCl : Hid (∀ W', Below wr.heap.size wr W' → Calls Try.prog 71 #[.slice as9 ls9 cs9] W' fun e w' => ∃ v', e = .returned v' ∧ Ow w' W'.heap.size v' (D.safe n) ∧ Below W'.heap.size W' w') := fun W' hW' => clone W' _ _ ((HS1.out.1.rb (by have := HS1.out.2.1; omega)).below hW') (by have := HS1.out.2.1; omega)
      have HA5 : Hid (∀ (A B : World) (v : Value) (l : List UInt8), Below wr.heap.size wr A → Below A.heap.size A B → Ow B A.heap.size v l → Below wr.heap.size wr B ∧ Ow B wr.heap.size v l) := fun A B v l h1 h2 h3 => by
        refine ⟨h1.trans (h2.mono h1.size), h3.1, ?_⟩
        rcases h3.2 with h3 | ⟨g, cap, cur, e, h3, h4, h5⟩
        · exact .inl h3
        · exact .inr ⟨g, cap, cur, e, Nat.le_trans h1.size h3, h4, h5⟩
      have hA : Below wr.heap.size wr (wr.alloc (.cells #[.slice an ln cn, .slice as9 ls9 cs9, .slice ac9 lc9 cc9] 101)) := (Below.refl _ _).alloc (Nat.le_refl _) _
      have HA : Hid _ := hA
      have cR := (hA.cell (cell_lt9 HS1.out.2.2)).trans HS1.out.2.2
      have hr1 := (r8_at rv9 hlt)
      have hsz := hz1
      have cX : (wr.alloc (.cells #[.slice an ln cn, .slice as9 ls9 cs9, .slice ac9 lc9 cc9] 101)).cell? ⟨wr.heap.size, 1, none⟩ = some (.slice as9 ls9 cs9) := (Bk.new _ _ _).cell 1
      clear hA
      gi_wp2
      refine wpIn_wide.2 ?_
      refine wp_region_noPanic ?_
      refine wp_region_held_drew (S := fun W' => W'.cell? ⟨w.heap.size + 1 + 1, 0, none⟩ = some (.slice (some ⟨w.heap.size + 1, 0, none⟩) 8 8) ∧ W'.cell? ⟨wr.heap.size, 1, none⟩ = some (.slice as9 ls9 cs9)) (by kernel_rfl) ?_ (fun hHeld => ?_)
      · ((try dsimp only); exact ⟨cR, cX⟩)
      (try dsimp only at hHeld)
      refine wpAnyH_take (i := 0) (oi := ⟨some 25, _, _, _, _, _⟩) (v := ?_) rfl (by kernel_rfl) (by kernel_rfl) (by kernel_rfl) (fun _ _ _ h => h) (Or.inl ⟨by rfl, ?_⟩) (by assumption) ?_
      rotate_left
      · (intro w hSw; (try dsimp only at hSw); go_simp; try (with_reducible rfl))
      (try dsimp only); (try simp only [Act.put, List.setIfInBounds_toArray, List.set_cons_zero, List.set_cons_succ])
      refine wpAnyH_take (i := 1) (oi := ⟨some 26, _, _, _, _, _⟩) (v := ?_) rfl (by kernel_rfl) (by kernel_rfl) (by kernel_rfl) (fun _ _ _ h => h) (Or.inl ⟨by rfl, ?_⟩) (by assumption) ?_
      rotate_left
      · (intro w hSw; (try dsimp only at hSw); go_simp; try (with_reducible rfl))
      (try dsimp only); (try simp only [Act.put, List.setIfInBounds_toArray, List.set_cons_zero, List.set_cons_succ])
      refine wpAnyH_take (i := 2) (oi := ⟨some 27, _, _, _, _, _⟩) (v := ?_) rfl (by kernel_rfl) (by kernel_rfl) (by kernel_rfl) (fun _ _ _ h => h) (Or.inl ⟨by rfl, ?_⟩) (by assumption) ?_
      rotate_left
      · (intro w hSw; (try dsimp only at hSw); go_simp; try (with_reducible rfl))
      (try dsimp only); (try simp only [Act.put, List.setIfInBounds_toArray, List.set_cons_zero, List.set_cons_succ])
      refine wpAnyH_take (i := 3) (oi := ⟨some 28, _, _, _, _, _⟩) (v := ?_) rfl (by kernel_rfl) (by kernel_rfl) (by kernel_rfl) (fun _ _ _ h => h) (Or.inl ⟨by rfl, ?_⟩) (by assumption) ?_
      rotate_left
      · (intro w hSw; (try dsimp only at hSw); go_simp; try (with_reducible rfl))
      (try dsimp only); (try simp only [Act.put, List.setIfInBounds_toArray, List.set_cons_zero, List.set_cons_succ])
      refine wpAnyH_ready (rs := [4]) (by kernel_rfl) (by simp) ?_
      refine AllReadyH.cons (o := ⟨some 29, _, _, _, _, _⟩) rfl (fun K hK => ?_) AllReadyH.nil
      go_simp
      refine (HCl.out _ (Hid.out HA).drew).mono ?_
      rintro e w5 ⟨v5, rfl, ho5, hb5⟩
      have H5 : Hid (Cr1 w O d D nv sv cv (.slice pa pn pc) (n + 1) (w5.setCell ⟨w.heap.size + 1, n, none⟩ v5)) := cr1_step hlt HC.out (HA5.out _ _ _ _ (Hid.out HA).drew hb5 ho5).1 (HA5.out _ _ _ _ (Hid.out HA).drew hb5 ho5).2
      obtain ⟨ad5, n5, cap5, rfl⟩ := ownsRow_sl ho5
      have hb6 := (Hid.out HA).drew.trans (hb5.mono (Hid.out HA).drew.size)
      have b5 := HBk.out.below hb6 HBk.out.lt
      have p5 := (b5.cell n).trans hr1
      have pf5 := b5.frozen n
      have pl5 := b5.lt
      have hS5 := (hb5.cell (cell_lt9 hHeld.1)).trans hHeld.1
      have hS6 := (hb5.cell (cell_lt9 hHeld.2)).trans hHeld.2
      have hn5 : wr.heap.size ≠ w.heap.size + 1 := by omega
      refine hK.out _ _ ⟨hS5, hS6⟩ (fun hHeld => ?_)
      clear hK K b5 ho5 hb5 hb6
      (try dsimp only); (try simp only [Act.put, List.setIfInBounds_toArray, List.set_cons_zero, List.set_cons_succ])
      refine wpAnyH_take (i := 5) (oi := ⟨some 30, _, _, _, _, _⟩) (v := ?_) rfl (by kernel_rfl) (by kernel_rfl) (by kernel_rfl) (fun _ _ _ h => h) (Or.inl ⟨by rfl, ?_⟩) (by assumption) ?_
      rotate_left
      · (intro w hSw; (try dsimp only at hSw); go_simp; try (with_reducible rfl))
      (try dsimp only); (try simp only [Act.put, List.setIfInBounds_toArray, List.set_cons_zero, List.set_cons_succ])
      refine wpAnyH_ready (rs := [6]) (by kernel_rfl) (by simp) ?_
      refine AllReadyH.cons (o := ⟨none, _, _, _, _, _⟩) rfl (fun K hK => ?_) AllReadyH.nil
      go_simp
      refine hK.out _ _ ⟨(World.cell?_of_block (w := w5) (Below.heap_setCell w5 _ _ _ (by show w.heap.size + 1 + 1 ≠ w.heap.size + 1; omega))).trans hHeld.1, (World.cell?_of_block (w := w5) (Below.heap_setCell w5 _ _ _ (by show wr.heap.size ≠ w.heap.size + 1; omega))).trans hHeld.2⟩ (fun hHeld => ?_)
      clear hK K
      (try dsimp only); (try simp only [Act.put, List.setIfInBounds_toArray, List.set_cons_zero, List.set_cons_succ])
      refine wpAnyH_done (by kernel_rfl) ?_ _
      refine NoPanic.normal ?_
      gi_wp2
      go_roundw
      case rel => exact ⟨n + 1, by omega, by go_num, H5.out⟩
      case measure => simp [intOf]; omega
    · have hlt' : ¬ (n : Int) < 8 := by omega
      obtain rfl : n = 8 := by omega
      clear hC
      gi_wp2
      refine wpIn_label ?_
      gi_wp2_with (refine ⟨trivial, ?_⟩; gi_at_call 81; refine (callsIn_wide.2 (unsynced_any d _)).mono ?_; rintro e w7 ⟨rfl, hw7⟩)
      obtain ⟨W0, hW0⟩ : ∃ W0, W0 = wr.alloc (.cells #[.pointer (some ⟨d, 0, none⟩)] 28) := ⟨_, rfl⟩
      obtain ⟨T0, h2⟩ := cr2_zero HD.out HP.out.1 HP.out.2 HB.out.1 HC.out (Below.refl _ _ |>.alloc (Nat.le_refl _) (.cells #[.pointer (some ⟨d, 0, none⟩)] 28))
      subst hw7
      rw [← hW0] at h2 ⊢
      have H2 : Hid (Cr2 w O d D nv sv cv W0 T0 ps [] W0) := h2
      have hDW : DK W0 O d { D with off := true } nv sv cv := (h2.keep HD.out).1
      have cBx : W0.cell? ⟨wr.heap.size, 0, none⟩ = some (.pointer (some ⟨d, 0, none⟩)) := by rw [hW0]; exact (Bk.new _ _ _).cell 0
      have hseq := unsynced_seq 5 d wr.heap.size O { D with off := true } nv sv cv (by omega) W0 hDW HB.out.2.1 cBx
      clear hW0 h2 hDW cBx
      refine wpIn_rangeP rfl (by omega) (gf := 94) (lb := #[.pointer (some ⟨wr.heap.size, 0, none⟩)]) rfl trivial (enters_of Try.func94 rfl rfl) hseq KpO.trans (fun W l o o' _ h hc => kpo_put W l o o' h hc) (Below.refl _ _) (fun _ => rfl)
        (fun pre W => Cr2 w O d D nv sv cv W0 T0 ps pre W) (fun c pre W => c = .exit 2 ∧ ∃ pre', Cr2 w O d D nv sv cv W0 T0 ps pre' W ∧ crL D.safe (pre'.map unp) ps = crash D ps) (fun s A B h hb => h.below hb) (fun c s A B h hb => by obtain ⟨h1, p', h2, h3⟩ := h; exact ⟨h1, p', h2.below hb, h3⟩) (fun s A l o o' hl h hc hi => hi.put hl h hc) (fun c s A l o o' hl h hc hi => by obtain ⟨h1, p', h2, h3⟩ := hi; exact ⟨h1, p', h2.put hl h hc, h3⟩) H2.out
        (fun pre x a' W => ∃ X, a' = { tmps := #[.pointer (some ⟨d, 0, none⟩), .slice pa pn pc, undef, .pointer (some ⟨w.heap.size, 0, none⟩), .slice none 0 0, .pointer (some ⟨w.heap.size + 1 + 1, 0, none⟩), u6, u7, .int .i64 (x.1 : Int), .pointer (some ⟨X, 0, none⟩), undef, undef, undef, .pointer (some ⟨d, 0, none⟩), .pointer (some ⟨d, 0, none⟩), .pointer (some ⟨d, 24, none⟩), .slice (some ⟨w.heap.size + 1, 0, none⟩) 8 8, .pointer (some ⟨d, 0, none⟩), .pointer (some ⟨d, 0, none⟩), .pointer (some ⟨d, 0, none⟩), .agg (dk24 nv sv cv), .int .i64 8, .bool false, u23, u24, u25, u26, u27, u28, u29, u30, u31, .pointer (some ⟨d, 0, none⟩), .func (.func 94) #[] #[.pointer (some ⟨wr.heap.size, 0, none⟩)], .int .i64 (x.1 : Int), .agg (chc x.2.1 x.2.2), undef, undef, undef, undef, undef, undef, undef, undef, undef, undef, undef, undef, undef, undef, undef, undef, undef, undef, undef, undef, undef, undef, undef, undef, undef, undef], defers := [] } ∧ Bk W X (chc x.2.1 x.2.2) 128 ∧ W0.heap.size ≤ X ∧ UnG O { D with off := true } pre x W)
        (fun pre x a' A l o o' _ h hc hx => by
          obtain ⟨X, e1, e2, e3, e4⟩ := hx
          exact ⟨X, e1, bk_put9 e2 h hc, e3, ung_put e4 h hc⟩) ?assign ?body ?done ?stop
      case assign =>
        intro l pre x A0 W K hi0 hbA hgd hi hK
        obtain ⟨f, c, bv⟩ := x
        obtain ⟨ad0, n0, cap0, rfl⟩ : ∃ a n c, bv = .slice a n c := ownsRow_sl hgd.2.1
        simp only [unenc]
        have hbA2 := (Below.refl W.heap.size W).alloc (Nat.le_refl _) (.cells (chc c (.slice ad0 n0 cap0)) 128)
        have HA2 : Hid (Below W.heap.size W (W.alloc (.cells (chc c (.slice ad0 n0 cap0)) 128))) := hbA2
        have hzW : W0.heap.size ≤ W.heap.size := (hi.keep HD.out).2.2.2
        clear hbA2
        gi_wp2
        exact hK _ _ (kf_below HA2.out) (KpO.of_below HA2.out) (hi.below HA2.out) ⟨W.heap.size, rfl, Bk.new _ _ _, hzW, hgd.1, hgd.2.1.below HA2.out hgd.2.1.lt, hgd.2.2.1, hgd.2.2.2.1, hgd.2.2.2.2⟩
      case body =>
        rintro l pre x a' W hI ⟨X, rfl, bX, hX, hG⟩
        have HI : Hid (Cr2 w O d D nv sv cv W0 T0 ps pre W) := hI
        obtain ⟨kD, kF, kR, kz⟩ := hI.keep HD.out
        obtain ⟨T, rv, pv, hR, hF, hRp, hpb⟩ := hI.ex
        have cP := hR.box.cell 0
        have fP := hR.box.frozen 0
        have lP := hR.box.lt
        simp only [List.getElem?_toArray, List.getElem?_cons_zero] at cP
        obtain ⟨pad9, pcap9, rfl, hple, hpm, hprg, hpc⟩ := hRp
        have hlen9 : (ps.drop pre.length).length = ps.length - pre.length := by simp
        by_cases hz : ps.length = pre.length
        · have hl0 : (ps.drop pre.length).length = 0 := by omega
          rw [hl0] at cP
          have HE : Hid (crL D.safe (pre.map unp) ps = crash D ps) := by
            obtain ⟨rest, hrest⟩ := hG.2.2.2.2
            show _ = _
            unfold crash
            have e : gl D 8 = pre.map unp ++ unp x :: rest := hrest
            rw [e]
            exact (crL_over _ _ _ _ (by rw [List.length_map]; omega)).symm
          clear hI hR hF hprg hpc hG kD kF hpb
          gi_wp2
          exact ⟨KeepsFrom.refl _ _, rfl, pre, HI.out, HE.out⟩
        · have hlt9 : pre.length < ps.length := by have := HI.out.len; omega
          obtain ⟨m, hm⟩ : ∃ m, (ps.drop pre.length).length = m + 1 := ⟨ps.length - pre.length - 1, by omega⟩
          obtain ⟨pb9, off9, e9, cp0⟩ := hpc 0 (by omega)
          subst e9
          rw [Nat.add_zero] at cp0
          have hget : (ps.drop pre.length)[0]'(by omega) = ps[pre.length] := by simp
          rw [hget] at cp0
          rw [hm] at cP hple
          obtain ⟨hT1, hT2⟩ := hpb pb9 off9 _ _ rfl (by omega)
          have hpT : T pb9 = 0 := hF.old _ hT2 hT1
          have htail : Rp W (.slice (some ⟨pb9, off9 + 1, none⟩) m (pcap9 - 1)) (ps.drop (pre.length + 1)) := by
            have hl9 : (ps.drop (pre.length + 1)).length = m := by simp at hm ⊢; omega
            refine ⟨some ⟨pb9, off9 + 1, none⟩, pcap9 - 1, by rw [hl9], by omega, by omega, fun p hp => hprg p (List.mem_of_mem_drop (i := 1) (by rw [List.drop_drop]; exact hp)), fun i hi => ?_⟩
            obtain ⟨b2, o2, e2, c2⟩ := hpc (i + 1) (by omega)
            simp at e2
            obtain ⟨rfl, rfl⟩ := e2
            refine ⟨_, _, rfl, ?_⟩
            rw [show off9 + 1 + i = off9 + (i + 1) by omega, c2]
            simp [Nat.add_assoc, Nat.add_comm 1 i]
          have htail0 : m = 0 → Rp W (.slice (some ⟨pb9, off9, none⟩) 0 0) (ps.drop (pre.length + 1)) := fun h0 => by
            have hl9 : ps.drop (pre.length + 1) = [] := List.length_eq_zero_iff.1 (by simp at hm ⊢; omega)
            rw [hl9]
            exact ⟨some ⟨pb9, off9, none⟩, 0, rfl, by simp, by simp, (fun p hp => by simp at hp), fun i hi => by simp at hi⟩
          have H3 : Hid (∀ pv' : Value, (pv' = .slice (some ⟨pb9, off9 + 1, none⟩) m (pcap9 - 1) ∨ (m = 0 ∧ pv' = .slice (some ⟨pb9, off9, none⟩) 0 0)) → Cr3 w O d D nv sv cv W0 T0 ps pre T rv pv' (W.setCell ⟨w.heap.size, 0, none⟩ pv') ∧ Fp T W T (W.setCell ⟨w.heap.size, 0, none⟩ pv')) := fun pv' hpv => by
            obtain ⟨p1, p2⟩ := hR.pick pv'
            refine ⟨⟨p1, hF.trans p2, ?_, fun b n m' c e hm' => ?_, hlt9, HI.out.bd, HI.out.base, HI.out.t0⟩, p2⟩
            · rcases hpv with rfl | ⟨h0, rfl⟩
              · exact htail.fp p2 fun b n c e => by simp at e; obtain ⟨⟨rfl, _⟩, _⟩ := e; exact hpT
              · exact (htail0 h0).fp p2 fun b n c e => by simp at e; obtain ⟨⟨rfl, _⟩, _⟩ := e; exact hpT
            · rcases hpv with rfl | ⟨h0, rfl⟩
              · simp at e; obtain ⟨⟨rfl, _⟩, _⟩ := e; exact ⟨hT1, hT2⟩
              · simp at e; obtain ⟨⟨rfl, _⟩, _⟩ := e; exact ⟨hT1, hT2⟩
          obtain ⟨f, c, bv⟩ := x
          obtain ⟨hf8, hbv, htag, hmem, hrest⟩ := hG
          simp only [] at hf8 hbv htag hmem bX
          obtain ⟨ad0, n0, cap0, rfl⟩ := ownsRow_sl hbv
          have hcB : ChB c := HB.out.2.2 f hf8 c hmem
          have hXw : X ≠ w.heap.size := by have := HI.out.t0.2.2; omega
          have HG : Hid (f < 8 ∧ Ow W 0 (.slice ad0 n0 cap0) c.bs ∧ (∀ b, (Value.slice ad0 n0 cap0).ownBlock = some b → T b = 0) ∧ ChB c ∧ Bk W X (chc c (.slice ad0 n0 cap0)) 128) := ⟨hf8, hbv, fun b e => by
            have h1 := htag b e
            have h2 := HD.out.lt b (by omega)
            exact hF.old b (by have := HI.out.t0.2.2; omega) (HI.out.t0.1 b h2), hcB, bX⟩
          have Hp : Hid (-9223372036854775808 ≤ ps[pre.length] ∧ ps[pre.length] ≤ 9223372036854775807) := hprg _ (by rw [← hget]; exact List.getElem_mem _)
          obtain ⟨p, hp⟩ : ∃ p, p = ps[pre.length] := ⟨_, rfl⟩
          rw [← hp] at cp0 Hp
          have HPp : Hid (p = ps[pre.length]) := hp
          have hcap1 : m + 1 ≤ pcap9 := hple
          have x0 := bX.cell 0
          have x1 := bX.cell 1
          have x2 := bX.cell 2
          simp only [List.getElem?_toArray, List.getElem?_cons_zero, List.getElem?_cons_succ] at x0 x1 x2
          have HKp : Hid (∀ pv' : Value, (pv' = .slice (some ⟨pb9, off9 + 1, none⟩) m (pcap9 - 1) ∨ (m = 0 ∧ pv' = .slice (some ⟨pb9, off9, none⟩) 0 0)) → Calls Try.prog 82 #[.agg #[.bool c.cut, .int .i64 (c.pos : Int), .slice ad0 n0 cap0], .int .i64 p] (W.setCell ⟨w.heap.size, 0, none⟩ pv') fun e w' => kptV w' (kpt c p) (.slice ad0 n0 cap0) e ∧ Below (W.setCell ⟨w.heap.size, 0, none⟩ pv').heap.size (W.setCell ⟨w.heap.size, 0, none⟩ pv') w') := fun pv' hpv => by
            have hF3 := (H3.out pv' hpv).2
            exact kept9 _ c (.slice ad0 n0 cap0) p (HG.out.2.1.same fun b e => hF3.keep b (HG.out.2.1.lt b e) (HG.out.2.2.1 b e)) (by have := HG.out.2.2.2.1.1; omega) Hp.out
          have hm0 : pcap9 = 1 → m = 0 := fun e => by omega
          clear hI hR hF hprg hpc kD kF hpb hget hp htail htail0 hbv htag hmem hrest hcB bX hT1 hT2 hpT hlen9 hz hm hpm hple
          cases hkp : kpt c p with
          | none =>
            rw [hkp] at HKp
            have Hkp : Hid (kpt c p = none) := hkp
            clear hkp
            gi_wp2_with (refine ⟨trivial, ?_⟩; gi_at_call 82; refine (CallsIn.inRound l (callsIn_wide.2 (HKp.out _ (by first | exact .inl rfl | exact .inr ⟨by omega, rfl⟩)))).mono ?_; rintro e w3 ⟨rfl, hb3⟩)
            all_goals
              have hb4 := hb3.trans ((Below.refl w3.heap.size w3).alloc (Nat.le_refl _) (.cells #[.bool false, .int .i64 0, .slice none 0 0] 128) |>.mono hb3.size)
              first
              | exact cr_none HD.out (H3.out _ (.inl rfl)) hb4 HPp.out Hkp.out
              | exact cr_none HD.out (H3.out _ (.inr ⟨by omega, rfl⟩)) hb4 HPp.out Hkp.out
          | some c' =>
            have hc2 : c'.pos + c'.bs.length ≤ 131072 ∧ (c'.cut = false → 0 < c'.bs.length) := by
              have hcb := HG.out.2.2.2.1
              unfold kpt at hkp
              by_cases h0 : p = 0
              · rw [if_pos h0] at hkp; injection hkp with hkp; subst hkp; exact hcb
              · rw [if_neg h0] at hkp
                by_cases h1 : c.cut = true ∨ p ≤ 2
                · rw [if_pos h1] at hkp; cases hkp
                · rw [if_neg h1] at hkp; injection hkp with hkp; subst hkp
                  have h2 := hcb.1
                  have h3 : c.cut = false := by cases e : c.cut <;> simp_all
                  have h4 := hcb.2 h3
                  refine ⟨by simp; omega, fun _ => by simp; omega⟩
            rw [hkp] at HKp
            have Hkp : Hid (kpt c p = some c' ∧ c'.pos + c'.bs.length ≤ 131072 ∧ (c'.cut = false → 0 < c'.bs.length)) := ⟨hkp, hc2⟩
            clear hkp hc2
            gi_wp2_with (refine ⟨trivial, ?_⟩; gi_at_call 82; refine (CallsIn.inRound l (callsIn_wide.2 (HKp.out _ (by first | exact .inl rfl | exact .inr ⟨by omega, rfl⟩)))).mono ?_; rintro e w3 ⟨⟨bv3, rfl, ho3, he3⟩, hb3⟩; obtain ⟨ad3, n3, cap3, rfl⟩ := ownsRow_sl ho3)
            all_goals
              obtain ⟨pv9, W2, h9, hb9⟩ : ∃ pv9 W2, (Cr3 w O d D nv sv cv W0 T0 ps pre T rv pv9 W2 ∧ Fp T W T W2) ∧ Below W2.heap.size W2 w3 := by
                first
                | exact ⟨_, _, H3.out _ (.inl rfl), hb3⟩
                | exact ⟨_, _, H3.out _ (.inr ⟨by omega, rfl⟩), hb3⟩
              have H9 : Hid (Cr3 w O d D nv sv cv W0 T0 ps pre T rv pv9 W2 ∧ Fp T W T W2) := h9
              obtain ⟨A, hA⟩ : ∃ A, A = w3.alloc (.cells (chc c' (.slice ad3 n3 cap3)) 128) := ⟨_, rfl⟩
              have hA3 : Below w3.heap.size w3 A := by rw [hA]; exact (Below.refl _ _).alloc (Nat.le_refl _) _
              have hA2 : Below W2.heap.size W2 A := hb9.trans (hA3.mono hb9.size)
              have HA2 : Hid (Below W2.heap.size W2 A) := hA2
              have HY : Hid (Bk A w3.heap.size (chc c' (.slice ad3 n3 cap3)) 128) := by show Bk _ _ _ _; rw [hA]; exact Bk.new _ _ _
              have hC := h9.1.below hA2
              have hwc : W2.heap.size ≤ w3.heap.size := hb9.size
              have hw0 : W0.heap.size ≤ W2.heap.size := h9.1.fp.size
              have cRA : A.cell? ⟨w.heap.size + 1 + 1, 0, none⟩ = some (.slice (some ⟨w.heap.size + 1, 0, none⟩) 8 8) := hC.fp.cell hC.base.2.2 hC.t0.2.1
              have cf : A.drew.cell? ⟨w.heap.size + 1, f, none⟩ = some (rv f) := (hC.rw.blk.cell f).trans (r8_at rv HG.out.1)
              have HRb : Hid (Bk A (w.heap.size + 1) (r8 rv) 58 ∧ T (w.heap.size + 1) = 9 ∧ (∀ b, (rv f).ownBlock = some b → T b = f + 1) ∧ w.heap.size + 3 ≤ W0.heap.size) := ⟨hC.rw.blk, hC.rw.tb, hC.rw.tg f HG.out.1, hC.t0.2.2⟩
              have hlf : f < 8 := HG.out.1
              have hlf' : (f : Int) < 8 := by omega
              have hbv3 : Ow A 0 (.slice ad3 n3 cap3) c'.bs := ho3.below hA3 ho3.lt
              have hneR : (rv f).ownBlock = none ∨ (rv f).ownBlock ≠ (Value.slice ad3 n3 cap3).ownBlock := by
                cases e : (rv f).ownBlock with
                | none => exact .inl rfl
                | some b => right; intro e2; rw [he3] at e2; have h1 := HG.out.2.2.1 b e2.symm; have h2 := hC.rw.tg f HG.out.1 b e; omega
              have hr9 : (crL D.safe (pre.map unp) ps f).length ≤ 131072 := hC.bd f HG.out.1
              have hrvl : ∀ b, (rv f).ownBlock = some b → b < A.heap.size := (hC.rw.ow f HG.out.1).lt
              have HOv : Hid (Calls Try.prog 83 #[.agg (chc c' (.slice ad3 n3 cap3)), rv f] A.drew fun e w' => ∃ rv', e = .returned rv' ∧ Ow w' 0 rv' (ovr c' (crL D.safe (pre.map unp) ps f)) ∧ A.drew.grownBy w' (rv f).ownBlock ∧ Sn A.drew (rv f) rv') := over A.drew c' _ _ _ ((hC.rw.ow f HG.out.1).below ((Below.refl _ A).drew) hrvl) (hbv3.below ((Below.refl _ A).drew) hbv3.lt) hneR Hkp.out.2.2 (by omega) (by have := Hkp.out.2.1; omega)
              obtain ⟨ar, nr, cr, er⟩ := ownsRow_sl (hC.rw.ow f HG.out.1)
              have hrf1 : (rv f).oneCell' = true := by rw [er]; rfl
              rw [← hA]
              clear hb3 ho3 he3 hb9 hA hC hbv3 hneR hr9 er h9
              refine round_held (S := fun W' => W'.cell? ⟨w.heap.size + 1 + 1, 0, none⟩ = some (.slice (some ⟨w.heap.size + 1, 0, none⟩) 8 8) ∧ Bk W' w3.heap.size (chc c' (.slice ad3 n3 cap3)) 128) (by kernel_rfl) (by kernel_rfl) (fun _ _ h => h) ?_ (fun hHeld => ?_)
              · ((try dsimp only); exact ⟨cRA, HY.out.drew⟩)
              (try dsimp only at hHeld)
              refine wpAnyH_take (i := 0) (oi := ⟨some 52, _, _, _, _, _⟩) (v := ?_) rfl (by kernel_rfl) (by kernel_rfl) (by kernel_rfl) (fun _ _ _ h => h) (Or.inl ⟨by rfl, ?_⟩) (by assumption) ?_
              rotate_left
              · (intro w hSw; (try dsimp only at hSw); go_simp; try (with_reducible rfl))
              (try dsimp only); (try simp only [Act.put, List.setIfInBounds_toArray, List.set_cons_zero, List.set_cons_succ])
              refine wpAnyH_take (i := 1) (oi := ⟨some 53, _, _, _, _, _⟩) (v := ?_) rfl (by kernel_rfl) (by kernel_rfl) (by kernel_rfl) (fun _ _ _ h => h) (Or.inl ⟨by rfl, ?_⟩) (by assumption) ?_
              rotate_left
              · (intro w hSw; (try dsimp only at hSw); go_simp; try (with_reducible rfl))
              (try dsimp only); (try simp only [Act.put, List.setIfInBounds_toArray, List.set_cons_zero, List.set_cons_succ])
              refine wpAnyH_take (i := 2) (oi := ⟨some 54, _, _, _, _, _⟩) rfl (by kernel_rfl) (by kernel_rfl) (by kernel_rfl) (fun _ _ _ h => h) (yl_ch (by rfl) _ rfl rfl (fun w' h => range_bk h.2)) (by assumption) ?_
              (try dsimp only); (try simp only [Act.put, List.setIfInBounds_toArray, List.set_cons_zero, List.set_cons_succ])
              refine wpAnyH_take (i := 3) (oi := ⟨some 55, _, _, _, _, _⟩) (v := ?_) rfl (by kernel_rfl) (by kernel_rfl) (by kernel_rfl) (fun _ _ _ h => h) (Or.inl ⟨by rfl, ?_⟩) (by assumption) ?_
              rotate_left
              · (intro w hSw; (try dsimp only at hSw); go_simp; try (with_reducible rfl))
              (try dsimp only); (try simp only [Act.put, List.setIfInBounds_toArray, List.set_cons_zero, List.set_cons_succ])
              refine wpAnyH_take (i := 4) (oi := ⟨some 56, _, _, _, _, _⟩) (v := ?_) rfl (by kernel_rfl) (by kernel_rfl) (by kernel_rfl) (fun _ _ _ h => h) (Or.inl ⟨by rfl, ?_⟩) (by assumption) ?_
              rotate_left
              · (intro w hSw; (try dsimp only at hSw); go_simp; try (with_reducible rfl))
              (try dsimp only); (try simp only [Act.put, List.setIfInBounds_toArray, List.set_cons_zero, List.set_cons_succ])
              refine wpAnyH_take (i := 5) (oi := ⟨some 57, _, _, _, _, _⟩) (v := ?_) rfl (by kernel_rfl) (by kernel_rfl) (by kernel_rfl) (fun _ _ _ h => h) (Or.inl ⟨by rfl, ?_⟩) (by assumption) ?_
              rotate_left
              · (intro w hSw; (try dsimp only at hSw); go_simp; try (with_reducible rfl))
              (try dsimp only); (try simp only [Act.put, List.setIfInBounds_toArray, List.set_cons_zero, List.set_cons_succ])
              refine wpAnyH_ready (rs := [6]) (by kernel_rfl) (by simp) ?_
              refine AllReadyH.cons (o := ⟨some 58, _, _, _, _, _⟩) rfl (fun K hK => ?_) AllReadyH.nil
              go_simp
              refine hK.out _ _ hHeld (fun hHeld => ?_)
              clear hK K
              (try dsimp only); (try simp only [Act.put, List.setIfInBounds_toArray, List.set_cons_zero, List.set_cons_succ])
              refine wpAnyH_ready (rs := [7]) (by kernel_rfl) (by simp) ?_
              refine AllReadyH.cons (o := ⟨some 59, _, _, _, _, _⟩) rfl (fun K hK => ?_) AllReadyH.nil
              go_simp
              refine HOv.out.mono ?_
              rintro e w6 ⟨rv6, rfl, ho6, hg6, hs6⟩
              obtain ⟨ad6, n6, cap6, rfl⟩ := ownsRow_sl ho6
              have HE6 : Hid (KeepsFrom W0.heap.size W (w6.setCell ⟨w.heap.size + 1, f, none⟩ (.slice ad6 n6 cap6)) ∧ KpO O W (w6.setCell ⟨w.heap.size + 1, f, none⟩ (.slice ad6 n6 cap6)) ∧ Cr2 w O d D nv sv cv W0 T0 ps (pre ++ [(f, c, .slice ad0 n0 cap0)]) (w6.setCell ⟨w.heap.size + 1, f, none⟩ (.slice ad6 n6 cap6))) := cr_some (x := (f, c, .slice ad0 n0 cap0)) HD.out H9.out (HA2.out.drew) HPp.out hlf Hkp.out.1 Hkp.out.2.1 ho6 hg6 hs6
              have b6 : Bk w6 (w.heap.size + 1) (r8 rv) 58 := HRb.out.1.drew.grown hg6 (fun e => by have h1 := HRb.out.2.2.1 _ e.symm; have h2 := HRb.out.2.1; omega)
              have p6 : w6.cell? ⟨w.heap.size + 1, f, none⟩ = some (rv f) := (b6.cell f).trans (r8_at rv hlf)
              have pf6 := b6.frozen f
              have pl6 := b6.lt
              have y6 : Bk w6 w3.heap.size (chc c' (.slice ad3 n3 cap3)) 128 := hHeld.2.grown hg6 (fun e => by have h1 := (H9.out.1.rw.ow f hlf).lt _ e.symm; omega)
              have r6 : w6.cell? ⟨w.heap.size + 1 + 1, 0, none⟩ = some (.slice (some ⟨w.heap.size + 1, 0, none⟩) 8 8) := (World.cell?_of_block (w := A.drew) (a := ⟨w.heap.size + 1 + 1, 0, none⟩) (hg6.block _ (cell_lt9 hHeld.1) (fun e => by have h1 := HRb.out.2.2.1 _ e.symm; have h2 := H9.out.1.fp.old _ (by have := HRb.out.2.2.2; show w.heap.size + 1 + 1 < _; omega) H9.out.1.t0.2.1; have h3 : T (w.heap.size + 2) = f + 1 := h1; omega))).trans hHeld.1
              refine hK.out _ _ ⟨r6, y6⟩ (fun hHeld => ?_)
              clear hK K b6 ho6 hg6 hs6 cf
              (try dsimp only); (try simp only [Act.put, List.setIfInBounds_toArray, List.set_cons_zero, List.set_cons_succ])
              refine wpAnyH_take (i := 8) (oi := ⟨some 60, _, _, _, _, _⟩) (v := ?_) rfl (by kernel_rfl) (by kernel_rfl) (by kernel_rfl) (fun _ _ _ h => h) (Or.inl ⟨by rfl, ?_⟩) (by assumption) ?_
              rotate_left
              · (intro w hSw; (try dsimp only at hSw); go_simp; try (with_reducible rfl))
              (try dsimp only); (try simp only [Act.put, List.setIfInBounds_toArray, List.set_cons_zero, List.set_cons_succ])
              refine wpAnyH_ready (rs := [9]) (by kernel_rfl) (by simp) ?_
              refine AllReadyH.cons (o := ⟨none, _, _, _, _, _⟩) rfl (fun K hK => ?_) AllReadyH.nil
              go_simp
              refine hK.out _ _ ⟨(World.cell?_of_block (w := w6) (Below.heap_setCell w6 _ _ _ (by show w.heap.size + 1 + 1 ≠ w.heap.size + 1; omega))).trans hHeld.1, hHeld.2.other (a := ⟨w.heap.size + 1, f, none⟩) (by have := HRb.out.2.2.2; show w3.heap.size ≠ w.heap.size + 1; omega) _⟩ (fun hHeld => ?_)
              clear hK K
              (try dsimp only); (try simp only [Act.put, List.setIfInBounds_toArray, List.set_cons_zero, List.set_cons_succ])
              refine wpAnyH_done (by kernel_rfl) ?_ _
              exact HE6.out
      case done =>
        rintro D9 xs W hD9 hxs hi1 hK
        have he : crL D.safe (xs.map unp) ps = crash D ps := by
          have e : xs.map unp = gl D 8 := hxs
          rw [e]; rfl
        obtain ⟨k1, k2, kR, k4⟩ := hi1.keep HD.out
        have HEnd := cr2_end HD.out (hi1.put (o' := .deferred none) hD9 hK rfl) he
        have HEnd : Hid _ := HEnd
        clear hi1 he k1 k2
        gi_wp2
        simp only [Exit.noGoto]
        refine ⟨by simp, .inl ⟨_, _, rfl, run_takeDeferred hK, ?_⟩⟩
        refine ⟨.slice (some ⟨w.heap.size + 1, 0, none⟩) 8 8, ?_, HEnd.out⟩
        simp [results, Try.f62, go_sem]
      case stop =>
        rintro D9 c pre W hD9 _ ⟨rfl, p', hi1, he⟩ hK
        obtain ⟨k1, k2, kR, k4⟩ := hi1.keep HD.out
        have HEnd := cr2_end HD.out (hi1.put (o' := .deferred none) hD9 hK rfl) he
        have HEnd : Hid _ := HEnd
        clear hi1 he k1 k2
        gi_wp2
        simp only [Exit.noGoto]
        refine ⟨by simp, .inl ⟨_, _, rfl, run_takeDeferred hK, ?_⟩⟩
        refine ⟨.slice (some ⟨w.heap.size + 1, 0, none⟩) 8 8, ?_, HEnd.out⟩
        simp [results, Try.f62, go_sem]
end Go.Proofs.Ytjbhegakgdcldaa
end
section
set_option linter.unusedSimpArgs false
set_option linter.unusedVariables false
namespace Go.Proofs.Ytjbhegakgdcldaa
open Go.RowKit

/-! The program's disk alone: what each call makes of it. -/
structure D1 (w W : World) (d : Nat) (O : Nat → Nat) (D : Ds) : Prop where
  dk : ∃ nv sv cv, DK W O d D nv sv cv
  lo : ∀ b, O b ≠ 0 → w.heap.size ≤ b
  bel : Below w.heap.size w W
section
variable {w W W' : World} {d : Nat} {O O' : Nat → Nat} {D D' : Ds}
theorem D1.olt (h : D1 w W d O D) : ∀ b, O b ≠ 0 → b < W.heap.size := by obtain ⟨_, _, _, h⟩ := h.dk; exact h.lt
theorem D1.dlt (h : D1 w W d O D) : d < W.heap.size := by obtain ⟨_, _, _, h⟩ := h.dk; exact h.blk.lt
theorem D1.old (h : D1 w W d O D) {b : Nat} (hb : b < w.heap.size) : O b = 0 := Classical.byContradiction fun h2 => by have := h.lo b h2; omega
theorem D1.new (h : D1 w W d O D) {b : Nat} (hb : W.heap.size ≤ b) : O b = 0 := Classical.byContradiction fun h2 => by have := h.olt b h2; omega
theorem D1.keep (h : D1 w W d O D) (hk : ∀ b, O b ≠ 0 → W'.heap[b]? = W.heap[b]?) (hz : W.heap.size ≤ W'.heap.size) (hb : Below w.heap.size w W') : D1 w W' d O D := by
  obtain ⟨nv, sv, cv, h1⟩ := h.dk
  exact ⟨⟨nv, sv, cv, h1.frame hz hk⟩, h.lo, hb⟩
theorem D1.below (h : D1 w W d O D) (hb : Below W.heap.size W W') : D1 w W' d O D :=
  h.keep (fun b hb' => hb.block b (h.olt b hb')) hb.size (h.bel.trans (hb.mono h.bel.size))
theorem D1.drew (h : D1 w W d O D) : D1 w W.drew d O D := h.below (Below.refl _ _).drew
theorem D1.prog (h : D1 w W d O D) (dk' : ∃ nv sv cv, DK W' O' d D' nv sv cv) (hf : Fp O W O' W') : D1 w W' d O' D' := by
  obtain ⟨h1, h2⟩ := fp_low h.bel h.lo hf
  exact ⟨dk', h2, h1⟩
theorem Few.n40 {n : Nat} (h : Few D n) (hn : n ≤ 1000) : (∀ i, i < 8 → (D.now i).length ≤ 131072) ∧ (∀ i, i < 8 → (D.safe i).length ≤ 131072) ∧ (∀ i, i < 8 → (D.chs i).length ≤ 131072000) ∧ ∀ i, i < 8 → ∀ c ∈ D.chs i, ChB c :=
  ⟨h.inv.len, h.inv.saf, fun i hi => Nat.le_trans (h.few i hi) (by have := Nat.mul_le_mul_right 131072 hn; omega), h.inv.chb⟩
theorem d1Size (h : D1 w W d O D) (f : Int) : Calls Try.prog 28 #[.pointer (some ⟨d, 0, none⟩), .int .i64 f] W fun e w' => e = .returned (.tuple #[.int .i64 (sizeV D f), .int .i64 (fndE D.off f)]) ∧ w' = W := by
  obtain ⟨nv, sv, cv, h1⟩ := h.dk
  exact size9 W O d D nv sv cv f h1
theorem d1Read (h : D1 w W d O D) {q : Nat} (hf : Few D q) (f at_ n : Int) (h1 : -9223372036854775808 ≤ n ∧ n ≤ 9223372036854775807) (h2 : -9223372036854775808 ≤ at_ ∧ at_ ≤ 9223372036854775807) :
    Calls Try.prog 72 #[.pointer (some ⟨d, 0, none⟩), .int .i64 f, .int .i64 at_, .int .i64 n] W fun e w' => ∃ v', e = .returned (.tuple #[v', .int .i64 (rdE D f at_ n)]) ∧ Ow w' W.heap.size v' (rdV D f at_ n) ∧ Below W.heap.size W w' := by
  obtain ⟨nv, sv, cv, hd⟩ := h.dk
  exact read9 W O d D nv sv cv f at_ n hd (fun i hi => Nat.le_trans (hf.inv.len i hi) (by omega)) h1 h2
theorem d1Write (h : D1 w W d O D) {q : Nat} (hf : Few D q) (hq : q ≤ 1000) (f at_ : Int) (ad : Option Addr) (bs : List UInt8) (bc : Nat) (hb : Rb W (.slice ad bs.length bc) bs) (hO : ∀ b n, ad = some ⟨b, n, none⟩ → O b = 0) :
    Calls Try.prog 93 #[.pointer (some ⟨d, 0, none⟩), .int .i64 f, .int .i64 at_, .slice ad bs.length bc] W fun e w' => e = .returned (.int .i64 (wrE D f at_ bs.length)) ∧ ∃ O', D1 w w' d O' (wrD D f at_ bs) ∧ Fp O W O' w' := by
  obtain ⟨nv, sv, cv, hd⟩ := h.dk
  obtain ⟨f1, f2, f3, f4⟩ := hf.n40 hq
  have hl : bs.length ≤ 9223372036854775807 := by
    obtain ⟨_, _, e, _, h2, _⟩ := hb
    exact h2
  refine (write9 W O d D nv sv cv f at_ ad bs bc hd f1 (fun i hi => Nat.le_trans (f3 i hi) (by omega)) hl hb hO).mono ?_
  rintro e w' ⟨rfl, O', nv', sv', cv', h1, h2⟩
  exact ⟨rfl, O', h.prog ⟨_, _, _, h1⟩ h2, h2⟩
theorem d1Cut (h : D1 w W d O D) {q : Nat} (hf : Few D q) (hq : q ≤ 1000) (f n : Int) :
    Calls Try.prog 92 #[.pointer (some ⟨d, 0, none⟩), .int .i64 f, .int .i64 n] W fun e w' => e = .returned (.int .i64 (cutE D f n)) ∧ ∃ O', D1 w w' d O' (cutD D f n) ∧ Fp O W O' w' := by
  obtain ⟨nv, sv, cv, hd⟩ := h.dk
  obtain ⟨f1, f2, f3, f4⟩ := hf.n40 hq
  refine (cut9 W O d D nv sv cv f n hd (fun i hi => Nat.le_trans (f1 i hi) (by omega)) (fun i hi => Nat.le_trans (f3 i hi) (by omega))).mono ?_
  rintro e w' ⟨rfl, O', nv', sv', cv', h1, h2⟩
  exact ⟨rfl, O', h.prog ⟨_, _, _, h1⟩ h2, h2⟩
theorem d1Sync (h : D1 w W d O D) {q : Nat} (hf : Few D q) (hq : q ≤ 1000) (f : Int) :
    Calls Try.prog 76 #[.pointer (some ⟨d, 0, none⟩), .int .i64 f] W fun e w' => e = .returned (.int .i64 (cntE D f)) ∧ ∃ O', D1 w w' d O' (psyD D f) ∧ Fp O W O' w' := by
  obtain ⟨nv, sv, cv, hd⟩ := h.dk
  obtain ⟨f1, f2, f3, f4⟩ := hf.n40 hq
  refine (sync9 W O d D nv sv cv f hd f2 (fun i hi => Nat.le_trans (f3 i hi) (by omega)) f4).mono ?_
  rintro e w' ⟨rfl, O', nv', sv', cv', h1, h2⟩
  rw [hf.inv.syD] at h1
  exact ⟨rfl, O', h.prog ⟨_, _, _, h1⟩ h2, h2⟩
theorem d1Off (h : D1 w W d O D) (n : Int) (hn : n ≤ 9223372036854775807) :
    Calls Try.prog 34 #[.pointer (some ⟨d, 0, none⟩), .int .i64 n] W fun e w' => (∃ v, e = .returned v) ∧ D1 w w' d O (offD D n) ∧ Fp O W O w' := by
  obtain ⟨nv, sv, cv, hd⟩ := h.dk
  refine (off9 W O d D nv sv cv n hd hn).mono ?_
  rintro e w' ⟨he, ht⟩
  have hf : Fp O W O w' := Fp.of_turn ht hd.blk (by rw [hd.td]; omega)
  exact ⟨he, h.prog ⟨_, _, _, hd.turn (tO := n.toNat) ht (by omega) hd.bF⟩ hf, hf⟩
theorem d1Fail (h : D1 w W d O D) (n : Int) (hn : n ≤ 9223372036854775807) :
    Calls Try.prog 40 #[.pointer (some ⟨d, 0, none⟩), .int .i64 n] W fun e w' => (∃ v, e = .returned v) ∧ D1 w w' d O (failD D n) ∧ Fp O W O w' := by
  obtain ⟨nv, sv, cv, hd⟩ := h.dk
  refine (fail9 W O d D nv sv cv n hd hn).mono ?_
  rintro e w' ⟨he, ht⟩
  have hf : Fp O W O w' := Fp.of_turn ht hd.blk (by rw [hd.td]; omega)
  exact ⟨he, h.prog ⟨_, _, _, hd.turn (tF := n.toNat) ht hd.bO (by omega)⟩ hf, hf⟩
/-- What a crash tells: eight rows, of their own; wherever they lie. -/
def Rows8 (w W : World) (T : Nat → Nat) (rb : Nat) (r : Nat → List UInt8) : Prop := (∃ pb rv pv, RW W T rb pb rv pv r) ∧ (∀ b, T b ≠ 0 → w.heap.size ≤ b)
theorem d1Crash (h : D1 w W d O D) {q : Nat} (hf : Few D q) (hq : q ≤ 1000) (pv : Value) (ps : List Int) (hp : Rp W pv ps) (hpO : ps.length ≠ 0 → ∀ b n c, pv = .slice (some ⟨b, n, none⟩) ps.length c → O b = 0) :
    Calls Try.prog 62 #[.pointer (some ⟨d, 0, none⟩), pv] W fun e w' => ∃ T rb, e = .returned (.slice (some ⟨rb, 0, none⟩) 8 8) ∧ Rows8 W w' T rb (crash D ps) ∧ D1 w w' d O { D with off := true } ∧ Fp O W O w' := by
  obtain ⟨nv, sv, cv, hd⟩ := h.dk
  obtain ⟨f1, f2, f3, f4⟩ := hf.n40 hq
  refine (crash9 W O d D nv sv cv pv ps hd hp hpO f2 (fun i hi => Nat.le_trans (f3 i hi) (by omega)) f4).mono ?_
  rintro e w' ⟨T, rb, pb, rv, pv', rfl, h1, h2, h3, h4⟩
  exact ⟨T, rb, rfl, ⟨⟨pb, rv, pv', h1⟩, h2⟩, h.prog ⟨_, _, _, h3⟩ h4, h4⟩
end
/-- A new disk of rows that may be. -/
theorem d1New (w : World) (v : Value) (ls : List (List UInt8)) (h : Rl w v ls) (hn : ls.length = 0 ∨ ls.length = 8) (hs : Sml ls) :
    Calls Try.prog 56 #[v] w fun e w' => e = .returned (.tuple #[.pointer (some ⟨w.heap.size, 0, none⟩), .int .i64 0]) ∧ Below w.heap.size w w' ∧ ∃ O, D1 w w' w.heap.size O (dsN ls 8) := by
  refine (new9 w v ls h hn).mono ?_
  rintro e w' ⟨hb, ⟨h1, _⟩ | ⟨_, rfl, ⟨O, nv, sv, cv, h2, h3, h4⟩⟩⟩
  · exact absurd hs h1
  · rw [dsN_len hn] at h2
    exact ⟨rfl, hb, O, ⟨_, _, _, h2⟩, h3, h4⟩
theorem Rl.nil9 (w : World) : Rl w (.slice none 0 0) [] := ⟨none, 0, rfl, Nat.le_refl _, by simp, fun i hi => by simp at hi⟩
theorem Rp.nil9 (w : World) : Rp w (.slice none 0 0) [] := ⟨none, 0, rfl, Nat.le_refl _, (by simp), (fun p hp => by cases hp), (fun i hi => by simp at hi)⟩
theorem sml_nil : Sml [] := fun l hl => by cases hl
/-- What a write makes of a disk. -/
theorem wrD_ok {D : Ds} {f at_ : Int} {bs : List UInt8} (hw : wrE D f at_ bs.length = 0) : wrD D f at_ bs = { cnt D with now := upd D.now f.toNat (splice (pad (D.now f.toNat) (at_.toNat + bs.length)) at_.toNat bs), chs := upd D.chs f.toNat (D.chs f.toNat ++ (pcs at_.toNat bs.length 0).map (pch at_.toNat bs)) } := by
  obtain ⟨h0, i, a, rfl, hi, rfl, ha, hab⟩ := wrE_ok hw
  have e : wrD D (i : Int) (a : Int) bs = wrL (cnt D) i a bs (pcs a bs.length 0) := by unfold wrD; rw [if_pos hw, Int.toNat_natCast, Int.toNat_natCast]
  rw [e, wr_page (D := cnt D) ha, Int.toNat_natCast, Int.toNat_natCast]
  rfl
theorem wrD_no {D : Ds} {f at_ : Int} {bs : List UInt8} (hw : wrE D f at_ bs.length ≠ 0) : wrD D f at_ bs = cnt D := if_neg hw
theorem psyD_ok {D : Ds} {f : Int} (hc : cntE D f = 0) : psyD D f = { cnt D with safe := upd D.safe f.toNat (D.now f.toNat), chs := upd D.chs f.toNat [] } := if_pos hc
end Go.Proofs.Ytjbhegakgdcldaa
end
section
set_option linter.unusedSimpArgs false
set_option linter.unusedVariables false
namespace Go.Proofs.Ytjbhegakgdcldaa
open Go.RowKit

/-! A shelf's plain side: what each of its calls makes of its disk and of its places. -/
structure Pl where
  m : UInt8
  tx : ByteArray
deriving DecidableEq
def pl0 : Pl := ⟨0, ⟨#[]⟩⟩
def wordL : List UInt8 := [116, 97, 114, 110, 39, 115, 32, 115, 104, 101, 108, 102]
def imgH (n : Nat) (t : ByteArray) : List UInt8 := [0, UInt8.ofNat (t.size / 256), UInt8.ofNat t.size, UInt8.ofNat (n / 64)] ++ wordL
def img (n : Nat) (t : ByteArray) : List UInt8 := pad (imgH n t ++ t.data.toList) n
def swE (D : Ds) (f p : Nat) (bs : List UInt8) : Int := if wrE D f p bs.length ≠ 0 then wrE D f p bs.length else cntE (wrD D f p bs) f
def swD (D : Ds) (f p : Nat) (bs : List UInt8) : Ds := if wrE D f p bs.length ≠ 0 then wrD D f p bs else psyD (wrD D f p bs) f
/-- What a call told, and what there is behind it. -/
structure Rs where
  e : Int
  D : Ds
  ps : List Pl
def Rs.next (r : Rs) (k : Ds → List Pl → Rs) : Rs := if r.e ≠ 0 then r else k r.D r.ps
def setP (ps : List Pl) (at_ : Nat) (p : Pl) : List Pl := if at_ = ps.length then ps ++ [p] else ps.set at_ p
def mkR (f n at_ : Nat) (p : Pl) (D : Ds) (ps : List Pl) : Rs :=
  let e := swE D f (at_ * n) [p.m]
  ⟨e, swD D f (at_ * n) [p.m], if e ≠ 0 then ps else setP ps at_ p⟩
def lyR (f n at_ : Nat) (p : Pl) (D : Ds) (ps : List Pl) : Rs :=
  let e := swE D f (at_ * n) (img n p.tx)
  if e ≠ 0 then ⟨e, swD D f (at_ * n) (img n p.tx), ps⟩ else mkR f n at_ p (swD D f (at_ * n) (img n p.tx)) ps
def low : List Pl → Nat
  | [] => 0
  | p :: ps => if p.m = 0 then 0 else low ps + 1
def hasP (ps : List Pl) (i : Int) : Bool := decide (0 ≤ i) && decide (i < (ps.length : Int)) && decide ((ps.getD i.toNat pl0).m ≠ 0)
def getV (ps : List Pl) (i : Int) : ByteArray := if hasP ps i then (ps.getD i.toNat pl0).tx else ⟨#[]⟩
def getE (ps : List Pl) (i : Int) : Int := if hasP ps i then 0 else 3
/-- All that is taken, from a slot on. -/
def ents : Nat → List Pl → List (Nat × ByteArray)
  | _, [] => []
  | k, p :: ps => if p.m = 0 then ents (k + 1) ps else (k, p.tx) :: ents (k + 1) ps
/-- A call that may turn the mark of failure. -/
structure Rf where
  e : Int
  v : Int
  D : Ds
  ps : List Pl
  fl : Bool
def putR (f n : Nat) (t : ByteArray) (D : Ds) (ps : List Pl) (fl : Bool) : Rf :=
  if fl = true then ⟨14, 0, D, ps, fl⟩ else if n < t.size + 16 then ⟨2, 0, D, ps, fl⟩ else if low ps = 128 then ⟨5, 0, D, ps, fl⟩ else
    let r := lyR f n (low ps) ⟨1, t⟩ D ps
    if r.e ≠ 0 then ⟨r.e, 0, r.D, r.ps, true⟩ else ⟨0, low ps, r.D, r.ps, fl⟩
def delR (f n : Nat) (i : Int) (D : Ds) (ps : List Pl) (fl : Bool) : Rf :=
  if fl = true then ⟨14, 0, D, ps, fl⟩ else if hasP ps i = false then ⟨3, 0, D, ps, fl⟩ else
    let r := mkR f n i.toNat pl0 D ps
    if r.e ≠ 0 then ⟨r.e, 0, r.D, r.ps, true⟩ else ⟨0, 0, r.D, r.ps, fl⟩
/-- The end of a move. -/
def emR (f n tg : Nat) (D : Ds) (ps : List Pl) : Rs :=
  (mkR f n ((ps.getD tg pl0).m.toNat - 2) pl0 D ps).next fun D' ps' => mkR f n tg ⟨1, (ps.getD tg pl0).tx⟩ D' ps'
def mvR (f n src tg : Nat) (t : ByteArray) (D : Ds) (ps : List Pl) : Rs :=
  if src = tg then ⟨0, D, ps⟩ else (lyR f n tg ⟨UInt8.ofNat (2 + src), t⟩ D ps).next fun D' ps' => emR f n tg D' ps'
/-- k places more from a slot on: each move that was broken off is ended. -/
def endsR (f n : Nat) : Nat → Nat → Ds → List Pl → Rs
  | 0, _, D, ps => ⟨0, D, ps⟩
  | k + 1, at_, D, ps => if (ps.getD at_ pl0).m < 2 then endsR f n k (at_ + 1) D ps else (emR f n at_ D ps).next fun D' ps' => endsR f n k (at_ + 1) D' ps'
def mvsR (f n : Nat) : List (Nat × ByteArray) → Nat → Ds → List Pl → Rs
  | [], _, D, ps => ⟨0, D, ps⟩
  | x :: xs, tg, D, ps => (mvR f n x.1 tg x.2 D ps).next fun D' ps' => mvsR f n xs (tg + 1) D' ps'
def cutR (f n : Nat) (D : Ds) (ps : List Pl) : Rs :=
  if fndE D.off f ≠ 0 then ⟨fndE D.off f, D, ps⟩ else if (D.now f).length = ps.length * n then ⟨0, D, ps⟩ else
    if cutE D f (ps.length * n : Nat) ≠ 0 then ⟨cutE D f (ps.length * n : Nat), cutD D f (ps.length * n : Nat), ps⟩ else
      ⟨cntE (cutD D f (ps.length * n : Nat)) f, psyD (cutD D f (ps.length * n : Nat)) f, ps⟩
def setlR (f n : Nat) (D : Ds) (ps : List Pl) : Rs :=
  if cntE D f ≠ 0 then ⟨cntE D f, psyD D f, ps⟩ else
    (endsR f n ps.length 0 (psyD D f) ps).next fun D1 ps1 => (mvsR f n (ents 0 ps1) 0 D1 ps1).next fun D2 ps2 => cutR f n D2 (ps2.take (ents 0 ps1).length)
/-- What the bytes of a slot hold, and whether they may be a slot's. -/
def lieV (b : List UInt8) (n : Nat) : Pl × Bool :=
  if b.getD 0 0 = 0 then (pl0, true) else if b.length < n then (pl0, false) else
    let k := (b.getD 1 0).toNat * 256 + (b.getD 2 0).toNat
    if n - 16 < k then (pl0, false) else
      let t : ByteArray := ⟨((b.drop 16).take k).toArray⟩
      (⟨b.getD 0 0, t⟩, decide (b.drop 1 = (img n t).drop 1))
/-- The places that lie in a row, or none. -/
def chk (n : Nat) (r : List UInt8) : List (List UInt8) :=
  if h : 0 < n ∧ r ≠ [] then r.take n :: chk n (r.drop n) else []
termination_by r.length
decreasing_by
  simp only [List.length_drop]
  have := List.length_pos_iff.2 h.2
  omega
def lods (n : Nat) : List (List UInt8) → Option (List Pl)
  | [] => some []
  | b :: bs => if (lieV b n).2 = true then (lods n bs).map ((lieV b n).1 :: ·) else none
def fitP (ps : List Pl) (tg : Nat) : Bool :=
  let p := ps.getD tg pl0
  if p.m < 2 then true else
    let src := p.m.toNat - 2
    if src ≤ tg ∨ ps.length ≤ src then false else decide (ps.getD src pl0 = pl0 ∨ ps.getD src pl0 = ⟨1, p.tx⟩)
def fits (ps : List Pl) : Bool := (List.range ps.length).all (fitP ps)
def lodE (D : Ds) (f n : Nat) : Int :=
  if fndE D.off f ≠ 0 then fndE D.off f else if 128 * n < (D.now f).length then 1 else
    match lods n (chk n (D.now f)) with
    | none => 1
    | some ps => if fits ps = true then 0 else 1
def lodP (D : Ds) (f n : Nat) : List Pl := (lods n (chk n (D.now f))).getD []
def isSl (n : Int) : Bool := decide (n = 128 ∨ n = 256 ∨ n = 512 ∨ n = 1024)
/-- What an opening tells, and makes of the disk. -/
def opnR (f n : Nat) (D : Ds) : Rs := if lodE D f n ≠ 0 then ⟨lodE D f n, D, []⟩ else setlR f n D (lodP D f n)
end Go.Proofs.Ytjbhegakgdcldaa
end
section
set_option linter.unusedSimpArgs false
set_option linter.unusedVariables false
namespace Go.Proofs.Ytjbhegakgdcldaa
open Go.RowKit

/-! A shelf in memory: five cells of a block (its own, or a greater one), a row of places, a disk's. -/
/-- A walk held up. -/
def Hold10 (p : Prop) : Prop := p
theorem stop10 {p : Prop} (h : Hold10 p) : p := h
theorem infoPl : (Try.prog.info? 94).map (fun i => (i.zero, i.size, i.bytes)) = some (some (.agg #[.int .u8 0, .string ⟨#[]⟩]), 2, 24) := by kernel_rfl
def pcl (p : Pl) : List Value := [.int .u8 (p.m.toNat : Int), .string p.tx]
theorem pcl_length (ps : List Pl) : (ps.flatMap pcl).length = ps.length * 2 := by
  induction ps with
  | nil => rfl
  | cons p l ih => simp only [List.flatMap_cons, List.length_append, ih, List.length_cons]; simp [pcl]; omega
theorem pcl_at (ps : List Pl) (i : Nat) (hi : i < ps.length) : (ps.flatMap pcl)[i * 2]? = some (.int .u8 ((ps.getD i pl0).m.toNat : Int)) ∧ (ps.flatMap pcl)[i * 2 + 1]? = some (.string (ps.getD i pl0).tx) := by
  induction ps generalizing i with
  | nil => simp at hi
  | cons p l ih =>
    cases i with
    | zero => exact ⟨rfl, rfl⟩
    | succ j =>
      obtain ⟨h1, h2⟩ := ih j (by simpa using hi)
      have e : ((p :: l).flatMap pcl) = pcl p ++ l.flatMap pcl := rfl
      have l2 : (pcl p).length = 2 := rfl
      rw [e, List.getElem?_append_right (by rw [l2]; omega), List.getElem?_append_right (by rw [l2]; omega), l2, show (j + 1) * 2 - 2 = j * 2 by omega, show (j + 1) * 2 + 1 - 2 = j * 2 + 1 by omega]
      exact ⟨h1, h2⟩
theorem pcl_set (ps : List Pl) (i : Nat) (p : Pl) : (((ps.flatMap pcl).set (i * 2) (.int .u8 (p.m.toNat : Int))).set (i * 2 + 1) (.string p.tx)) = (ps.set i p).flatMap pcl := by
  induction ps generalizing i with
  | nil => simp
  | cons q l ih =>
    have e : ((q :: l).flatMap pcl) = pcl q ++ l.flatMap pcl := rfl
    have l2 : (pcl q).length = 2 := rfl
    cases i with
    | zero => rfl
    | succ j =>
      have e2 : (((q :: l).set (j + 1) p).flatMap pcl) = pcl q ++ (l.set j p).flatMap pcl := rfl
      rw [e, e2, ← ih j, List.set_append_right _ _ (by rw [l2]; omega), List.set_append_right _ _ (by rw [l2]; omega), l2, show (j + 1) * 2 - 2 = j * 2 by omega, show (j + 1) * 2 + 1 - 2 = j * 2 + 1 by omega]
theorem pcl_one (ps : List Pl) : ∀ u ∈ ps.flatMap pcl, u.oneCell' = true := fun u hu => by
  obtain ⟨p, _, h⟩ := List.mem_flatMap.1 hu
  simp [pcl] at h
  rcases h with rfl | rfl <;> rfl
/-- The block's cells, by what is the shelf's to turn: its places, its mark of failure. -/
structure Box (vs : Value → Bool → Array Value) (o d f n : Nat) (t : TypeId) : Prop where
  c0 : ∀ v b, (vs v b)[o]? = some (.pointer (some ⟨d, 0, none⟩))
  c1 : ∀ v b, (vs v b)[o + 1]? = some (.int .i64 (f : Int))
  c2 : ∀ v b, (vs v b)[o + 2]? = some (.int .i64 (n : Int))
  c3 : ∀ v b, (vs v b)[o + 3]? = some v
  c4 : ∀ v b, (vs v b)[o + 4]? = some (.bool b)
  s3 : ∀ v b u, (vs v b).setIfInBounds (o + 3) u = vs u b
  s4 : ∀ v b c, (vs v b).setIfInBounds (o + 4) (.bool c) = vs v c
  ty : t ≠ 94
  hf : f < 8
  hn : n = 128 ∨ n = 256 ∨ n = 512 ∨ n = 1024
theorem Box.n1 {vs : Value → Bool → Array Value} {o d f n : Nat} {t : TypeId} (h : Box vs o d f n t) : 128 ≤ n ∧ n ≤ 1024 := by have := h.hn; omega
def Row (W : World) (v : Value) (ps : List Pl) : Prop := W.ownsRow 0 94 2 v ps.length (ps.flatMap pcl)
/-- The shelf's own memory, with who owns it: 1 its box, 2 its places. -/
structure SB (W : World) (P : Nat → Nat) (vs : Value → Bool → Array Value) (b : Nat) (t : TypeId) (pv : Value) (ps : List Pl) (fl : Bool) : Prop where
  bk : Bk W b (vs pv fl) t
  row : Row W pv ps
  tr : ∀ k, pv.ownBlock = some k → P k = 2
  tb : P b = 1
  cel : ∀ k, P k ≠ 0 → ∃ o, W.heap[k]? = some o ∧ o.isCells = true
section
variable {w W W' : World} {O O' P P' : Nat → Nat} {ps' : List Pl} {fl' : Bool} {vs : Value → Bool → Array Value} {b o d f n : Nat} {t : TypeId} {pv : Value} {ps : List Pl} {fl : Bool} {D D' : Ds}
theorem Row.same (h : Row W pv ps) (hs : ∀ k, pv.ownBlock = some k → W'.heap[k]? = W.heap[k]?) : Row W' pv ps := ownsRow_same h hs
theorem Row.lt (h : Row W pv ps) {k : Nat} (hk : pv.ownBlock = some k) : k < W.heap.size := (World.ownsRow.lt h k hk).2
theorem Row.shape (h : Row W pv ps) : ∃ ad cap, pv = .slice ad ps.length cap ∧ ps.length ≤ cap := by
  rcases h.2 with ⟨rfl, hz⟩ | ⟨g, cap, cur, rfl, _, _, hc, _⟩
  · exact ⟨none, 0, by rw [hz], by omega⟩
  · exact ⟨_, cap, rfl, hc⟩
theorem Row.at (h : Row W pv ps) (i : Nat) (hi : i < ps.length) : ∃ g cap, pv = .slice (some ⟨g, 0, none⟩) ps.length cap ∧ ps.length ≤ cap ∧ g < W.heap.size ∧ W.cell? ⟨g, i * 2, none⟩ = some (.int .u8 ((ps.getD i pl0).m.toNat : Int)) ∧ W.cell? ⟨g, i * 2 + 1, none⟩ = some (.string (ps.getD i pl0).tx) ∧ (∀ j, W.frozen? ⟨g, j, none⟩ = false) := by
  have hc := h
  rcases h.2 with ⟨e, hz⟩ | ⟨g, cap, cur, rfl, _, hh, hcc, _⟩
  · omega
  · obtain ⟨h1, h2⟩ := pcl_at ps i hi
    exact ⟨g, cap, rfl, hcc, (Array.getElem?_eq_some_iff.1 hh).1, (World.ownsRow.cellAt hc (i * 2) (by omega)).trans h1, (World.ownsRow.cellAt hc (i * 2 + 1) (by omega)).trans h2, fun j => World.ownsRow.frozenAt hc j⟩
theorem Row.block (h : Row W pv ps) {k : Nat} (hk : pv.ownBlock = some k) : ∃ cur, W.heap[k]? = some (.cells cur 94) := by
  rcases h.2 with ⟨rfl, _⟩ | ⟨g, cap, cur, rfl, _, hh, _⟩
  · simp [Value.ownBlock] at hk
  · simp [Value.ownBlock] at hk; subst hk; exact ⟨cur, hh⟩
theorem SB.lt (h : SB W P vs b t pv ps fl) : ∀ k, P k ≠ 0 → k < W.heap.size := fun k hk => by
  obtain ⟨x, e, _⟩ := h.cel k hk
  exact (Array.getElem?_eq_some_iff.1 e).1
theorem SB.same (h : SB W P vs b t pv ps fl) (hk : ∀ k, P k ≠ 0 → W'.heap[k]? = W.heap[k]?) : SB W' P vs b t pv ps fl :=
  ⟨(hk b (by rw [h.tb]; omega)).trans h.bk, h.row.same fun k e => hk k (by rw [h.tr k e]; omega), h.tr, h.tb, fun k hk' => by rw [hk k hk']; exact h.cel k hk'⟩
theorem SB.apart (h : SB W P vs b t pv ps fl) (ht : t ≠ 94) {k : Nat} (hk : pv.ownBlock = some k) : k ≠ b := fun e => by
  have h1 := h.tr k hk
  rw [e, h.tb] at h1
  omega
/-- A shelf over a disk: both in memory that was made behind w. -/
structure SH (w W : World) (d : Nat) (O P : Nat → Nat) (vs : Value → Bool → Array Value) (b : Nat) (t : TypeId) (D : Ds) (ps : List Pl) (fl : Bool) : Prop where
  d1 : D1 w W d O D
  sb : ∃ pv, SB W P vs b t pv ps fl
  lo : ∀ k, P k ≠ 0 → w.heap.size ≤ k
  ap : ∀ k, P k ≠ 0 → O k = 0
theorem SH.plt (h : SH w W d O P vs b t D ps fl) : ∀ k, P k ≠ 0 → k < W.heap.size := by obtain ⟨pv, h1⟩ := h.sb; exact h1.lt
theorem SH.pnew (h : SH w W d O P vs b t D ps fl) {k : Nat} (hk : W.heap.size ≤ k) : P k = 0 := Classical.byContradiction fun h2 => by have := h.plt k h2; omega
theorem SH.below (h : SH w W d O P vs b t D ps fl) (hb : Below W.heap.size W W') : SH w W' d O P vs b t D ps fl := by
  obtain ⟨pv, h1⟩ := h.sb
  exact ⟨h.d1.below hb, ⟨pv, h1.same fun k hk => hb.block k (h1.lt k hk)⟩, h.lo, h.ap⟩
theorem SH.drew (h : SH w W d O P vs b t D ps fl) : SH w W.drew d O P vs b t D ps fl := h.below (Below.refl _ _).drew
/-- The disk's call. -/
theorem SH.disk (h : SH w W d O P vs b t D ps fl) (hd : D1 w W' d O' D') (hf : Fp O W O' W') : SH w W' d O' P vs b t D' ps fl ∧ Fp (fun k => O k + P k) W (fun k => O' k + P k) W' := by
  obtain ⟨pv, h1⟩ := h.sb
  refine ⟨⟨hd, ⟨pv, h1.same fun k hk => hf.keep k (h1.lt k hk) (h.ap k hk)⟩, h.lo, fun k hk => hf.old k (h1.lt k hk) (h.ap k hk)⟩, hf.os, hf.tape, hf.output, hf.size, fun k hk ho => ?_, fun k hk ho => hf.keep k hk ?_, hf.kf⟩
  · have h0 : O k + P k = 0 := ho
    have h2 := hf.old k hk (by omega)
    show O' k + P k = 0
    omega
  · have h0 : O k + P k = 0 := ho
    omega
theorem SH.plus (h : SH w W d O P vs b t D ps fl) (hd : D1 w W' d O' D') (hf : Fp O W O' W') : Fp (fun k => O k + P k) W (fun k => O' k + P k) W' := (h.disk hd hf).2
/-- The places' cell of the box is as it was. -/
def Cs (b o : Nat) (W W' : World) : Prop := W'.cell? ⟨b, o + 3, none⟩ = W.cell? ⟨b, o + 3, none⟩
theorem Cs.refl (b o : Nat) (W : World) : Cs b o W W := rfl
theorem Cs.trans {b o : Nat} {A B C : World} (h : Cs b o A B) (h' : Cs b o B C) : Cs b o A C := Eq.trans h' h
theorem Cs.blk {b o : Nat} {A B : World} (h : B.heap[b]? = A.heap[b]?) : Cs b o A B := World.cell?_of_block (a := ⟨b, o + 3, none⟩) h
theorem SH.cs (h : SH w W d O P vs b t D ps fl) (o : Nat) (hf : Fp O W O' W') : Cs b o W W' := by
  obtain ⟨pv, hs⟩ := h.sb
  exact Cs.blk (hf.keep b hs.bk.lt (h.ap b (by rw [hs.tb]; omega)))
theorem SH.csb (h : SH w W d O P vs b t D ps fl) (o : Nat) (hb : Below W.heap.size W W') : Cs b o W W' := by
  obtain ⟨pv, hs⟩ := h.sb
  exact Cs.blk (hb.block b hs.bk.lt)
theorem SH.fp_below (h : SH w W d O P vs b t D ps fl) (hb : Below W.heap.size W W') : Fp (fun k => O k + P k) W (fun k => O k + P k) W' := Fp.of_below _ hb
/-- The shelf's own step: its box is turned, its row may be another one. -/
theorem SH.own (h : SH w W d O P vs b t D ps fl) (hsb : SB W' P' vs b t pv ps' fl') (hold : ∀ k, k < W.heap.size → P' k = P k ∨ P' k = 0) (hnew : ∀ k, W.heap.size ≤ k → P' k ≠ 0 → k < W'.heap.size)
    (hk : ∀ k, k < W.heap.size → P k = 0 → W'.heap[k]? = W.heap[k]?) (hos : W'.os = W.os) (htp : W'.tape = W.tape) (hout : W'.output = W.output) (hsz : W.heap.size ≤ W'.heap.size) (hobj : ∀ (k : Nat) (x : Obj), W.heap[k]? = some x → x.isCells = false → W'.heap[k]? = some x) :
    SH w W' d O P' vs b t D ps' fl' ∧ Fp (fun k => O k + P k) W (fun k => O k + P' k) W' := by
  have hlo : ∀ k, k < w.heap.size → P k = 0 := fun k hk' => Classical.byContradiction fun h2 => by have := h.lo k h2; omega
  have hb : Below w.heap.size w W' := by
    have hs := h.d1.bel.size
    exact ⟨hos.trans h.d1.bel.os, htp.trans h.d1.bel.tape, hout.trans h.d1.bel.output, by omega, fun k hk' => (hk k (by omega) (hlo k hk')).trans (h.d1.bel.block k hk')⟩
  have hP : ∀ k, P' k ≠ 0 → P k ≠ 0 ∨ W.heap.size ≤ k := fun k hk' => by
    by_cases e : k < W.heap.size
    · rcases hold k e with h1 | h1
      · exact .inl (by rw [← h1]; exact hk')
      · exact absurd h1 hk'
    · exact .inr (by omega)
  refine ⟨⟨h.d1.keep (fun k hk' => hk k (h.d1.olt k hk') (Classical.byContradiction fun h2 => hk' (h.ap k h2))) hsz hb, ⟨_, hsb⟩, fun k hk' => ?_, fun k hk' => ?_⟩, hos, htp, hout, hsz, fun k hk' ho => ?_, fun k hk' ho => hk k hk' ?_, hobj⟩
  · rcases hP k hk' with h1 | h1
    · exact h.lo k h1
    · have := h.d1.bel.size; omega
  · rcases hP k hk' with h1 | h1
    · exact h.ap k h1
    · exact h.d1.new h1
  · have h0 : O k + P k = 0 := ho
    show O k + P' k = 0
    rcases hold k hk' with h1 | h1 <;> omega
  · have h0 : O k + P k = 0 := ho
    omega
end
end Go.Proofs.Ytjbhegakgdcldaa
end
section
set_option linter.unusedSimpArgs false
set_option linter.unusedVariables false
namespace Go.Proofs.Ytjbhegakgdcldaa
open Go.RowKit

theorem idx_str (s : ByteArray) (i : Int) (j : Nat) (hj : j < s.size) (e : i = j) (w : World) : (Instr.index 9 (.string s) (.int .i64 i)).run Try.prog w = .ok (.int .u8 (s[j].toNat : Int)) w := by
  subst e
  rw [run_index_string w 9 s .i64 j Try.underlying9, dif_pos ⟨by omega, by omega⟩]
  rfl
theorem byte_lt (b : UInt8) : b.toNat < 256 := b.toNat_lt
theorem data_len (s : ByteArray) : s.data.toList.length = s.size := rfl
end Go.Proofs.Ytjbhegakgdcldaa
end

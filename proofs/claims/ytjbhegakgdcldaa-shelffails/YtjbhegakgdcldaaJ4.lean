/- Texts joined: Uns UnsQ CrD CrP New9 Few9. -/
import Derived.Test.YtjbhegakgdcldaaJ3
import Derived.Test.YtjbhegakgdcldaaJ2
import Derived.Test.YtjbhegakgdcldaaJ1
section
set_option linter.unusedSimpArgs false
set_option linter.unusedVariables false
namespace Go.Proofs.Ytjbhegakgdcldaa
open Go.RowKit Go.Shelf
attribute [local go_sem] Oper.semAt_some

/-! unsynced, as a sequence. -/
def gl (D : Ds) (n : Nat) : List (Nat × Ch) := (List.range n).flatMap fun f => (D.chs f).map fun c => (f, c)
theorem gl_succ (D : Ds) (n : Nat) : gl D (n + 1) = gl D n ++ (D.chs n).map fun c => (n, c) := by simp [gl, List.range_succ, List.flatMap_append]
/-- A whole struct loaded, in a fence. -/
theorem wpListIn_load_mid9 {F : Fence} {n : Nat} {P : Program} {ops : Array Oper} {rest : List Oper} {op : Oper} {a : Act} {w : World} {Q : Exit → Act → World → Prop} (hgd : op.guard = none) (ty : TypeId) (x : Operand) (ho : op.op = .load ty x)
    (b o : Nat) (hx : a.eval x = .pointer (some ⟨b, o, none⟩)) (cs : List Value) (d : TypeDesc) (hc : w.rangeAt b o cs)
    (hu : P.underlying ty = some d) (hd : d.isRow = true) (hi : (P.info? ty).map (·.size) = some cs.length)
    (h : wpListIn F n P ops Q rest (a.put op.dst (.agg cs.toArray)) w) : wpListIn F n P ops Q (op :: rest) a w := by
  refine wpListIn_plain hgd fun K hK' => ?_
  unfold Oper.wpIn
  refine ⟨?_, ?_⟩
  · simp [Oper.about, ho]
  · rw [Oper.semAt_plain F _ _ (by rw [ho]; intro c hc'; cases hc')]
    unfold execOp
    simp only [ho, hx, Instr.loadAt, Instr.sureAddr, Sem.run_bind, Sem.run_pure, Result.andThen_ok, run_loadVar_mid w b o ty cs d hc hu hd hi]
    exact hK' _ _ h
/-- What a round keeps: what is owned. -/
def KpO (O : Nat → Nat) (A B : World) : Prop := ∀ b o, O b ≠ 0 → A.heap[b]? = some o → o.isCells = true → B.heap[b]? = some o
theorem KpO.trans {O : Nat → Nat} (A B C : World) (h : KpO O A B) (k : KpO O B C) : KpO O A C := fun b o h1 h2 h3 => k b o h1 (h b o h1 h2 h3) h3
theorem kpo_put {O : Nat → Nat} (W : World) (l : Nat) (x x' : Obj) (h : W.heap[l]? = some x) (hc : x.isCells = false) : KpO O W (W.putObj l x') := fun b o _ hb ho => by
  by_cases e : b = l
  · subst e; rw [h] at hb; simp at hb; subst hb; rw [hc] at ho; cases ho
  · exact (World.putObj_heap_other e).trans hb
theorem KpO.of_below {O : Nat → Nat} {A B : World} (h : Below A.heap.size A B) : KpO O A B := fun b o _ hb _ => (h.block b (Array.getElem?_eq_some_iff.1 hb).1).trans hb
theorem DK.kpo {A B : World} {O : Nat → Nat} {d : Nat} {D : Ds} {nv sv cv : Nat → Value} (h : DK A O d D nv sv cv) (hk : KpO O A B) : DK B O d D nv sv cv := by
  have e : ∀ b, O b ≠ 0 → B.heap[b]? = A.heap[b]? := fun b hb => by
    obtain ⟨o, h1, h2⟩ := h.cel b hb
    rw [h1]; exact hk b o hb h1 h2
  exact ⟨(e d (by rw [h.td]; omega)).trans h.blk, fun i hi => (h.now i hi).same fun b e' => e b (by rw [h.tn i hi b e']; omega), fun i hi => (h.safe i hi).same fun b e' => e b (by rw [h.ts i hi b e']; omega),
   fun i hi => (h.chs i hi).same (fun b e' => e b (by rw [h.tc i hi b e']; omega)) (fun b e' _ => ⟨e b (by rw [e']; omega), e'⟩), h.tn, h.ts, h.tc, h.td, fun b hb => by rw [e b hb]; exact h.cel b hb, h.bO, h.bF⟩
abbrev Un := Nat × Ch × Value
def unenc (x : Un) : Array Value := #[.int .i64 (x.1 : Int), .agg (chc x.2.1 x.2.2)]
def unp (x : Un) : Nat × Ch := (x.1, x.2.1)
abbrev dk24 (nv sv cv : Nat → Value) : Array Value := #[nv 0, sv 0, cv 0, nv 1, sv 1, cv 1, nv 2, sv 2, cv 2, nv 3, sv 3, cv 3, nv 4, sv 4, cv 4, nv 5, sv 5, cv 5, nv 6, sv 6, cv 6, nv 7, sv 7, cv 7]
theorem info68 : (Try.prog.info? 105).map (·.size) = some 24 := by kernel_rfl
theorem dk_range {w : World} {O : Nat → Nat} {d : Nat} {D : Ds} {nv sv cv : Nat → Value} (h : DK w O d D nv sv cv) : w.rangeAt d 0 (dk24 nv sv cv).toList := fun j x hx => by
  have hj : j < 24 := (List.getElem?_eq_some_iff.1 hx).1
  rw [Nat.zero_add, h.blk.cell]
  have e : (dkc nv sv cv D.off D.tO D.tF)[j]? = (dk24 nv sv cv).toList[j]? := by
    have e2 : (dkc nv sv cv D.off D.tO D.tF).toList = (dk24 nv sv cv).toList ++ [.bool D.off, .int .i64 (D.tO : Int), .int .i64 (D.tF : Int)] := rfl
    rw [← Array.getElem?_toList, e2, List.getElem?_append_left (by show j < 24; exact hj)]
  rw [e]; exact hx
set_option maxRecDepth 100000 in
theorem dk_index (nv sv cv : Nat → Value) (i : Nat) (hi : i < 8) (w : World) : (Instr.index 105 (.agg (dk24 nv sv cv)) (.int .i64 (i : Int))).run Try.prog w = .ok (.agg #[nv i, sv i, cv i]) w := by
  rcases lt8 hi with rfl | rfl | rfl | rfl | rfl | rfl | rfl | rfl <;> (go_simp; rfl)
end Go.Proofs.Ytjbhegakgdcldaa
end
section
set_option linter.unusedSimpArgs false
set_option linter.unusedVariables false
namespace Go.Proofs.Ytjbhegakgdcldaa
open Go.RowKit Go.Shelf
attribute [local go_sem] Oper.semAt_some

def UnG (O : Nat → Nat) (D : Ds) (pre : List Un) (x : Un) (A : World) : Prop := x.1 < 8 ∧ Ow A 0 x.2.2 x.2.1.bs ∧ (∀ b, x.2.2.ownBlock = some b → O b = 25) ∧ x.2.1 ∈ D.chs x.1 ∧ ∃ rest, gl D 8 = pre.map unp ++ unp x :: rest
theorem gl_at (D : Ds) (n j : Nat) (hn : n < 8) (hj : j < (D.chs n).length) (pre : List Un) (hp : pre.map unp = gl D n ++ ((D.chs n).take j).map fun c => (n, c)) (bv : Value) : ∃ rest, gl D 8 = pre.map unp ++ unp (n, (D.chs n)[j], bv) :: rest := by
  have h8 : ∀ m, m ≤ 8 → ∃ r, gl D 8 = gl D m ++ r := by
    intro m hm
    obtain ⟨t, ht⟩ : ∃ t, 8 = m + t := ⟨8 - m, by omega⟩
    rw [ht]
    refine ⟨((List.range t).map (m + ·)).flatMap fun f => (D.chs f).map fun c => (f, c), ?_⟩
    unfold gl
    rw [List.range_add, List.flatMap_append]
  obtain ⟨r, hr⟩ := h8 (n + 1) (by omega)
  refine ⟨((D.chs n).drop (j + 1)).map (fun c => (n, c)) ++ r, ?_⟩
  rw [hr, gl_succ, hp]
  have e : D.chs n = (D.chs n).take j ++ (D.chs n)[j] :: (D.chs n).drop (j + 1) := by rw [List.getElem_cons_drop, List.take_append_drop]
  have e2 : (D.chs n).map (fun c => (n, c)) = ((D.chs n).take j).map (fun c => (n, c)) ++ (n, (D.chs n)[j]) :: ((D.chs n).drop (j + 1)).map (fun c => (n, c)) := by
    conv => lhs; rw [e]
    simp only [List.map_append, List.map_cons]
  rw [e2]
  simp [unp, List.append_assoc]
set_option maxRecDepth 100000 in
set_option maxHeartbeats 8000000 in
theorem unsynced_seq (m d Bx : Nat) (O : Nat → Nat) (D : Ds) (nv sv cv : Nat → Value) (hm : 1 ≤ m) (w : World) (h : DK w O d D nv sv cv) (hl : ∀ i, i < 8 → (D.chs i).length ≤ 1099511627776) (cB : w.cell? ⟨Bx, 0, none⟩ = some (.pointer (some ⟨d, 0, none⟩))) :
    SeqA Fence.wide m Try.prog 94 #[.pointer (some ⟨Bx, 0, none⟩)] unenc (KpO O) (fun _ pre x A => UnG O D pre x A) (fun xs => xs.map unp = gl D 8) (fun _ => True) w := by
  intro l J Jx W hbW hJ hJx hY h0
  have cB := (hbW.cell (cell_lt9 cB)).trans cB
  have hD := h.below hbW
  have HD : Hid (DK W O d D nv sv cv) := hD
  have HY : Hid (∀ pre x A0 A, UnG O D pre x A → J pre A0 → Below A0.heap.size A0 A → YieldAt Fence.wide (m - 1) Try.prog l (unenc x) A fun e B => (e = .returned (.bool true) ∧ J (pre ++ [x]) B ∧ KpO O A B) ∨ (e = .returned (.bool false) ∧ Jx (pre ++ [x]) B)) := fun pre x A0 A hg hA hb => hY pre x A0 A hA hb hg
  have HL : Hid (∀ i, i < 8 → (D.chs i).length ≤ 1099511627776) := hl
  have HJ : Hid (∀ s A B, J s A → Below A.heap.size A B → J s B) := hJ
  clear hY hJ hJx hbW h hl
  show CallsIn Fence.wide m Try.prog 94 #[.func (.yield l) #[] #[], .pointer (some ⟨Bx, 0, none⟩)] W _
  refine callsIn_of_wp Try.func94 rfl trivial ?_ rfl
  simp only [Try.ntmps94, List.size_toArray, List.length_cons, List.length_nil, Nat.reduceAdd, Nat.reduceSub, Array.replicate_succ, Array.replicate_zero, List.push_toArray, List.append_toArray, List.nil_append, List.cons_append]
  have ld := hD.blk.lt
  gi_wp2_with (refine wpListIn_load_mid9 rfl 105 _ rfl d 0 rfl (dk24 nv sv cv).toList _ (dk_range HD.out) Try.underlying105 rfl info68 ?_)
  gi_loopw [11] (fun i wr => ∃ (n : Nat) (pre : List Un), n ≤ 8 ∧ i = .int .i64 (n : Int) ∧ pre.map unp = gl D n ∧ DK wr O d D nv sv cv ∧ J pre wr) (fun i _ => 8 - (intOf i).toNat)
  case atStart => exact ⟨0, [], by omega, rfl, rfl, HD.out, h0⟩
  case round =>
    clear cB hD ld h0 HD
    obtain ⟨n, pre, hn, rfl, hpre, hD, hJn⟩ := hrel
    have HD : Hid (DK wr O d D nv sv cv) := hD
    have HPre : Hid (pre.map unp = gl D n) := hpre
    have HJn : Hid (J pre wr) := hJn
    by_cases hlt : n < 8
    · have hlt' : (n : Int) < 8 := by omega
      have hix := dk_index nv sv cv n hlt
      have HIx : Hid _ := hix
      obtain ⟨ac, lc, capc, ecv⟩ : ∃ ac lc capc, cv n = .slice ac lc capc := by
        obtain ⟨ps, _, h2, _⟩ := hD.chs n hlt
        exact ownsRow_sl h2
      have hlc : lc = (D.chs n).length := by
        obtain ⟨ps, h1, h2, _⟩ := hD.chs n hlt
        rw [ecv] at h2
        rcases h2.2 with ⟨e, hz⟩ | ⟨g, cap, cur, e, _⟩
        · simp at e; rw [← h1, List.length_map]; omega
        · simp at e; rw [← h1, List.length_map]; omega
      have hnv : (nv n).oneCell' = true := by obtain ⟨_, _, _, e⟩ := ownsRow_sl (hD.now n hlt); rw [e]; rfl
      have hsv : (sv n).oneCell' = true := by obtain ⟨_, _, _, e⟩ := ownsRow_sl (hD.safe n hlt); rw [e]; rfl
      have hlc2 : lc ≤ 1099511627776 := by rw [hlc]; exact HL.out n hlt
      have Hecv : Hid (cv n = .slice ac lc capc ∧ lc = (D.chs n).length) := ⟨ecv, hlc⟩
      obtain ⟨an, ln, cn, env⟩ := ownsRow_sl (hD.now n hlt)
      obtain ⟨as9, ls9, cs9, esv⟩ := ownsRow_sl (hD.safe n hlt)
      rw [ecv, env, esv] at hix
      clear hD hpre hJn hlc HIx hnv hsv ecv env esv
      gi_wp2
      obtain ⟨W1, hW1⟩ : ∃ W1, W1 = wr.alloc (.cells #[.slice an ln cn, .slice as9 ls9 cs9, .slice ac lc capc] 101) := ⟨_, rfl⟩
      have hb1 : Below wr.heap.size wr W1 := by rw [hW1]; exact (Below.refl _ _).alloc (Nat.le_refl _) _
      rw [← hW1]
      have hD1 := HD.out.below hb1
      have hJ1 := HJ.out _ _ _ HJn.out hb1
      clear hW1 hb1 hix HD HJn
      gi_loopw [18] (fun i wq => ∃ (j : Nat) (pre' : List Un), j ≤ lc ∧ i = .int .i64 (j : Int) ∧ pre'.map unp = gl D n ++ ((D.chs n).take j).map (fun c => (n, c)) ∧ DK wq O d D nv sv cv ∧ J pre' wq) (fun i _ => lc - (intOf i).toNat)
      case atStart => exact ⟨0, pre, by omega, rfl, by rw [HPre.out]; simp, hD1, hJ1⟩
      case round =>
        clear hD1 hJ1
        obtain ⟨j, pre', hj, rfl, hpre', hDq, hJq⟩ := hrel
        have HPre' : Hid (pre'.map unp = gl D n ++ ((D.chs n).take j).map (fun c => (n, c))) := hpre'
        have HDq : Hid (DK wr O d D nv sv cv) := hDq
        have HJq : Hid (J pre' wr) := hJq
        by_cases hlj : j < lc
        · have hlj' : (j : Int) < (lc : Int) := by omega
          have hjc : j < (D.chs n).length := by have := Hecv.out.2; omega
          obtain ⟨g, cap, bv, e1, k0, k1, k2, hbv, htag⟩ := (hDq.chs n hlt).at j hjc
          rw [Hecv.out.1] at e1
          simp at e1
          obtain ⟨rfl, e2, rfl⟩ := e1
          have hG := gl_at D n j hlt hjc pre' hpre' bv
          have hnext : (pre' ++ [((n, (D.chs n)[j], bv) : Un)]).map unp = gl D n ++ ((D.chs n).take (j + 1)).map (fun c => (n, c)) := by
            rw [List.map_append, hpre', List.take_succ_eq_append_getElem hjc]
            simp only [unp, List.map_append, List.map_cons, List.map_nil, List.append_assoc]
          obtain ⟨c, hcc⟩ : ∃ c, c = (D.chs n)[j] := ⟨_, rfl⟩
          have hmem : c ∈ D.chs n := by rw [hcc]; exact List.getElem_mem hjc
          rw [← hcc] at hG hnext hbv k0 k1
          have HN : Hid ((pre' ++ [((n, c, bv) : Un)]).map unp = gl D n ++ ((D.chs n).take (j + 1)).map (fun c => (n, c))) := hnext
          obtain ⟨ad0, n0, cap0, rfl⟩ := ownsRow_sl hbv
          have HGd : Hid (∀ A, Below wr.heap.size wr A → UnG O D pre' (n, c, .slice ad0 n0 cap0) A) := fun A hA => ⟨hlt, hbv.below hA hbv.lt, htag, hmem, hG⟩
          clear hDq hJq hpre' hbv htag hG hnext hmem hcc e2
          obtain ⟨fn, tmps, assign, body, hy, hR⟩ := HY.out pre' (n, c, .slice ad0 n0 cap0) wr (wr.alloc (.cells #[.bool c.cut, .int .i64 (c.pos : Int), .slice ad0 n0 cap0] 128)) (HGd.out _ ((Below.refl _ _).alloc (Nat.le_refl _) _)) HJq.out ((Below.refl _ _).alloc (Nat.le_refl _) _)
          simp only [unenc] at hy
          have HDa : Hid (DK (wr.alloc (.cells #[.bool c.cut, .int .i64 (c.pos : Int), .slice ad0 n0 cap0] 128)) O d D nv sv cv) := HDq.out.below ((Below.refl _ _).alloc (Nat.le_refl _) _)
          gi_wp2
          refine hR.mono ?_
          rintro e W3 (⟨rfl, hJ3, hk3⟩ | ⟨rfl, hJx3⟩)
          · gi_wp2
            go_roundw
            case rel => exact ⟨j + 1, pre' ++ [(n, c, .slice ad0 n0 cap0)], by omega, by go_num, HN.out, HDa.out.kpo hk3, hJ3⟩
            case measure => simp [intOf]; omega
          · gi_wp2
            refine bodyPost_ret (results_none rfl _ _ _) rfl ?_
            exact ⟨⟨_, rfl⟩, .inr ⟨_, trivial, hJx3⟩⟩
        · have hlj' : ¬ (j : Int) < (lc : Int) := by omega
          obtain rfl : j = lc := by omega
          have hpe : pre'.map unp = gl D (n + 1) := by
            rw [HPre'.out, gl_succ, Hecv.out.2, List.take_length]
          have HPe : Hid (pre'.map unp = gl D (n + 1)) := hpe
          clear hDq hJq hpre' hpe
          gi_wp2
          go_roundw
          case rel => exact ⟨n + 1, pre', by omega, by go_num, HPe.out, HDq.out, HJq.out⟩
          case measure => simp [intOf]; omega
    · have hlt' : ¬ (n : Int) < 8 := by omega
      obtain rfl : n = 8 := by omega
      clear hD hpre hJn
      gi_wp2
      go_end0
      exact ⟨⟨_, rfl⟩, .inl ⟨pre, HPre.out, HJn.out⟩⟩
end Go.Proofs.Ytjbhegakgdcldaa
end
section
set_option linter.unusedSimpArgs false
set_option linter.unusedVariables false
namespace Go.Proofs.Ytjbhegakgdcldaa
open Go.RowKit

/-! Crash: what is kept; rows of one's own, and picks. -/
def stp (r : Nat → List UInt8) (x : Nat × Ch) (p : Int) : Nat → List UInt8 := match kpt x.2 p with
  | none => r
  | some c => upd r x.1 (ovr c (r x.1))
def crL (r : Nat → List UInt8) (xs : List (Nat × Ch)) (ps : List Int) : Nat → List UInt8 := (xs.zip ps).foldl (fun r z => stp r z.1 z.2) r
theorem crL_nil (r : Nat → List UInt8) (ps : List Int) : crL r [] ps = r := rfl
theorem zip_snoc {α β : Type} (xs : List α) (x : α) (ps : List β) (h : xs.length < ps.length) : (xs ++ [x]).zip ps = xs.zip ps ++ [(x, ps[xs.length])] := by
  induction xs generalizing ps with
  | nil =>
    cases ps with
    | nil => simp at h
    | cons p ps => simp
  | cons y ys ih =>
    cases ps with
    | nil => simp at h
    | cons p ps =>
      simp only [List.cons_append, List.zip_cons_cons, List.length_cons, List.getElem_cons_succ]
      rw [ih ps (by simpa using h)]
theorem zip_over {α β : Type} (xs ys : List α) (ps : List β) (h : ps.length ≤ xs.length) : (xs ++ ys).zip ps = xs.zip ps := by
  induction xs generalizing ps with
  | nil =>
    cases ps with
    | nil => simp
    | cons p ps => simp at h
  | cons y xs ih =>
    cases ps with
    | nil => simp
    | cons p ps =>
      simp only [List.cons_append, List.zip_cons_cons]
      rw [ih ps (by simpa using h)]
theorem crL_snoc (r : Nat → List UInt8) (xs : List (Nat × Ch)) (x : Nat × Ch) (ps : List Int) (h : xs.length < ps.length) : crL r (xs ++ [x]) ps = stp (crL r xs ps) x ps[xs.length] := by
  unfold crL
  rw [zip_snoc _ _ _ h, List.foldl_append]
  rfl
theorem crL_over (r : Nat → List UInt8) (xs ys : List (Nat × Ch)) (ps : List Int) (h : ps.length ≤ xs.length) : crL r (xs ++ ys) ps = crL r xs ps := by unfold crL; rw [zip_over _ _ _ h]
/-- What a crash keeps of each file. -/
def crash (D : Ds) (ps : List Int) : Nat → List UInt8 := crL D.safe (gl D 8) ps
/-- Whole numbers that are read. -/
def Rp (w : World) (v : Value) (ps : List Int) : Prop :=
  ∃ ad cap, v = .slice ad ps.length cap ∧ ps.length ≤ cap ∧ ps.length ≤ 9223372036854775807 ∧ (∀ p ∈ ps, -9223372036854775808 ≤ p ∧ p ≤ 9223372036854775807) ∧ ∀ i (h : i < ps.length), ∃ b off, ad = some ⟨b, off, none⟩ ∧ w.cell? ⟨b, off + i, none⟩ = some (.int .i64 ps[i])
theorem Rp.cells {w w' : World} {v : Value} {ps : List Int} (h : Rp w v ps) (hk : ∀ a u, w.cell? a = some u → (∃ n c, v = .slice (some ⟨a.block, n, none⟩) ps.length c) → w'.cell? a = some u) : Rp w' v ps := by
  obtain ⟨ad, cap, rfl, hle, hm, hr, hc⟩ := h
  refine ⟨ad, cap, rfl, hle, hm, hr, fun i hi => ?_⟩
  obtain ⟨b, off, rfl, hx⟩ := hc i hi
  exact ⟨b, off, rfl, hk _ _ hx ⟨off, cap, rfl⟩⟩
theorem Rp.below {w w' : World} {v : Value} {ps : List Int} (h : Rp w v ps) (hb : Below w.heap.size w w') : Rp w' v ps :=
  h.cells fun a u hc _ => (hb.cell (World.block_lt_of_cell? w a hc)).trans hc
theorem Rp.fp {O O' : Nat → Nat} {w w' : World} {v : Value} {ps : List Int} (h : Rp w v ps) (hf : Fp O w O' w') (hO : ∀ b n c, v = .slice (some ⟨b, n, none⟩) ps.length c → O b = 0) : Rp w' v ps :=
  h.cells fun a u hc ⟨n, c, e⟩ => hf.cell hc (hO _ _ _ e)
abbrev r8 (rv : Nat → Value) : Array Value := #[rv 0, rv 1, rv 2, rv 3, rv 4, rv 5, rv 6, rv 7]
theorem r8_at (rv : Nat → Value) {i : Nat} (h : i < 8) : (r8 rv)[i]? = some (rv i) := by rcases lt8 h with rfl | rfl | rfl | rfl | rfl | rfl | rfl | rfl <;> rfl
theorem r8_set (rv : Nat → Value) {i : Nat} (h : i < 8) (v : Value) : (r8 rv).setIfInBounds i v = r8 (upd rv i v) := by rcases lt8 h with rfl | rfl | rfl | rfl | rfl | rfl | rfl | rfl <;> rfl
/-- Eight rows of one's own, in a block of their own; and the picks that are left, in a box. -/
structure RW (W : World) (T : Nat → Nat) (rb pb : Nat) (rv : Nat → Value) (pv : Value) (r : Nat → List UInt8) : Prop where
  blk : Bk W rb (r8 rv) 58
  box : Bk W pb #[pv] 23
  ow : ∀ i, i < 8 → Ow W 0 (rv i) (r i)
  tg : ∀ i, i < 8 → ∀ b, (rv i).ownBlock = some b → T b = i + 1
  tb : T rb = 9
  tp : T pb = 10
  cel : ∀ b, T b ≠ 0 → ∃ o, W.heap[b]? = some o ∧ o.isCells = true
theorem RW.lt {W : World} {T : Nat → Nat} {rb pb : Nat} {rv : Nat → Value} {pv : Value} {r : Nat → List UInt8} (h : RW W T rb pb rv pv r) : ∀ b, T b ≠ 0 → b < W.heap.size := fun b hb => by
  obtain ⟨o, e, _⟩ := h.cel b hb
  exact (Array.getElem?_eq_some_iff.1 e).1
theorem RW.frame {W W' : World} {T : Nat → Nat} {rb pb : Nat} {rv : Nat → Value} {pv : Value} {r : Nat → List UInt8} (h : RW W T rb pb rv pv r) (hk : ∀ b, T b ≠ 0 → W'.heap[b]? = W.heap[b]?) : RW W' T rb pb rv pv r :=
  ⟨(hk rb (by rw [h.tb]; omega)).trans h.blk, (hk pb (by rw [h.tp]; omega)).trans h.box, fun i hi => (h.ow i hi).same fun b e => hk b (by rw [h.tg i hi b e]; omega), h.tg, h.tb, h.tp, fun b hb => by rw [hk b hb]; exact h.cel b hb⟩
theorem RW.below {W W' : World} {T : Nat → Nat} {rb pb : Nat} {rv : Nat → Value} {pv : Value} {r : Nat → List UInt8} (h : RW W T rb pb rv pv r) (hb : Below W.heap.size W W') : RW W' T rb pb rv pv r :=
  h.frame fun b hn => hb.block b (h.lt b hn)
theorem RW.put {W : World} {T : Nat → Nat} {rb pb : Nat} {rv : Nat → Value} {pv : Value} {r : Nat → List UInt8} (h : RW W T rb pb rv pv r) {l : Nat} {o o' : Obj} (hl : W.heap[l]? = some o) (ho : o.isCells = false) : RW (W.putObj l o') T rb pb rv pv r :=
  h.frame fun b hb => World.putObj_heap_other (fun e => by
    obtain ⟨x, e1, e2⟩ := h.cel b hb
    rw [e, hl] at e1
    simp at e1
    subst e1
    rw [ho] at e2
    cases e2)
/-- The picks moved on. -/
theorem RW.pick {W : World} {T : Nat → Nat} {rb pb : Nat} {rv : Nat → Value} {pv : Value} {r : Nat → List UInt8} (h : RW W T rb pb rv pv r) (pv' : Value) : RW (W.setCell ⟨pb, 0, none⟩ pv') T rb pb rv pv' r ∧ Fp T W T (W.setCell ⟨pb, 0, none⟩ pv') := by
  have ht := Turn.set h.box 0 pv'
  have ne : ∀ b, T b ≠ 10 → (W.setCell ⟨pb, 0, none⟩ pv').heap[b]? = W.heap[b]? := fun b hb => ht.other b (fun e => hb (e ▸ h.tp))
  refine ⟨⟨(ne rb (by rw [h.tb]; omega)).trans h.blk, ht.blk, fun i hi => (h.ow i hi).same fun b e => ne b (by rw [h.tg i hi b e]; omega), h.tg, h.tb, h.tp, fun b hb => ?_⟩, Fp.of_turn ht h.box (by rw [h.tp]; omega)⟩
  by_cases e : b = pb
  · subst e; exact ⟨_, ht.blk, rfl⟩
  · rw [ht.other b e]; exact h.cel b hb
/-- A row changed. -/
theorem RW.step {w w' : World} {T : Nat → Nat} {rb pb i : Nat} {rv : Nat → Value} {pv : Value} {r : Nat → List UInt8} (h : RW w T rb pb rv pv r) (hi : i < 8) {v : Value} {l : List UInt8}
    (hos : w'.os = w.os) (htp : w'.tape = w.tape) (hout : w'.output = w.output) (hsz : w.heap.size ≤ w'.heap.size) (hblk : Bk w' rb (r8 (upd rv i v)) 58) (hn : Ow w' 0 v l) (sn : Sn w (rv i) v)
    (hk : ∀ k, k < w.heap.size → k ≠ rb → some k ≠ (rv i).ownBlock → w'.heap[k]? = w.heap[k]?) :
    ∃ T', RW w' T' rb pb (upd rv i v) pv (upd r i l) ∧ Fp T w T' w' := by
  have ne : ∀ b, b < w.heap.size → T b ≠ 9 → T b ≠ i + 1 → w'.heap[b]? = w.heap[b]? := fun b hb h1 h2 => hk b hb (fun e => h1 (e ▸ h.tb)) (fun e => h2 (h.tg i hi b e.symm))
  obtain ⟨T', hT⟩ : ∃ T' : Nat → Nat, T' = fun b => if b < w.heap.size then (if some b = (rv i).ownBlock ∧ v.ownBlock ≠ some b then 0 else T b) else if v.ownBlock = some b then i + 1 else 0 := ⟨_, rfl⟩
  have o0 : ∀ b, b < w.heap.size → ¬ (some b = (rv i).ownBlock ∧ v.ownBlock ≠ some b) → T' b = T b := fun b hb hn => by rw [hT]; simp only []; rw [if_pos hb, if_neg hn]
  have o1 : ∀ b, b < w.heap.size → T b ≠ i + 1 → T' b = T b := fun b hb h1 => o0 b hb (fun h3 => h1 (h.tg i hi b h3.1.symm))
  have o2 : ∀ b, T b ≠ 0 → T b ≠ i + 1 → T' b = T b := fun b hb => o1 b (h.lt b hb)
  have htb := h.tb
  have htp' := h.tp
  refine ⟨T', ⟨hblk, (ne pb (h.lt pb (by omega)) (by omega) (by omega)).trans h.box, fun j hj => ?_, fun j hj b e => ?_, by rw [o2 rb (by omega) (by omega)]; exact htb, by rw [o2 pb (by omega) (by omega)]; exact htp', fun b hb => ?_⟩, ⟨hos, htp, hout, hsz, fun b hb ho => by rw [o1 b hb (by omega)]; exact ho, fun b hb ho => ne b hb (by omega) (by omega), fun k o h1 h2 => ?_⟩⟩
  · by_cases e : j = i
    · subst e; simp only [upd_same]; exact hn
    · simp only [upd_other _ _ e]
      refine (h.ow j hj).same fun b e' => ?_
      have ht := h.tg j hj b e'
      exact ne b (h.lt b (by omega)) (by omega) (by omega)
  · by_cases e' : j = i
    · subst e'
      simp only [upd_same] at e
      rcases sn with h1 | h1
      · have ht := h.tg j hj b (h1 ▸ e)
        rw [o0 b (h.lt b (by omega)) (fun h3 => h3.2 e)]
        exact ht
      · rw [hT]; simp only []; rw [if_neg (by have := h1 b e; omega), if_pos e]
    · simp only [upd_other _ _ e'] at e
      have ht := h.tg j hj b e
      rw [o2 b (by omega) (by omega)]; exact ht
  · rw [hT] at hb
    simp only [] at hb
    by_cases e : b < w.heap.size
    · rw [if_pos e] at hb
      by_cases e1 : v.ownBlock = some b
      · obtain ⟨c, e2⟩ := hn.bytes b e1; exact ⟨_, e2, rfl⟩
      · by_cases e3 : some b = (rv i).ownBlock ∧ v.ownBlock ≠ some b
        · rw [if_pos e3] at hb; exact absurd rfl hb
        · rw [if_neg e3] at hb
          by_cases e4 : b = rb
          · subst e4; exact ⟨_, hblk, rfl⟩
          · rw [hk b e e4 (fun e5 => e3 ⟨e5, e1⟩)]
            exact h.cel b hb
    · rw [if_neg e] at hb
      by_cases e1 : v.ownBlock = some b
      · obtain ⟨c, e2⟩ := hn.bytes b e1; exact ⟨_, e2, rfl⟩
      · rw [if_neg e1] at hb; exact absurd rfl hb
  · have hkl : k < w.heap.size := (Array.getElem?_eq_some_iff.1 h1).1
    have nc : ∀ c t, w.heap[k]? ≠ some (.cells c t) := fun c t e => by rw [e] at h1; simp at h1; subst h1; simp [Obj.isCells] at h2
    rw [← h1]
    refine hk k hkl (fun e => ?_) (fun e => ?_)
    · subst e; exact nc _ _ h.blk
    · obtain ⟨c, e2⟩ := (h.ow i hi).bytes k e.symm; exact nc _ _ e2
end Go.Proofs.Ytjbhegakgdcldaa
end
section
set_option linter.unusedSimpArgs false
set_option linter.unusedVariables false
namespace Go.Proofs.Ytjbhegakgdcldaa
open Go.RowKit

/-! What a crash keeps, file by file, as the page reckons it. -/
/-- The k-th pick, as the page reads it: what lacks, or is below 0, is 1. -/
def pkk (ps : List Int) (k : Nat) : Int := if k < ps.length ∧ 0 ≤ ps.getD k 0 then ps.getD k 0 else 1
def pst (c : Ch) (p : Int) (r : List UInt8) : List UInt8 := match kpt c p with
  | none => r
  | some c' => ovr c' r
def crI (ps : List Int) : List Ch → Nat → List UInt8 → List UInt8
  | [], _, r => r
  | c :: cs, k, r => crI ps cs (k + 1) (pst c (pkk ps k) r)
def crK (ps : List Int) : List (Nat × Ch) → Nat → (Nat → List UInt8) → (Nat → List UInt8)
  | [], _, r => r
  | x :: xs, k, r => crK ps xs (k + 1) (stp r x (pkk ps k))
theorem kpt_low {c : Ch} {p : Int} (h : p < 0 ∨ p = 1) : kpt c p = none := by
  unfold kpt
  rw [if_neg (by omega), if_pos (.inr (by omega))]
theorem stp_none {r : Nat → List UInt8} {x : Nat × Ch} {p : Int} (h : kpt x.2 p = none) : stp r x p = r := by unfold stp; rw [h]
theorem crL_none (xs : List (Nat × Ch)) (r : Nat → List UInt8) : crL r xs [] = r := by unfold crL; simp
theorem crL_cons (r : Nat → List UInt8) (x : Nat × Ch) (xs : List (Nat × Ch)) (p : Int) (ps : List Int) : crL r (x :: xs) (p :: ps) = crL (stp r x p) xs ps := rfl
theorem crL_crK (ps : List Int) (xs : List (Nat × Ch)) : ∀ (k : Nat) (r : Nat → List UInt8), crL r xs (ps.drop k) = crK ps xs k r := by
  induction xs with
  | nil => intro k r; rfl
  | cons x xs ih =>
    intro k r
    show _ = crK ps xs (k + 1) (stp r x (pkk ps k))
    by_cases hk : k < ps.length
    · rw [List.drop_eq_getElem_cons hk, crL_cons]
      have e : stp r x ps[k] = stp r x (pkk ps k) := by
        have e1 : ps.getD k 0 = ps[k] := by simp [List.getD, hk]
        by_cases hp : 0 ≤ ps[k]
        · rw [show pkk ps k = ps[k] by unfold pkk; rw [e1, if_pos ⟨hk, hp⟩]]
        · rw [show pkk ps k = 1 by unfold pkk; rw [e1, if_neg (fun h => hp h.2)], stp_none (kpt_low (.inl (by omega))), stp_none (kpt_low (.inr rfl))]
      rw [e]
      exact ih (k + 1) _
    · rw [List.drop_eq_nil_of_le (by omega), crL_none]
      have e1 : pkk ps k = 1 := by unfold pkk; rw [if_neg (fun h => hk h.1)]
      rw [e1, stp_none (kpt_low (.inr rfl)), ← ih (k + 1) r, List.drop_eq_nil_of_le (by omega), crL_none]
theorem crK_append (ps : List Int) (xs ys : List (Nat × Ch)) : ∀ (k : Nat) (r : Nat → List UInt8), crK ps (xs ++ ys) k r = crK ps ys (k + xs.length) (crK ps xs k r) := by
  induction xs with
  | nil => intro k r; rfl
  | cons x xs ih =>
    intro k r
    show crK ps (xs ++ ys) (k + 1) _ = crK ps ys (k + (xs.length + 1)) (crK ps xs (k + 1) _)
    rw [ih, show k + 1 + xs.length = k + (xs.length + 1) by omega]
theorem upd_me {α : Type} (f : Nat → α) (i : Nat) : upd f i (f i) = f := by
  funext j; unfold upd; split
  · next h => rw [h]
  · rfl
theorem upd_two {α : Type} (f : Nat → α) (i : Nat) (x y : α) : upd (upd f i x) i y = upd f i y := by
  funext j; unfold upd; split <;> rfl
theorem crK_file (ps : List Int) (f : Nat) (cs : List Ch) : ∀ (k : Nat) (r : Nat → List UInt8), crK ps (cs.map fun c => (f, c)) k r = upd r f (crI ps cs k (r f)) := by
  induction cs with
  | nil => intro k r; exact (upd_me r f).symm
  | cons c cs ih =>
    intro k r
    show crK ps (cs.map fun c => (f, c)) (k + 1) (stp r (f, c) (pkk ps k)) = upd r f (crI ps cs (k + 1) (pst c (pkk ps k) (r f)))
    rw [ih]
    unfold stp pst
    cases kpt c (pkk ps k) with
    | none => rfl
    | some c' =>
      show upd (upd r f (ovr c' (r f))) f (crI ps cs (k + 1) (upd r f (ovr c' (r f)) f)) = upd r f (crI ps cs (k + 1) (ovr c' (r f)))
      rw [upd_same]; exact upd_two _ _ _ _
/-- What the page's Crash makes of a file. -/
def pcr (D : Ds) (ps : List Int) (f : Nat) : List UInt8 := crI ps (D.chs f) (gl D f).length (D.safe f)
theorem crash_upto (D : Ds) (ps : List Int) : ∀ n, crK ps (gl D n) 0 D.safe = fun i => if i < n then pcr D ps i else D.safe i := by
  intro n
  induction n with
  | zero => funext i; rw [if_neg (by omega)]; rfl
  | succ n ih =>
    rw [gl_succ, crK_append, ih, crK_file, Nat.zero_add]
    funext i
    by_cases e : i = n
    · subst e
      rw [upd_same, if_pos (Nat.lt_succ_self i)]
      show crI ps (D.chs i) (gl D i).length (if i < i then pcr D ps i else D.safe i) = _
      rw [if_neg (Nat.lt_irrefl i)]
      rfl
    · rw [upd_other _ _ e]
      show (if i < n then pcr D ps i else D.safe i) = _
      by_cases h : i < n
      · rw [if_pos h, if_pos (by omega)]
      · rw [if_neg h, if_neg (by omega)]
theorem crash_page (D : Ds) (ps : List Int) (i : Nat) (hi : i < 8) : crash D ps i = pcr D ps i := by
  have h := crL_crK ps (gl D 8) 0 D.safe
  rw [List.drop_zero, crash_upto] at h
  show crL D.safe (gl D 8) ps i = _
  rw [h]
  exact if_pos hi
/-- One change more of a file. -/
theorem crI_snoc (ps : List Int) (cs : List Ch) (c : Ch) : ∀ (k : Nat) (r : List UInt8), crI ps (cs ++ [c]) k r = pst c (pkk ps (k + cs.length)) (crI ps cs k r) := by
  induction cs with
  | nil => intro k r; rfl
  | cons x cs ih =>
    intro k r
    show crI ps (cs ++ [c]) (k + 1) _ = pst c (pkk ps (k + (cs.length + 1))) (crI ps cs (k + 1) _)
    rw [ih, show k + 1 + cs.length = k + (cs.length + 1) by omega]
theorem pst_le {c : Ch} (hc : ChB c) (p : Int) {r : List UInt8} (hr : r.length ≤ 131072) : (pst c p r).length ≤ 131072 := by
  unfold pst
  cases h : kpt c p with
  | none => exact hr
  | some c' =>
    have h1 : c'.pos = c.pos ∧ c'.bs.length ≤ c.bs.length := by
      unfold kpt at h
      split at h
      · simp at h; subst h; exact ⟨rfl, Nat.le_refl _⟩
      · split at h
        · simp at h
        · simp at h; subst h; exact ⟨rfl, by simp; omega⟩
    have := ovr_le c' r
    have := hc.1
    show (ovr c' r).length ≤ _
    omega
theorem crI_le (ps : List Int) (cs : List Ch) (hc : ∀ c ∈ cs, ChB c) : ∀ (k : Nat) (r : List UInt8), r.length ≤ 131072 → (crI ps cs k r).length ≤ 131072 := by
  induction cs with
  | nil => intro k r h; exact h
  | cons x cs ih => intro k r h; exact ih (fun c h => hc c (List.mem_cons_of_mem _ h)) _ _ (pst_le (hc x (List.mem_cons_self ..)) _ h)
/-- What the page does with a change, case by case. -/
theorem pst_cut0 {c : Ch} (hc : c.cut = true) (r : List UInt8) : pst c 0 r = r.take c.pos := by unfold pst kpt; rw [if_pos rfl]; exact ovr_cut hc r
theorem pst_cut1 {c : Ch} (hc : c.cut = true) {p : Int} (hp : p ≠ 0) (r : List UInt8) : pst c p r = r := by unfold pst kpt; rw [if_neg hp, if_pos (.inl hc)]
theorem pst_all {c : Ch} (hc : c.cut = false) (r : List UInt8) : pst c 0 r = splice (pad r (c.pos + c.bs.length)) c.pos c.bs := by unfold pst kpt; rw [if_pos rfl]; exact ovr_piece hc r
theorem pst_few {c : Ch} {p : Int} (h0 : p ≠ 0) (hp : p ≤ 2) (r : List UInt8) : pst c p r = r := by unfold pst kpt; rw [if_neg h0, if_pos (.inr hp)]
theorem pst_some {c : Ch} (hc : c.cut = false) {p : Int} (hp : 2 < p) (r : List UInt8) {n : Nat} (hn : n = min c.bs.length (p - 2).toNat) : pst c p r = splice (pad r (c.pos + (c.bs.take n).length)) c.pos (c.bs.take n) := by
  unfold pst kpt
  rw [if_neg (by omega), if_neg (fun h => by rcases h with h | h; · rw [hc] at h; cases h
                                             · omega)]
  have e : c.bs.take n = c.bs.take (p - 2).toNat := by
    rw [hn]
    by_cases h : (p - 2).toNat ≤ c.bs.length
    · rw [Nat.min_eq_right h]
    · rw [Nat.min_eq_left (by omega), List.take_of_length_le (Nat.le_refl _), List.take_of_length_le (by omega)]
  rw [e]
  exact ovr_piece (c := { c with bs := c.bs.take (p - 2).toNat }) hc r
end Go.Proofs.Ytjbhegakgdcldaa
end
section
set_option linter.unusedSimpArgs false
set_option linter.unusedVariables false
namespace Go.Proofs.Ytjbhegakgdcldaa
open Go.RowKit

/-! New. -/
theorem cell_lt {w : World} {a : Addr} {v : Value} (h : w.cell? a = some v) : a.block < w.heap.size := World.block_lt_of_cell? w a h
/-- A list of rows that is read. -/
def Rl (w : World) (v : Value) (ls : List (List UInt8)) : Prop :=
  ∃ ad cap, v = .slice ad ls.length cap ∧ ls.length ≤ cap ∧ ls.length ≤ 9223372036854775807 ∧ ∀ i (h : i < ls.length), ∃ b off rv, ad = some ⟨b, off, none⟩ ∧ w.cell? ⟨b, off + i, none⟩ = some rv ∧ Rb w rv ls[i]
theorem Rl.below {w w' : World} {v : Value} {ls : List (List UInt8)} (h : Rl w v ls) (hb : Below w.heap.size w w') : Rl w' v ls := by
  obtain ⟨ad, cap, rfl, h1, h2, hc⟩ := h
  refine ⟨ad, cap, rfl, h1, h2, fun i hi => ?_⟩
  obtain ⟨b, off, rv, e, hx, hr⟩ := hc i hi
  exact ⟨b, off, rv, e, (hb.cell (World.block_lt_of_cell? w _ hx)).trans hx, hr.below hb⟩
def Sml (ls : List (List UInt8)) : Prop := ∀ l ∈ ls, l.length ≤ 131072
def SmlTo (ls : List (List UInt8)) (n : Nat) : Prop := ∀ k (h : k < ls.length), k < n → ls[k].length ≤ 131072
def newOk (ls : List (List UInt8)) : Prop := (ls.length = 0 ∨ ls.length = 8) ∧ ∀ l ∈ ls, l.length ≤ 131072
def dsN (ls : List (List UInt8)) (n : Nat) : Ds := ⟨fun i => if i < n then ls.getD i [] else [], fun i => if i < n then ls.getD i [] else [], fun _ => [], false, 0, 0⟩
abbrev nil9 : Nat → Value := fun _ => .slice none 0 0
theorem DK.newStep {w w' : World} {O : Nat → Nat} {d i : Nat} {D : Ds} {nv sv cv : Nat → Value} (h : DK w O d D nv sv cv) (hi : i < 8) {v1 v2 : Value} {r : List UInt8}
    (hblk : Bk w' d (dkc (upd nv i v1) (upd sv i v2) (upd cv i (.slice none 0 0)) D.off D.tO D.tF) 107) (h1 : Ow w' 0 v1 r) (h2 : Ow w' 0 v2 r) (f1 : ∀ b, v1.ownBlock = some b → w.heap.size ≤ b) (f2 : ∀ b, v2.ownBlock = some b → w.heap.size ≤ b) (f3 : ∀ b, v1.ownBlock = some b → v2.ownBlock ≠ some b)
    (hk : ∀ k, k < w.heap.size → k ≠ d → w'.heap[k]? = w.heap[k]?) :
    ∃ O', DK w' O' d { D with now := upd D.now i r, safe := upd D.safe i r, chs := upd D.chs i [] } (upd nv i v1) (upd sv i v2) (upd cv i (.slice none 0 0)) ∧ ∀ b, O' b ≠ 0 → O b ≠ 0 ∨ w.heap.size ≤ b := by
  have ne : ∀ b, b < w.heap.size → O b ≠ 26 → w'.heap[b]? = w.heap[b]? := fun b hb h1 => hk b hb (fun e => h1 (e ▸ h.td))
  obtain ⟨O', hO⟩ : ∃ O' : Nat → Nat, O' = fun b => if b < w.heap.size then O b else if v1.ownBlock = some b then 2 * i + 1 else if v2.ownBlock = some b then 2 * i + 2 else 0 := ⟨_, rfl⟩
  have o1 : ∀ b, b < w.heap.size → O' b = O b := fun b hb => by rw [hO]; simp only []; rw [if_pos hb]
  have o2 : ∀ b, O b ≠ 0 → O' b = O b := fun b hb => o1 b (h.lt b hb)
  refine ⟨O', ⟨hblk, fun j hj => ?_, fun j hj => ?_, fun j hj => ?_, fun j hj b e => ?_, fun j hj b e => ?_, fun j hj b e => ?_, by rw [o2 d (by rw [h.td]; omega)]; exact h.td, fun b hb => ?_, h.bO, h.bF⟩, fun b hb => ?_⟩
  · by_cases e : j = i
    · subst e; simp only [upd_same]; exact h1
    · simp only [upd_other _ _ e]
      exact (h.now j hj).same fun b e' => by have ht := h.tn j hj b e'; exact ne b (h.lt b (by omega)) (by omega)
  · by_cases e : j = i
    · subst e; simp only [upd_same]; exact h2
    · simp only [upd_other _ _ e]
      exact (h.safe j hj).same fun b e' => by have ht := h.ts j hj b e'; exact ne b (h.lt b (by omega)) (by omega)
  · by_cases e : j = i
    · subst e; simp only [upd_same]; exact Cv.nil _ _
    · simp only [upd_other _ _ e]
      exact (h.chs j hj).same (fun b e' => by have ht := h.tc j hj b e'; exact ne b (h.lt b (by omega)) (by omega)) (fun b e hb => ⟨ne b hb (by omega), by rw [o1 b hb]; exact e⟩)
  · by_cases e' : j = i
    · subst e'
      simp only [upd_same] at e
      rw [hO]; simp only []; rw [if_neg (by have := f1 b e; omega), if_pos e]
    · simp only [upd_other _ _ e'] at e
      have ht := h.tn j hj b e
      rw [o2 b (by omega)]; exact ht
  · by_cases e' : j = i
    · subst e'
      simp only [upd_same] at e
      rw [hO]; simp only []; rw [if_neg (by have := f2 b e; omega), if_neg (fun e1 => f3 b e1 e), if_pos e]
    · simp only [upd_other _ _ e'] at e
      have ht := h.ts j hj b e
      rw [o2 b (by omega)]; exact ht
  · by_cases e' : j = i
    · subst e'; simp only [upd_same] at e; simp [Value.ownBlock] at e
    · simp only [upd_other _ _ e'] at e
      have ht := h.tc j hj b e
      rw [o2 b (by omega)]; exact ht
  · rw [hO] at hb
    simp only [] at hb
    by_cases e : b < w.heap.size
    · rw [if_pos e] at hb
      by_cases e4 : b = d
      · subst e4; exact ⟨_, hblk, rfl⟩
      · rw [hk b e e4]; exact h.cel b hb
    · rw [if_neg e] at hb
      by_cases e1 : v1.ownBlock = some b
      · obtain ⟨c, e2⟩ := h1.bytes b e1; exact ⟨_, e2, rfl⟩
      · rw [if_neg e1] at hb
        by_cases e1 : v2.ownBlock = some b
        · obtain ⟨c, e2⟩ := h2.bytes b e1; exact ⟨_, e2, rfl⟩
        · rw [if_neg e1] at hb; exact absurd rfl hb
  · by_cases e : b < w.heap.size
    · rw [o1 b e] at hb; exact .inl hb
    · exact .inr (by omega)
theorem dk_new (w : World) : DK (w.alloc (.cells (dkc nil9 nil9 nil9 false 0 0) 107)) (fun b => if b = w.heap.size then 26 else 0) w.heap.size (dsN [] 0) nil9 nil9 nil9 :=
  ⟨Bk.new _ _ _, fun i _ => Ow.nil _ _, fun i _ => Ow.nil _ _, fun i _ => Cv.nil _ _, fun i _ b e => by simp [Value.ownBlock] at e, fun i _ b e => by simp [Value.ownBlock] at e, fun i _ b e => by simp [Value.ownBlock] at e, if_pos rfl, fun b hb => by
    by_cases e : b = w.heap.size
    · subst e; exact ⟨_, Bk.new _ _ _, rfl⟩
    · have hb' : (if b = w.heap.size then 26 else 0) ≠ 0 := hb
      rw [if_neg e] at hb'; exact absurd rfl hb', by simp [dsN], by simp [dsN]⟩
set_option maxRecDepth 100000 in
set_option maxHeartbeats 4000000 in
theorem new_no (w : World) (v : Value) (ls : List (List UInt8)) (h : Rl w v ls) (hn : ¬ (ls.length = 0 ∨ ls.length = 8)) :
    Calls Try.prog 56 #[v] w fun e w' => e = .returned (.tuple #[.pointer none, .int .i64 1]) ∧ Below w.heap.size w w' := by
  obtain ⟨ad, cap, rfl, h1, h2, hc⟩ := h
  have n0 : ((ls.length : Int) != 0) = true := by rw [bne_iff_ne]; omega
  have n8 : ((ls.length : Int) != 8) = true := by rw [bne_iff_ne]; omega
  clear hc
  go_enter Try.func56, Try.ntmps56
  go_wp2
  go_ret2
  exact ⟨rfl, Below.refl _ _⟩
theorem ow_up {w : World} {base base' : Nat} {v : Value} {l : List UInt8} (h : Ow w base' v l) (hb : base ≤ base') : Ow w base v l := by
  refine ⟨h.1, ?_⟩
  rcases h.2 with h2 | ⟨g, cap, cur, e, h3, h4, h5⟩
  · exact .inl h2
  · exact .inr ⟨g, cap, cur, e, Nat.le_trans hb h3, h4, h5⟩
/-- So many rows were laid. -/
structure NwI (w : World) (ls : List (List UInt8)) (n : Nat) (W : World) : Prop where
  ex : ∃ O nv sv cv, DK W O w.heap.size (dsN ls n) nv sv cv ∧ (∀ b, O b ≠ 0 → w.heap.size ≤ b) ∧ Below w.heap.size w W
theorem nw_step {w W A : World} {O : Nat → Nat} {ls : List (List UInt8)} {n : Nat} {nv sv cv : Nat → Value} (h : DK W O w.heap.size (dsN ls n) nv sv cv) (hO : ∀ b, O b ≠ 0 → w.heap.size ≤ b) (hW : Below w.heap.size w W) (hn : n < 8) {v1 v2 : Value}
    (hb : Below W.heap.size W A) (h1 : Ow A W.heap.size v1 (ls.getD n [])) (h2 : Ow A W.heap.size v2 (ls.getD n [])) (f3 : ∀ b, v1.ownBlock = some b → v2.ownBlock ≠ some b) :
    NwI w ls (n + 1) (((A.setCell ⟨w.heap.size, n * 3, none⟩ v1).setCell ⟨w.heap.size, n * 3 + 1, none⟩ v2).setCell ⟨w.heap.size, n * 3 + 2, none⟩ (.slice none 0 0)) := by
  have hwd : w.heap.size < W.heap.size := h.blk.lt
  have oth : ∀ k, k ≠ w.heap.size → (((A.setCell ⟨w.heap.size, n * 3, none⟩ v1).setCell ⟨w.heap.size, n * 3 + 1, none⟩ v2).setCell ⟨w.heap.size, n * 3 + 2, none⟩ (.slice none 0 0)).heap[k]? = A.heap[k]? := fun k hk =>
    (Below.heap_setCell _ _ _ k hk).trans ((Below.heap_setCell _ _ _ k hk).trans (Below.heap_setCell _ _ _ k hk))
  have z : ∀ {v : Value} {l : List UInt8}, Ow A W.heap.size v l → Ow (((A.setCell ⟨w.heap.size, n * 3, none⟩ v1).setCell ⟨w.heap.size, n * 3 + 1, none⟩ v2).setCell ⟨w.heap.size, n * 3 + 2, none⟩ (.slice none 0 0)) 0 v l := fun {v l} hv => by
    have : Ow A 0 v l := by
      refine ⟨hv.1, ?_⟩
      rcases hv.2 with h2 | ⟨g, cap, cur, e, h3, h4, h5⟩
      · exact .inl h2
      · exact .inr ⟨g, cap, cur, e, Nat.zero_le _, h4, h5⟩
    exact this.same fun b e => oth b (by have := (hv.ge e).1; omega)
  obtain ⟨O', r1, r2⟩ := h.newStep hn (v1 := v1) (v2 := v2) (r := ls.getD n []) (((((h.blk.below hb h.blk.lt).set _ _ (dkc_setN _ _ _ _ _ _ hn v1)).set _ _ (dkc_setS _ _ _ _ _ _ hn v2)).set _ _ (dkc_setC _ _ _ _ _ _ hn (.slice none 0 0)))) (z h1) (z h2) (fun b e => (h1.ge e).1) (fun b e => (h2.ge e).1) f3
    (fun k hk n1 => (oth k n1).trans (hb.block k hk))
  have e : { dsN ls n with now := upd (dsN ls n).now n (ls.getD n []), safe := upd (dsN ls n).safe n (ls.getD n []), chs := upd (dsN ls n).chs n [] } = dsN ls (n + 1) := by
    have e1 : upd (fun i => if i < n then ls.getD i [] else []) n (ls.getD n []) = fun i => if i < n + 1 then ls.getD i [] else [] := by
      funext i
      unfold upd
      by_cases h6 : i = n
      · subst h6; simp
      · rw [if_neg h6]
        by_cases h7 : i < n
        · simp only []; rw [if_pos h7, if_pos (by omega)]
        · simp only []; rw [if_neg h7, if_neg (by omega)]
    have e2 : upd (fun _ : Nat => ([] : List Ch)) n [] = fun _ => [] := by funext i; unfold upd; split <;> rfl
    unfold dsN
    simp only [e1, e2]
  rw [e] at r1
  refine ⟨⟨O', upd nv n v1, upd sv n v2, upd cv n (.slice none 0 0), r1, fun b hb' => ?_, ((hW.trans (hb.mono hW.size)).setCell (p := ⟨w.heap.size, n * 3, none⟩) (Nat.le_refl _) _ |>.setCell (p := ⟨w.heap.size, n * 3 + 1, none⟩) (Nat.le_refl _) _ |>.setCell (p := ⟨w.heap.size, n * 3 + 2, none⟩) (Nat.le_refl _) _)⟩⟩
  rcases r2 b hb' with h | h
  · exact hO b h
  · omega
set_option maxRecDepth 100000 in
set_option maxHeartbeats 4000000 in
theorem new9 (w : World) (v : Value) (ls : List (List UInt8)) (h : Rl w v ls) (hn : ls.length = 0 ∨ ls.length = 8) :
    Calls Try.prog 56 #[v] w fun e w' => Below w.heap.size w w' ∧ ((¬ Sml ls ∧ e = .returned (.tuple #[.pointer none, .int .i64 1])) ∨ (Sml ls ∧ e = .returned (.tuple #[.pointer (some ⟨w.heap.size, 0, none⟩), .int .i64 0]) ∧ NwI w ls ls.length w')) := by
  have HL : Hid (Rl w v ls) := h
  obtain ⟨ad, cap, rfl, h1, h2, hc⟩ := h
  have HC : Hid (∀ i (h : i < ls.length), ∃ b off rv, ad = some ⟨b, off, none⟩ ∧ w.cell? ⟨b, off + i, none⟩ = some rv ∧ Rb w rv ls[i]) := hc
  have hn8 : ls.length ≤ 8 := by omega
  have HN : Hid (ls.length = 0 ∨ ls.length = 8) := hn
  have h0 : NwI w ls 0 (w.alloc (.cells (dkc nil9 nil9 nil9 false 0 0) 107)) := by
    refine ⟨⟨fun b => if b = w.heap.size then 26 else 0, nil9, nil9, nil9, ?_, fun b hb => ?_, (Below.refl _ _).alloc (Nat.le_refl _) _⟩⟩
    · have := dk_new w
      have e : dsN ls 0 = dsN [] 0 := by unfold dsN; simp
      rw [e]; exact this
    · by_cases e : b = w.heap.size
      · omega
      · have hb' : (if b = w.heap.size then 26 else 0) ≠ 0 := hb
        rw [if_neg e] at hb'; exact absurd rfl hb'
  have H0 : Hid (NwI w ls 0 (w.alloc (.cells (dkc nil9 nil9 nil9 false 0 0) 107))) := h0
  clear hc h0 hn
  go_enter Try.func56, Try.ntmps56
  by_cases hz : ls.length = 0
  · obtain rfl : ls = [] := List.length_eq_zero_iff.1 hz
    clear hz HN HC hn8
    go_wp2
    go_loopw [19] (fun i wr => i = .int .i64 0 ∧ NwI w [] 0 wr) (fun i _ => 0)
    case atStart => exact ⟨rfl, H0.out⟩
    case round =>
      obtain ⟨rfl, hI⟩ := hrel
      have HI : Hid (NwI w [] 0 wr) := hI
      have hb0 : Below w.heap.size w wr := by obtain ⟨_, _, _, _, _, _, h⟩ := hI.ex; exact h
      clear H0 hI
      go_wp2
      go_ret2
      exact ⟨hb0, .inr ⟨fun l hl => by simp at hl, rfl, HI.out⟩⟩
  · have h8 : ls.length = 8 := by have := HN.out; omega
    go_wp2
    go_loopw [19] (fun i wr => ∃ n : Nat, n ≤ 8 ∧ i = .int .i64 (n : Int) ∧ NwI w ls n wr ∧ SmlTo ls n) (fun i _ => 8 - (intOf i).toNat)
    case atStart => exact ⟨0, by omega, rfl, H0.out, fun k _ hk => by omega⟩
    case round =>
      clear H0
      obtain ⟨n, hn, rfl, hI, hsm⟩ := hrel
      have HI : Hid (NwI w ls n wr) := hI
      have HSm : Hid (SmlTo ls n) := hsm
      obtain ⟨O, nv, sv, cv, hD, hO, hB⟩ := hI.ex
      have HD : Hid (DK wr O w.heap.size (dsN ls n) nv sv cv ∧ (∀ b, O b ≠ 0 → w.heap.size ≤ b) ∧ Below w.heap.size w wr) := ⟨hD, hO, hB⟩
      by_cases hlt : n < 8
      · have hlt' : (n : Int) < 8 := by omega
        obtain ⟨b, off, rv, e1, hx, hrb⟩ := HC.out n (by omega)
        subst e1
        have hxw := (hB.cell (cell_lt hx)).trans hx
        have hrw := hrb.below hB
        obtain ⟨ra, rc, erv, hrle, hrm, hrc⟩ := hrb
        subst erv
        have HRb : Hid (Rb wr (.slice ra ls[n].length rc) ls[n]) := hrw
        have hgd : ls.getD n [] = ls[n] := by simp [List.getD, List.getElem?_eq_getElem (show n < ls.length by omega)]
        have hgl : ls[n].length = (ls[n]'(by omega)).length := rfl
        by_cases hbig : 131072 < ls[n].length
        · have hbig' : (131072 : Int) < (ls[n].length : Int) := by omega
          have HBad : Hid (¬ Sml ls) := fun h => by have := h _ (List.getElem_mem (show n < ls.length by omega)); omega
          clear hI hsm hD hO hrc hrw hx hrle
          go_wp2
          go_ret2
          exact ⟨hB, .inl ⟨HBad.out, rfl⟩⟩
        · have hbig' : ¬ (131072 : Int) < (ls[n].length : Int) := by omega
          have HNext : Hid (SmlTo ls (n + 1)) := fun k h hk => by
            by_cases e : k = n
            · subst e; omega
            · exact hsm k h (by omega)
          have HCl : Hid (∀ W', Below wr.heap.size wr W' → Calls Try.prog 71 #[.slice ra ls[n].length rc] W' fun e w' => ∃ v', e = .returned v' ∧ Ow w' W'.heap.size v' ls[n] ∧ Below W'.heap.size W' w') := fun W' hW' => clone W' _ _ (HRb.out.below hW') (by omega)
          have hld := hD.blk.lt
          clear hI hsm hD hO hrc hrw hx hrle hrm
          have HSt : Hid (∀ (A : World) (v1 v2 : Value), Below wr.heap.size wr A → Ow A wr.heap.size v1 ls[n] → Ow A wr.heap.size v2 ls[n] → (∀ b, v1.ownBlock = some b → v2.ownBlock ≠ some b) → NwI w ls (n + 1) (((A.setCell ⟨w.heap.size, n * 3, none⟩ v1).setCell ⟨w.heap.size, n * 3 + 1, none⟩ v2).setCell ⟨w.heap.size, n * 3 + 2, none⟩ (.slice none 0 0))) := fun A v1 v2 a1 a2 a3 a4 => nw_step HD.out.1 HD.out.2.1 HD.out.2.2 hlt a1 (by rw [hgd]; exact a2) (by rw [hgd]; exact a3) a4
          have HDb : Hid (Bk wr w.heap.size (dkc nv sv cv (dsN ls n).off (dsN ls n).tO (dsN ls n).tF) 107) := HD.out.1.blk
          clear hgd hgl
          go_upto_region 9 with fail
          refine wp_region_noPanic ?_
          refine wp_region_held_drew (S := fun _ => True) (by kernel_rfl) ?_ (fun hHeld => ?_)
          · ((try dsimp only); try trivial)
          (try dsimp only at hHeld)
          refine wpAnyH_take (i := 0) (oi := ⟨some 27, _, _, _, _, _⟩) (v := ?_) rfl (by kernel_rfl) (by kernel_rfl) (by kernel_rfl) (fun _ _ _ h => h) (Or.inl ⟨by rfl, ?_⟩) (by assumption) ?_
          rotate_left
          · (intro w hSw; (try dsimp only at hSw); go_simp; try (with_reducible rfl))
          (try dsimp only); (try simp only [Act.put, List.setIfInBounds_toArray, List.set_cons_zero, List.set_cons_succ])
          refine wpAnyH_take (i := 1) (oi := ⟨some 28, _, _, _, _, _⟩) (v := ?_) rfl (by kernel_rfl) (by kernel_rfl) (by kernel_rfl) (fun _ _ _ h => h) (Or.inl ⟨by rfl, ?_⟩) (by assumption) ?_
          rotate_left
          · (intro w hSw; (try dsimp only at hSw); go_simp; try (with_reducible rfl))
          (try dsimp only); (try simp only [Act.put, List.setIfInBounds_toArray, List.set_cons_zero, List.set_cons_succ])
          refine wpAnyH_take (i := 2) (oi := ⟨some 29, _, _, _, _, _⟩) (v := ?_) rfl (by kernel_rfl) (by kernel_rfl) (by kernel_rfl) (fun _ _ _ h => h) (Or.inl ⟨by rfl, ?_⟩) (by assumption) ?_
          rotate_left
          · (intro w hSw; (try dsimp only at hSw); go_simp; try (with_reducible rfl))
          (try dsimp only); (try simp only [Act.put, List.setIfInBounds_toArray, List.set_cons_zero, List.set_cons_succ])
          refine wpAnyH_take (i := 4) (oi := ⟨some 31, _, _, _, _, _⟩) (v := ?_) rfl (by kernel_rfl) (by kernel_rfl) (by kernel_rfl) (fun _ _ _ h => h) (Or.inl ⟨by rfl, ?_⟩) (by assumption) ?_
          rotate_left
          · (intro w hSw; (try dsimp only at hSw); go_simp; try (with_reducible rfl))
          (try dsimp only); (try simp only [Act.put, List.setIfInBounds_toArray, List.set_cons_zero, List.set_cons_succ])
          refine wpAnyH_take (i := 7) (oi := ⟨some 34, _, _, _, _, _⟩) (v := ?_) rfl (by kernel_rfl) (by kernel_rfl) (by kernel_rfl) (fun _ _ _ h => h) (Or.inl ⟨by rfl, ?_⟩) (by assumption) ?_
          rotate_left
          · (intro w hSw; (try dsimp only at hSw); go_simp; try (with_reducible rfl))
          (try dsimp only); (try simp only [Act.put, List.setIfInBounds_toArray, List.set_cons_zero, List.set_cons_succ])
          refine wpAnyH_take (i := 8) (oi := ⟨some 35, _, _, _, _, _⟩) (v := ?_) rfl (by kernel_rfl) (by kernel_rfl) (by kernel_rfl) (fun _ _ _ h => h) (Or.inl ⟨by rfl, ?_⟩) (by assumption) ?_
          rotate_left
          · (intro w hSw; (try dsimp only at hSw); go_simp; try (with_reducible rfl))
          (try dsimp only); (try simp only [Act.put, List.setIfInBounds_toArray, List.set_cons_zero, List.set_cons_succ])
          refine wpAnyH_ready (rs := [3]) (by kernel_rfl) (by simp) ?_
          refine AllReadyH.cons (o := ⟨some 30, _, _, _, _, _⟩) rfl (fun K hK => ?_) AllReadyH.nil
          go_simp
          refine (HCl.out wr.drew ((Below.refl _ _).drew)).mono ?_
          rintro e w5 ⟨v5, rfl, ho5, hb5⟩
          obtain ⟨ad5, n5, cap5, rfl⟩ := ownsRow_sl ho5
          refine hK.out _ _ trivial (fun hHeld => ?_)
          clear hK K
          (try dsimp only); (try simp only [Act.put, List.setIfInBounds_toArray, List.set_cons_zero, List.set_cons_succ])
          refine wpAnyH_ready (rs := [5]) (by kernel_rfl) (by simp) ?_
          refine AllReadyH.cons (o := ⟨some 32, _, _, _, _, _⟩) rfl (fun K hK => ?_) AllReadyH.nil
          go_simp
          refine (HCl.out w5 (Below.trans ((Below.refl _ _).drew) hb5)).mono ?_
          rintro e w6 ⟨v6, rfl, ho6, hb6⟩
          obtain ⟨ad6, n6, cap6, rfl⟩ := ownsRow_sl ho6
          have hb56 : Below wr.heap.size wr w6 := (Below.trans ((Below.refl _ _).drew) hb5).trans (hb6.mono hb5.size)
          have HE6 : Hid (NwI w ls (n + 1) _) := HSt.out w6 (.slice ad5 n5 cap5) (.slice ad6 n6 cap6) hb56 (ho5.below hb6 ho5.lt) (ow_up ho6 hb5.size) (fun b e e2 => by have h1 := ho5.lt b e; have h2 := (ho6.ge e2).1; omega)
          have hd6 := HDb.out.below hb56 hld
          have q0 := (hd6.cell _).trans (dkc_now _ _ _ _ _ _ hlt)
          have q1 := (hd6.cell _).trans (dkc_safe _ _ _ _ _ _ hlt)
          have q2 := (hd6.cell _).trans (dkc_chs _ _ _ _ _ _ hlt)
          have qf0 := hd6.frozen (n * 3)
          have qf1 := hd6.frozen (n * 3 + 1)
          have qf2 := hd6.frozen (n * 3 + 2)
          have ql := hd6.lt
          refine hK.out _ _ trivial (fun hHeld => ?_)
          clear hK K ho5 hb5 ho6 hb6 hb56 hd6
          (try dsimp only); (try simp only [Act.put, List.setIfInBounds_toArray, List.set_cons_zero, List.set_cons_succ])
          refine wpAnyH_take (i := 6) (oi := ⟨some 33, _, _, _, _, _⟩) (v := ?_) rfl (by kernel_rfl) (by kernel_rfl) (by kernel_rfl) (fun _ _ _ h => h) (Or.inl ⟨by rfl, ?_⟩) (by assumption) ?_
          rotate_left
          · (intro w hSw; (try dsimp only at hSw); go_simp; try (with_reducible rfl))
          (try dsimp only); (try simp only [Act.put, List.setIfInBounds_toArray, List.set_cons_zero, List.set_cons_succ])
          refine wpAnyH_take (i := 9) (oi := ⟨some 36, _, _, _, _, _⟩) (v := ?_) rfl (by kernel_rfl) (by kernel_rfl) (by kernel_rfl) (fun _ _ _ h => h) (Or.inl ⟨by rfl, ?_⟩) (by assumption) ?_
          rotate_left
          · (intro w hSw; (try dsimp only at hSw); go_simp; try (with_reducible rfl))
          (try dsimp only); (try simp only [Act.put, List.setIfInBounds_toArray, List.set_cons_zero, List.set_cons_succ])
          refine wpAnyH_ready (rs := [10]) (by kernel_rfl) (by simp) ?_
          refine AllReadyH.cons (o := ⟨none, _, _, _, _, _⟩) rfl (fun K hK => ?_) AllReadyH.nil
          go_simp
          refine hK.out _ _ trivial (fun hHeld => ?_)
          clear hK K
          (try dsimp only); (try simp only [Act.put, List.setIfInBounds_toArray, List.set_cons_zero, List.set_cons_succ])
          refine wpAnyH_done (by kernel_rfl) ?_ _
          refine NoPanic.normal ?_
          go_wp2
          go_roundw
          case rel => exact ⟨_, _, _, _, .int .i64 ((n : Int) + 1), ⟨n + 1, by omega, by simp, HE6.out, HNext.out⟩, rfl, rfl, rfl, rfl, rfl⟩
          case measure => simp [intOf]; omega
      · have hlt' : ¬ (n : Int) < 8 := by omega
        obtain rfl : n = 8 := by omega
        clear hI hsm hD hO
        go_wp2
        go_ret2
        exact ⟨hB, .inr ⟨fun l hl => by obtain ⟨k, hk, rfl⟩ := List.getElem_of_mem hl; exact HSm.out k hk (by omega), rfl, by first | exact HI.out | (rw [h8]; exact HI.out)⟩⟩
end Go.Proofs.Ytjbhegakgdcldaa
end
section
set_option linter.unusedSimpArgs false
set_option linter.unusedVariables false
namespace Go.Proofs.Ytjbhegakgdcldaa
open Go.RowKit

/-! A disk behind n acts: what it always is, and no more changes than so many. -/
structure Few (D : Ds) (n : Nat) : Prop where
  inv : Inv D
  few : ∀ i, i < 8 → (D.chs i).length ≤ n * 131072
theorem Few.le {D : Ds} {n m : Nat} (h : Few D n) (hm : n ≤ m) : Few D m := ⟨h.inv, fun i hi => Nat.le_trans (h.few i hi) (Nat.mul_le_mul_right _ hm)⟩
theorem Few.offD {D : Ds} {n : Nat} (h : Few D n) (k : Int) : Few (offD D k) n := ⟨h.inv.offD k, h.few⟩
theorem Few.failD {D : Ds} {n : Nat} (h : Few D n) (k : Int) : Few (failD D k) n := ⟨h.inv.failD k, h.few⟩
theorem Few.wrD {D : Ds} {n : Nat} (h : Few D n) (f at_ : Int) (bs : List UInt8) : Few (wrD D f at_ bs) (n + 1) := by
  refine ⟨h.inv.wrD f at_ bs, fun i hi => ?_⟩
  have hq0 := h.few i hi
  rw [Nat.add_mul, Nat.one_mul]
  generalize n * 131072 = q at hq0 ⊢
  by_cases hw : wrE D f at_ bs.length = 0
  · obtain ⟨h0, j, a, rfl, hj, rfl, ha, hab⟩ := wrE_ok hw
    have e : Go.Proofs.Ytjbhegakgdcldaa.wrD D (j : Int) (a : Int) bs = Go.Proofs.Ytjbhegakgdcldaa.wrL (Go.Proofs.Ytjbhegakgdcldaa.cnt D) j a bs (pcs a bs.length 0) := by unfold Go.Proofs.Ytjbhegakgdcldaa.wrD; rw [if_pos hw, Int.toNat_natCast, Int.toNat_natCast]
    rw [e]
    by_cases hij : i = j
    · subst hij
      rw [wr_chs]
      have h1 := pcs_len a bs.length bs.length 0 (by omega)
      have h2 : ((Go.Proofs.Ytjbhegakgdcldaa.cnt D).chs i).length ≤ q := hq0
      omega
    · have e2 : ∀ (xs : List (Nat × Nat)) (E : Ds), (Go.Proofs.Ytjbhegakgdcldaa.wrL E j a bs xs).chs i = E.chs i := by
        intro xs
        induction xs with
        | nil => intro E; rfl
        | cons x xs ih =>
          intro E
          have h3 := ih (Go.Proofs.Ytjbhegakgdcldaa.chg E j (pch a bs x))
          refine Eq.trans h3 ?_
          show upd E.chs j _ i = _
          exact upd_other _ _ hij
      rw [e2]
      have h2 : ((Go.Proofs.Ytjbhegakgdcldaa.cnt D).chs i).length ≤ q := hq0
      omega
  · have e : Go.Proofs.Ytjbhegakgdcldaa.wrD D f at_ bs = Go.Proofs.Ytjbhegakgdcldaa.cnt D := if_neg hw
    rw [e]
    have h2 : ((Go.Proofs.Ytjbhegakgdcldaa.cnt D).chs i).length ≤ q := hq0
    omega
theorem Few.cutD {D : Ds} {n : Nat} (h : Few D n) (f k : Int) : Few (cutD D f k) (n + 1) := by
  refine ⟨h.inv.cutD f k, fun i hi => ?_⟩
  have h2 := h.few i hi
  rw [Nat.add_mul, Nat.one_mul]
  generalize n * 131072 = q at h2 ⊢
  unfold Go.Proofs.Ytjbhegakgdcldaa.cutD
  split
  · show (upd D.chs f.toNat (D.chs f.toNat ++ [_]) i).length ≤ _
    by_cases e : i = f.toNat
    · subst e
      rw [upd_same, List.length_append, List.length_singleton]
      omega
    · rw [upd_other _ _ e]
      omega
  · show (D.chs i).length ≤ _
    omega
theorem Few.psyD {D : Ds} {n : Nat} (h : Few D n) (f : Int) : Few (psyD D f) n := by
  refine ⟨h.inv.psyD f, fun i hi => ?_⟩
  have h2 := h.few i hi
  unfold Go.Proofs.Ytjbhegakgdcldaa.psyD
  split
  · show (upd D.chs f.toNat [] i).length ≤ _
    by_cases e : i = f.toNat
    · subst e; rw [upd_same]; simp
    · rw [upd_other _ _ e]; omega
  · exact h2
theorem Few.off {D : Ds} {n : Nat} (h : Few D n) (b : Bool) : Few { D with off := b } n := ⟨⟨h.inv.now, h.inv.len, h.inv.saf, h.inv.chb⟩, h.few⟩
theorem Few.crash {D : Ds} {n : Nat} (h : Few D n) (ps : List Int) (i : Nat) (hi : i < 8) : (crash D ps i).length ≤ 131072 := by
  rw [crash_page D ps i hi]
  exact crI_le ps _ (h.inv.chb i hi) _ _ (h.inv.saf i hi)
theorem getD_small {ls : List (List UInt8)} (h : Sml ls) (i : Nat) : (ls.getD i []).length ≤ 131072 := by
  by_cases hi : i < ls.length
  · have : ls.getD i [] = ls[i] := by simp [List.getD, hi]
    rw [this]
    exact h _ (List.getElem_mem hi)
  · have : ls.getD i [] = [] := by simp [List.getD, hi]
    rw [this]
    simp
theorem Few.new {ls : List (List UInt8)} (h : Sml ls) (n m : Nat) : Few (dsN ls n) m := by
  have hl : ∀ i, (if i < n then ls.getD i [] else []).length ≤ 131072 := fun i => by
    split
    · exact getD_small h i
    · simp
  exact ⟨⟨fun i hi => rfl, fun i hi => hl i, fun i hi => hl i, fun i hi c hc => by cases hc⟩, fun i hi => by show ([] : List Ch).length ≤ _; simp⟩
theorem dsN_nil (n m : Nat) : dsN [] n = dsN [] m := by
  unfold dsN
  have e : ∀ k : Nat, (fun i => if i < k then ([] : List (List UInt8)).getD i [] else []) = fun _ => ([] : List UInt8) := fun k => by
    funext i
    split
    · rfl
    · rfl
  rw [e n, e m]
theorem dsN_len {ls : List (List UInt8)} (h : ls.length = 0 ∨ ls.length = 8) : dsN ls ls.length = dsN ls 8 := by
  rcases h with h | h
  · have : ls = [] := List.length_eq_zero_iff.1 h
    subst this
    exact dsN_nil _ _
  · rw [h]
/-- Eight rows of a crash, read. -/
theorem RW.rl {W : World} {T : Nat → Nat} {rb pb : Nat} {rv : Nat → Value} {pv : Value} {r : Nat → List UInt8} (h : RW W T rb pb rv pv r) (hr : ∀ i, i < 8 → (r i).length ≤ 9223372036854775807) : Rl W (.slice (some ⟨rb, 0, none⟩) 8 8) ((List.range 8).map r) := by
  refine ⟨some ⟨rb, 0, none⟩, 8, by simp, by simp, by simp, fun i hi => ?_⟩
  have hi8 : i < 8 := by simpa using hi
  refine ⟨rb, 0, rv i, rfl, ?_, ?_⟩
  · rw [Nat.zero_add, h.blk.cell i]
    exact r8_at rv hi8
  · have e : ∀ (l : List (List UInt8)), l = (List.range 8).map r → ∀ (h : i < l.length), l[i] = r i := fun l hl h => by subst hl; rw [List.getElem_map, List.getElem_range]
    rw [e _ rfl hi]
    exact (h.ow i hi8).rb (hr i hi8)
theorem small_crash {D : Ds} {n : Nat} (h : Few D n) (ps : List Int) : Sml ((List.range 8).map (Go.Proofs.Ytjbhegakgdcldaa.crash D ps)) := fun l hl => by
  obtain ⟨i, hi, rfl⟩ := List.mem_map.1 hl
  exact h.crash ps i (by simpa using hi)
end Go.Proofs.Ytjbhegakgdcldaa
end

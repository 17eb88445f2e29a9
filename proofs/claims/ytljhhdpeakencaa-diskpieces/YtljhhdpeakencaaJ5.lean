/- Texts joined: PkR DkT PkS PkA. -/
import Derived.Test.YtljhhdpeakencaaPkC
import Derived.Test.YtljhhdpeakencaaJ2
import Derived.Test.YtljhhdpeakencaaJ3
section
set_option linter.unusedSimpArgs false
set_option linter.unusedVariables false
namespace Go.Proofs.Ytljhhdpeakencaa
open Go.RowKit

/-! The page's Size, Read, Arm, Fail. -/
/-- The page's disk, wherever its rows lie. -/
def PKw (w : World) (O : Nat → Nat) (d : Nat) (D : Ds) : Prop := ∃ gl gs gn cl cs cn lv sv cv left bad armed off hurt, PK w O d D gl gs gn cl cs cn lv sv cv left bad armed off hurt
theorem PK.w {w : World} {O : Nat → Nat} {d : Nat} {D : Ds} {gl gs gn cl cs cn : Nat} {lv sv cv : Nat → Value} {left bad : Int} {armed off hurt : Bool} (h : PK w O d D gl gs gn cl cs cn lv sv cv left bad armed off hurt) : PKw w O d D := ⟨_, _, _, _, _, _, _, _, _, _, _, _, _, _, h⟩
theorem PKw.frame {w w' : World} {O : Nat → Nat} {d : Nat} {D : Ds} (h : PKw w O d D) (hk : ∀ b, O b ≠ 0 → w'.heap[b]? = w.heap[b]?) : PKw w' O d D := by
  obtain ⟨_, _, _, _, _, _, _, _, _, _, _, _, _, _, h⟩ := h
  exact (h.frame hk).w
theorem PKw.below {w w' : World} {O : Nat → Nat} {d : Nat} {D : Ds} (h : PKw w O d D) (hb : Below w.heap.size w w') : PKw w' O d D := by
  obtain ⟨_, _, _, _, _, _, _, _, _, _, _, _, _, _, h⟩ := h
  exact (h.below hb).w
section
variable {w : World} {O : Nat → Nat} {d : Nat} {D : Ds} {gl gs gn cl cs cn : Nat} {lv sv cv : Nat → Value} {left bad : Int} {armed off hurt : Bool}
set_option maxRecDepth 100000 in
set_option maxHeartbeats 2000000 in
theorem psize (h : PK w O d D gl gs gn cl cs cn lv sv cv left bad armed off hurt) (f : Int) :
    Calls Try.prog 31 #[.pointer (some ⟨d, 0, none⟩), .int .i64 f] w fun e w' => e = .returned (.tuple #[.int .i64 (sizeV D f), .int .i64 (fndE D.off f)]) ∧ w' = w := by
  have HP : Hid (PK w O d D gl gs gn cl cs cn lv sv cv left bad armed off hurt) := h
  have hd := h.blk.lt
  have c0 := h.blk.cell 0
  have c6 := h.blk.cell 6
  simp only [List.getElem?_toArray, List.getElem?_cons_zero, List.getElem?_cons_succ] at c0 c6
  have ho := h.pn.off
  unfold sizeV
  rw [← ho]
  clear ho
  cases off with
  | true =>
    have e13 : fndE true f = 13 := if_pos rfl
    rw [e13, if_neg (by omega)]
    clear h e13
    go_enter Try.func31, Try.ntmps31
    go_wp2_with fail
    go_ret2
    exact ⟨rfl, rfl⟩
  | false =>
    by_cases hf : 0 ≤ f ∧ f ≤ 7
    · obtain ⟨i, rfl⟩ : ∃ i : Nat, f = i := ⟨f.toNat, by omega⟩
      have hi : i < 8 := by omega
      have e0 : fndE false (i : Int) = 0 := by unfold fndE; rw [if_neg (by simp), if_neg (by omega)]
      have HN : Hid (Calls Try.prog 76 #[.int .i64 (i : Int), .int .i64 7] w fun e w' => e = .returned (.bool true) ∧ w' = w) := by
        have := num9 (i : Int) 7 w
        rw [decide_eq_true hf.1, decide_eq_true hf.2] at this
        exact this
      rw [e0, if_pos rfl, Int.toNat_natCast]
      obtain ⟨ad, cap, env, _⟩ := (h.now i hi).1.shape
      have c1 := h.live.cell hi
      rw [env] at c1
      clear h env e0
      generalize (D.now i).length = n at *
      go_enter Try.func31, Try.ntmps31
      go_wp2_with (go_at_call 76; refine Calls.mono HN.out ?_; rintro e w8 ⟨rfl, rfl⟩)
      go_ret2
      exact ⟨rfl, rfl⟩
    · have e3 : fndE false f = 3 := by unfold fndE; rw [if_neg (by simp), if_pos (by omega)]
      have HN : Hid (Calls Try.prog 76 #[.int .i64 f, .int .i64 7] w fun e w' => e = .returned (.bool false) ∧ w' = w) := by
        have := num9 f 7 w
        rw [show (decide (0 ≤ f) && decide (f ≤ 7)) = false by rw [← Bool.decide_and]; exact decide_eq_false hf] at this
        exact this
      rw [e3, if_neg (by omega)]
      clear h e3 hf
      go_enter Try.func31, Try.ntmps31
      go_wp2_with (go_at_call 76; refine Calls.mono HN.out ?_; rintro e w8 ⟨rfl, rfl⟩)
      go_ret2
      exact ⟨rfl, rfl⟩
/-- What Off does to a disk. -/
def offD (D : Ds) (n : Int) : Ds := { D with off := D.off || decide (n < 1), tO := n.toNat }
def failD (D : Ds) (n : Int) : Ds := { D with tF := n.toNat }
set_option maxRecDepth 100000 in
set_option maxHeartbeats 2000000 in
theorem parm (h : PK w O d D gl gs gn cl cs cn lv sv cv left bad armed off hurt) (n : Int) :
    Calls Try.prog 41 #[.pointer (some ⟨d, 0, none⟩), .int .i64 n] w fun e w' => (∃ v, e = .returned v) ∧ PKw w' O d (offD D n) ∧ Fp O w O w' := by
  have HP : Hid (PK w O d D gl gs gn cl cs cn lv sv cv left bad armed off hurt) := h
  have hd := h.blk.lt
  have c3 := h.blk.cell 3
  have c5 := h.blk.cell 5
  have c6 := h.blk.cell 6
  have f3 := h.blk.frozen 3
  have f5 := h.blk.frozen 5
  have f6 := h.blk.frozen 6
  simp only [List.getElem?_toArray, List.getElem?_cons_zero, List.getElem?_cons_succ] at c3 c5 c6
  clear h
  by_cases hn : n < 1
  · go_enter Try.func41, Try.ntmps41
    go_wp2_with fail
    (try simp only [Exit.inBlock, Exit.then])
    refine bodyPost_ret (results_none rfl _ _ _) rfl ?_
    have ht := (Turn.refl HP.out.blk).more 6 (.bool true) rfl
    have ho : (offD D n).off = true := by show (D.off || decide (n < 1)) = true; rw [decide_eq_true hn, Bool.or_true]
    obtain ⟨r1, r2⟩ := HP.out.turn ht (D' := offD D n) rfl rfl rfl ⟨ho.symm, fun (e : (offD D n).off = false) => absurd (ho.symm.trans e) (by simp), fun (e : (offD D n).off = false) => absurd (ho.symm.trans e) (by simp)⟩
    exact ⟨⟨_, rfl⟩, r1.w, r2⟩
  · go_enter Try.func41, Try.ntmps41
    go_wp2_with fail
    go_end0
    have ht := ((Turn.refl HP.out.blk).more 5 (.bool true) rfl).more 3 (.int .i64 n) rfl
    have ho : (offD D n).off = D.off := by show (D.off || decide (n < 1)) = D.off; rw [decide_eq_false (by omega), Bool.or_false]
    have hp := HP.out.pn
    have et : (offD D n).tO = n.toNat := rfl
    obtain ⟨r1, r2⟩ := HP.out.turn ht (D' := offD D n) rfl rfl rfl ⟨hp.off.trans ho.symm, fun e => ⟨by rw [et]; exact (decide_eq_true (by omega)).symm, fun _ => by rw [et]; omega⟩, fun e => hp.hur (ho ▸ e)⟩
    exact ⟨⟨_, rfl⟩, r1.w, r2⟩
set_option maxRecDepth 100000 in
set_option maxHeartbeats 2000000 in
theorem pfail (h : PK w O d D gl gs gn cl cs cn lv sv cv left bad armed off hurt) (n : Int) :
    Calls Try.prog 43 #[.pointer (some ⟨d, 0, none⟩), .int .i64 n] w fun e w' => (∃ v, e = .returned v) ∧ PKw w' O d (failD D n) ∧ Fp O w O w' := by
  have HP : Hid (PK w O d D gl gs gn cl cs cn lv sv cv left bad armed off hurt) := h
  have hd := h.blk.lt
  have c4 := h.blk.cell 4
  have c7 := h.blk.cell 7
  have f4 := h.blk.frozen 4
  have f7 := h.blk.frozen 7
  simp only [List.getElem?_toArray, List.getElem?_cons_zero, List.getElem?_cons_succ] at c4 c7
  clear h
  go_enter Try.func43, Try.ntmps43
  go_wp2_with fail
  go_end0
  have ht := ((Turn.refl HP.out.blk).more 7 (.bool (decide (1 ≤ n))) rfl).more 4 (.int .i64 n) rfl
  have hp := HP.out.pn
  have et : (failD D n).tF = n.toNat := rfl
  obtain ⟨r1, r2⟩ := HP.out.turn ht (D' := failD D n) rfl rfl rfl ⟨hp.off, hp.arm, fun e => ⟨by rw [et]; exact decide_eq_decide.2 (by omega), fun e2 => by rw [et] at e2 ⊢; omega⟩⟩
  exact ⟨⟨_, rfl⟩, r1.w, r2⟩
set_option maxRecDepth 100000 in
set_option maxHeartbeats 2000000 in
theorem pread (h : PK w O d D gl gs gn cl cs cn lv sv cv left bad armed off hurt) (f at_ n : Int) (hl : ∀ i, i < 8 → (D.now i).length ≤ 1099511627776) (h1 : -9223372036854775808 ≤ n ∧ n ≤ 9223372036854775807) (h2 : -9223372036854775808 ≤ at_ ∧ at_ ≤ 9223372036854775807) :
    Calls Try.prog 33 #[.pointer (some ⟨d, 0, none⟩), .int .i64 f, .int .i64 at_, .int .i64 n] w fun e w' => ∃ v', e = .returned (.tuple #[v', .int .i64 (rdE D f at_ n)]) ∧ Ow w' w.heap.size v' (rdV D f at_ n) ∧ Below w.heap.size w w' := by
  have HF := psize h f
  by_cases h0 : fndE D.off f = 0
  · obtain ⟨ho, i, rfl, hi, hp⟩ := fnd_ok (d := d) h0
    have eS : sizeV D (i : Int) = ((D.now i).length : Int) := by unfold sizeV; rw [if_pos h0]; rfl
    rw [eS, h0] at HF
    obtain ⟨ad, cap, env, hle⟩ := (h.now i hi).1.shape
    have hd := h.blk.lt
    have c0 := h.blk.cell 0
    simp only [List.getElem?_toArray, List.getElem?_cons_zero, List.getElem?_cons_succ] at c0
    have c1 := h.live.cell hi
    rw [env] at c1
    have how : Ow w 0 (.slice ad (D.now i).length cap) (D.now i) := env ▸ (h.now i hi).1
    have HOw : Hid (Ow w 0 (.slice ad (D.now i).length cap) (D.now i)) := how
    have hli := hl i hi
    have HF : Hid _ := HF
    have eE : rdE D (i : Int) at_ n = if at_ < 0 ∨ n < 0 ∨ ((D.now i).length : Int) < at_ ∨ ((D.now i).length : Int) - at_ < n then 1 else 0 := by unfold rdE; rw [if_neg (by rw [h0]; simp), Int.toNat_natCast]
    unfold rdV
    rw [eE, Int.toNat_natCast]
    clear eE h hl env hp ho h0 how eS
    generalize hlr : D.now i = row at *
    by_cases hc : at_ < 0 ∨ n < 0 ∨ (row.length : Int) < at_ ∨ (row.length : Int) - at_ < n
    · rw [if_pos hc]
      rw [if_neg (by omega)]
      have hdif : 0 ≤ at_ → IntKind.i64.wrap ((row.length : Int) - at_) = (row.length : Int) - at_ := fun _ => IntWalk.i64_in _ (by omega)
      rcases hc with hc | hc | hc | hc
      · go_enter Try.func33, Try.ntmps33
        go_wp2_with (go_at_call 31; refine Calls.mono HF.out ?_; rintro e w8 ⟨rfl, rfl⟩)
        go_ret2
        exact ⟨_, rfl, Ow.nil _ _, Below.refl _ _⟩
      · by_cases hx : at_ < 0
        all_goals
          go_enter Try.func33, Try.ntmps33
          go_wp2_with (go_at_call 31; refine Calls.mono HF.out ?_; rintro e w8 ⟨rfl, rfl⟩)
          go_ret2
          exact ⟨_, rfl, Ow.nil _ _, Below.refl _ _⟩
      · have hx : ¬ at_ < 0 := by omega
        by_cases hy : n < 0
        all_goals
          go_enter Try.func33, Try.ntmps33
          go_wp2_with (go_at_call 31; refine Calls.mono HF.out ?_; rintro e w8 ⟨rfl, rfl⟩)
          go_ret2
          exact ⟨_, rfl, Ow.nil _ _, Below.refl _ _⟩
      · by_cases hx : at_ < 0
        · clear hdif
          go_enter Try.func33, Try.ntmps33
          go_wp2_with (go_at_call 31; refine Calls.mono HF.out ?_; rintro e w8 ⟨rfl, rfl⟩)
          go_ret2
          exact ⟨_, rfl, Ow.nil _ _, Below.refl _ _⟩
        · have hdif := hdif (by omega)
          by_cases hy : n < 0
          · go_enter Try.func33, Try.ntmps33
            go_wp2_with (go_at_call 31; refine Calls.mono HF.out ?_; rintro e w8 ⟨rfl, rfl⟩)
            go_ret2
            exact ⟨_, rfl, Ow.nil _ _, Below.refl _ _⟩
          · by_cases hz : (row.length : Int) < at_
            all_goals
              go_enter Try.func33, Try.ntmps33
              go_wp2_with (go_at_call 31; refine Calls.mono HF.out ?_; rintro e w8 ⟨rfl, rfl⟩)
              go_ret2
              exact ⟨_, rfl, Ow.nil _ _, Below.refl _ _⟩
    · rw [if_neg hc, if_pos rfl]
      obtain ⟨a, rfl⟩ : ∃ a : Nat, at_ = a := ⟨at_.toNat, by omega⟩
      obtain ⟨m, rfl⟩ : ∃ m : Nat, n = m := ⟨n.toNat, by omega⟩
      have g1 : a ≤ row.length := by omega
      have g2 : a + m ≤ row.length := by omega
      have hdif : IntKind.i64.wrap ((row.length : Int) - (a : Int)) = (row.length : Int) - (a : Int) := IntWalk.i64_in _ (by omega)
      have hsum : IntKind.i64.wrap ((a : Int) + (m : Int)) = (a : Int) + (m : Int) := IntWalk.i64_in _ (by omega)
      have hx : ¬ (a : Int) < 0 := by omega
      have hy : ¬ (m : Int) < 0 := by omega
      have hz : ¬ (row.length : Int) < (a : Int) := by omega
      have hq : ¬ (row.length : Int) - (a : Int) < (m : Int) := by omega
      have g3 : a + m ≤ cap := by omega
      have g4 : a ≤ a + m := by omega
      rw [Int.toNat_natCast, Int.toNat_natCast]
      have HC : Hid (∀ v, Rb w v ((row.drop a).take m) → Calls Try.prog 49 #[v] w fun e w' => ∃ v', e = .returned v' ∧ Ow w' w.heap.size v' ((row.drop a).take m) ∧ Below w.heap.size w w') := fun v hv => copyBytes w v _ hv (by simp; omega)
      clear hc
      go_enter Try.func33, Try.ntmps33
      have HMid : Hid (Rb w (.slice (Option.map (fun x => x.add a) ad) m (cap - a)) ((row.drop a).take m)) := (HOw.out.rb (by omega)).mid g2
      have hlen : ((row.drop a).take m).length = m := by simp; omega
      have HLen : Hid (((row.drop a).take m).length = m) := hlen
      clear hlen
      go_wp2_with (first | (go_at_call 31; refine Calls.mono HF.out ?_; rintro e w8 ⟨rfl, rfl⟩) | fail)
      all_goals
        refine (HC.out _ (by first | exact HMid.out | exact Rb.none ad m 0 m _ HLen.out (by omega))).mono ?_
        rintro e w9 ⟨v9, rfl, ho9, hb9⟩
        go_wp2
        go_ret2
        exact ⟨_, rfl, ho9, hb9⟩
  · have e : rdE D f at_ n = fndE D.off f := if_pos h0
    have e2 : rdV D f at_ n = [] := if_neg (by rw [e]; exact h0)
    rw [e, e2]
    have eS : sizeV D f = 0 := if_neg h0
    rw [eS] at HF
    have HF : Hid _ := HF
    have hne : (fndE D.off f != 0) = true := by rw [bne_iff_ne]; exact h0
    clear h e h0 e2 hl eS
    generalize fndE D.off f = ev at *
    go_enter Try.func33, Try.ntmps33
    go_wp2_with (go_at_call 31; refine Calls.mono HF.out ?_; rintro e w8 ⟨rfl, rfl⟩)
    go_ret2
    exact ⟨_, rfl, Ow.nil _ _, Below.refl _ _⟩
end
end Go.Proofs.Ytljhhdpeakencaa
end
section
set_option linter.unusedSimpArgs false
set_option linter.unusedVariables false
namespace Go.Proofs.Ytljhhdpeakencaa
open Go.RowKit

/-! Sync. -/
def syJ (D : Ds) (i j : Nat) : Ds := { D with safe := upd D.safe i (fld ((D.chs i).take j) (D.safe i)) }
def syD (D : Ds) (f : Int) : Ds := if cntE D f = 0 then { cnt D with safe := upd D.safe f.toNat (fld (D.chs f.toNat) (D.safe f.toNat)), chs := upd D.chs f.toNat [] } else cnt D
/-- So many changes were done. -/
structure SyI (w : World) (O : Nat → Nat) (d : Nat) (D : Ds) (nv cv : Nat → Value) (i j : Nat) (W : World) : Prop where
  ex : ∃ O' sv, DK W O' d (syJ D i j) nv sv cv ∧ Fp O w O' W
theorem SyI.below {w : World} {O : Nat → Nat} {d : Nat} {D : Ds} {nv cv : Nat → Value} {i j : Nat} {A B : World} (h : SyI w O d D nv cv i j A) (hb : Below A.heap.size A B) : SyI w O d D nv cv i j B := by
  obtain ⟨O', sv, h1, h2⟩ := h.ex
  exact ⟨O', sv, h1.below hb, h2.trans (Fp.of_below O' hb)⟩
theorem sy_zero (D : Ds) (i : Nat) : syJ D i 0 = D := by
  cases D
  simp only [syJ, List.take_zero, fld, List.foldl_nil]
  congr 1
  funext j
  unfold upd
  split
  · next e => rw [e]
  · rfl
theorem upd_upd {α : Type} (f : Nat → α) (i : Nat) (x y : α) : upd (upd f i x) i y = upd f i y := by
  funext j
  unfold upd
  split <;> rfl
theorem sy_succ (D : Ds) (i j : Nat) (hj : j < (D.chs i).length) : { syJ D i j with safe := upd (syJ D i j).safe i (ovr ((D.chs i)[j]) ((syJ D i j).safe i)) } = syJ D i (j + 1) := by
  unfold syJ
  simp only [upd_same, upd_upd, List.take_succ_eq_append_getElem hj, fld_snoc]
/-- A change was done to what is safe. -/
theorem sy_step {w W A B : World} {O : Nat → Nat} {d i j : Nat} {D : Ds} {nv cv : Nat → Value} {v : Value} {O' : Nat → Nat} {svs : Nat → Value} (hi : i < 8) (hj : j < (D.chs i).length) (h : DK W O' d (syJ D i j) nv svs cv) (hf : Fp O w O' W) (hb : Below W.heap.size W A)
    (hv : Ow B 0 v (ovr ((D.chs i)[j]) ((syJ D i j).safe i))) (hg : A.grownBy B (svs i).ownBlock) (hs : Sn A (svs i) v) : SyI w O d D nv cv i (j + 1) (B.setCell ⟨d, i * 3 + 1, none⟩ v) := by
  have hA := h.below hb
  have hzz := hb.size
  have hdB : Bk B d (dkc nv svs cv (syJ D i j).off (syJ D i j).tO (syJ D i j).tF) 98 := hA.blk.grown hg (fun e => by have h1 := hA.ts i hi d e.symm; rw [hA.td] at h1; omega)
  have hod : ∀ b, v.ownBlock = some b → b ≠ d := fun b hb' e => by
    subst e
    obtain ⟨c, e2⟩ := hv.bytes b hb'
    rw [show B.heap[b]? = _ from hdB] at e2
    simp at e2
  obtain ⟨O2, r1, r2⟩ := hA.safeStep hi (w' := B.setCell ⟨d, i * 3 + 1, none⟩ v) (sv' := v) (r := ovr ((D.chs i)[j]) ((syJ D i j).safe i)) hg.os hg.tape hg.output (by simp; exact hg.size) (hdB.set _ _ (dkc_setS _ _ _ _ _ _ hi _)) (hv.same fun b hb' => Below.heap_setCell B _ _ b (hod b hb')) hs
    (fun k hk n1 n2 => by rw [Below.heap_setCell B _ _ k n1, hg.block k hk n2])
  rw [sy_succ D i j hj] at r1
  exact ⟨O2, _, r1, hf.trans ((Fp.of_below O' hb).trans r2)⟩
set_option maxRecDepth 100000 in
set_option maxHeartbeats 4000000 in
theorem sync9 (w : World) (O : Nat → Nat) (d : Nat) (D : Ds) (nv sv cv : Nat → Value) (f : Int) (h : DK w O d D nv sv cv) (hs : ∀ i, i < 8 → (D.safe i).length ≤ 131072) (hm : ∀ i, i < 8 → (D.chs i).length ≤ 1099511627776) (hc : ∀ i, i < 8 → ∀ c ∈ D.chs i, ChB c) :
    Calls Try.prog 38 #[.pointer (some ⟨d, 0, none⟩), .int .i64 f] w fun e w' => e = .returned (.int .i64 (cntE D f)) ∧ ∃ O' nv' sv' cv', DK w' O' d (syD D f) nv' sv' cv' ∧ Fp O w O' w' := by
  have HF := findC w O d D nv sv cv f h
  have HD : Hid (DK w O d D nv sv cv) := h
  by_cases h0 : cntE D f = 0
  · obtain ⟨ho, i, rfl, hi, hp⟩ := cnt_ok (d := d) h0
    rw [hp, h0] at HF
    have HF : Hid _ := HF
    have eD : syD D (i : Int) = { syJ (cnt D) i ((cnt D).chs i).length with chs := upd D.chs i [] } := by unfold syD; rw [if_pos h0, Int.toNat_natCast]; unfold syJ; rw [List.take_length]; rfl
    rw [eD, h0]
    obtain ⟨ac, lc, capc, ecv⟩ : ∃ ac lc capc, cv i = .slice ac lc capc := by
      obtain ⟨ps, _, h2, _⟩ := h.chs i hi
      exact ownsRow_sl h2
    have hlc : lc = (D.chs i).length := by
      obtain ⟨ps, h1, h2, _⟩ := h.chs i hi
      rw [ecv] at h2
      rcases h2.2 with ⟨e, hz⟩ | ⟨g, cap, cur, e, _⟩
      · simp at e; rw [← h1, List.length_map]; omega
      · simp at e; rw [← h1, List.length_map]; omega
    have HC0 : Hid (∀ W D' O' sv', DK W O' d D' nv sv' cv → W.cell? ⟨d, i * 3 + 2, none⟩ = some (.slice ac lc capc) ∧ d < W.heap.size) := fun W D' O' sv' hW => ⟨by rw [← ecv]; exact (hW.blk.cell _).trans (dkc_chs _ _ _ _ _ _ hi), hW.blk.lt⟩
    have HB : Hid ((D.safe i).length ≤ 131072 ∧ (D.chs i).length ≤ 1099511627776 ∧ ∀ c ∈ D.chs i, ChB c) := ⟨hs i hi, hm i hi, hc i hi⟩
    have Hcv : Hid (cv i = .slice ac lc capc) := ecv
    have Hlc : Hid (lc = (D.chs i).length) := hlc
    have hlc2 : lc ≤ 1099511627776 := by rw [hlc]; exact hm i hi
    clear eD hp h0 ho hs hm hc h ecv hlc
    go_enter Try.func38, Try.ntmps38
    go_wp2_with (go_at_call 77; refine Calls.mono HF.out ?_; rintro e w8 ⟨rfl, ht8⟩; obtain ⟨hD8, hF8⟩ := HD.out.counted ht8; obtain ⟨c8, l8⟩ := HC0.out _ _ _ _ hD8; have H8 : Hid (SyI w O d (cnt D) nv cv i 0 w8) := ⟨O, sv, by rw [sy_zero]; exact hD8, hF8⟩; clear ht8 hD8 hF8)
    go_loopw [23] (fun k wr => ∃ j : Nat, j ≤ lc ∧ k = .int .i64 (j : Int) ∧ SyI w O d (cnt D) nv cv i j wr) (fun k _ => lc - (intOf k).toNat)
    case atStart => exact ⟨0, by omega, rfl, H8.out⟩
    case round =>
      clear c8 l8 H8
      obtain ⟨j, hj, rfl, hI⟩ := hrel
      have HI : Hid (SyI w O d (cnt D) nv cv i j wr) := hI
      obtain ⟨O1, sv1, hD1, hF1⟩ := hI.ex
      have HD1 : Hid (DK wr O1 d (syJ (cnt D) i j) nv sv1 cv ∧ Fp O w O1 wr) := ⟨hD1, hF1⟩
      by_cases hlt : j < lc
      · have hlt' : (j : Int) < (lc : Int) := by omega
        have hjc : j < (D.chs i).length := by have := Hlc.out; omega
        obtain ⟨g, cap, bv, e1, k0, k1, k2, hbv, htag⟩ := (hD1.chs i hi).at j hjc
        rw [Hcv.out] at e1
        simp at e1
        obtain ⟨rfl, e2, rfl⟩ := e1
        have hc9 : ChB (D.chs i)[j] := HB.out.2.2 _ (List.getElem_mem hjc)
        have hr9 : ((syJ (cnt D) i j).safe i).length ≤ 131072 := by
          show (upd D.safe i _ i).length ≤ _
          rw [upd_same]
          exact fld_le _ _ HB.out.1 (fun c hc => HB.out.2.2 c (List.mem_of_mem_take hc))
        obtain ⟨c, hcc⟩ : ∃ c, c = (D.chs i)[j] := ⟨_, rfl⟩
        replace k0 : wr.cell? ⟨g, j * 3, none⟩ = some (.bool c.cut) := by rw [hcc]; exact k0
        replace k1 : wr.cell? ⟨g, j * 3 + 1, none⟩ = some (.int .i64 (c.pos : Int)) := by rw [hcc]; exact k1
        replace hbv : Ow wr 0 bv c.bs := by rw [hcc]; exact hbv
        rw [← hcc] at hc9
        obtain ⟨ad0, n0, cap0, rfl⟩ := ownsRow_sl hbv
        have hne : (sv1 i).ownBlock = none ∨ (sv1 i).ownBlock ≠ (Value.slice ad0 n0 cap0).ownBlock := by
          cases e : (sv1 i).ownBlock with
          | none => exact .inl rfl
          | some b => right; intro e2; have h1 := hD1.ts i hi b e; have h2 := htag b e2.symm; omega
        have HOv : Hid (∀ W', Below wr.heap.size wr W' → Calls Try.prog 80 #[.agg (chc c (.slice ad0 n0 cap0)), sv1 i] W' fun e w' => ∃ rv', e = .returned rv' ∧ Ow w' 0 rv' (ovr c ((syJ (cnt D) i j).safe i)) ∧ W'.grownBy w' (sv1 i).ownBlock ∧ Sn W' (sv1 i) rv') := fun W' hW => over W' _ _ _ _ ((hD1.safe i hi).below hW (hD1.safe i hi).lt) (hbv.below hW hbv.lt) hne hc9.2 (by omega) (by have := hc9.1; omega)
        have HSt : Hid (∀ A B v, Below wr.heap.size wr A → Ow B 0 v (ovr c ((syJ (cnt D) i j).safe i)) → A.grownBy B (sv1 i).ownBlock → Sn A (sv1 i) v → SyI w O d (cnt D) nv cv i (j + 1) (B.setCell ⟨d, i * 3 + 1, none⟩ v)) := fun A B v h1 h2 h3 h4 => sy_step hi hjc HD1.out.1 HD1.out.2 h1 (by rw [hcc] at h2; exact h2) h3 h4
        obtain ⟨ads, ns, caps, ess⟩ := ownsRow_sl (hD1.safe i hi)
        have hs1 : (sv1 i).oneCell' = true := by rw [ess]; rfl
        clear ess
        have hSd : ∀ k, (sv1 i).ownBlock = some k → k ≠ d ∧ k < wr.heap.size := fun k hk => ⟨fun e => by have h1 := hD1.ts i hi k hk; rw [e, hD1.td] at h1; omega, (hD1.safe i hi).lt k hk⟩
        have HSd : Hid (∀ k, (sv1 i).ownBlock = some k → k ≠ d ∧ k < wr.heap.size) := hSd
        have ld := hD1.blk.lt
        have HDd : Hid (Bk wr d (dkc nv sv1 cv (syJ (cnt D) i j).off (syJ (cnt D) i j).tO (syJ (cnt D) i j).tF) 98) := hD1.blk
        clear hI hD1 hF1 hbv htag hne hc9 hr9 e2 hSd hcc
        go_upto_region 7 with fail
        obtain ⟨W, hW⟩ : ∃ W, W = wr.alloc (.cells (chc c (.slice ad0 n0 cap0)) 109) := ⟨_, rfl⟩
        rw [← hW]
        have HBw : Hid (Below wr.heap.size wr W) := by show Below _ _ _; rw [hW]; exact (Below.refl _ _).alloc (Nat.le_refl _) _
        have HX : Hid (Bk W wr.heap.size (chc c (.slice ad0 n0 cap0)) 109) := by show Bk _ _ _ _; rw [hW]; exact Bk.new _ _ _
        have HD1 : Hid (Bk W d (dkc nv sv1 cv (syJ (cnt D) i j).off (syJ (cnt D) i j).tO (syJ (cnt D) i j).tF) 98) := HDd.out.below HBw.out ld
        have c0 : W.drew.cell? ⟨d, i * 3 + 1, none⟩ = some (sv1 i) := (HD1.out.cell _).trans (dkc_safe _ _ _ _ _ _ hi)
        clear hW k0 k1 k2 HDd
        refine wp_region_noPanic ?_
        refine wp_region_held_drew (S := fun w' => Bk w' wr.heap.size (chc c (.slice ad0 n0 cap0)) 109) (by kernel_rfl) ?_ (fun hHeld => ?_)
        · ((try dsimp only); exact HX.out.drew)
        (try dsimp only at hHeld)
        refine wpAnyH_take (i := 0) (oi := ⟨some 27, _, _, _, _, _⟩) (v := ?_) rfl (by kernel_rfl) (by kernel_rfl) (by kernel_rfl) (fun _ _ _ h => h) (Or.inl ⟨by rfl, ?_⟩) (by assumption) ?_
        rotate_left
        · (intro w hSw; (try dsimp only at hSw); go_simp; try (with_reducible rfl))
        (try dsimp only); (try simp only [Act.put, List.setIfInBounds_toArray, List.set_cons_zero, List.set_cons_succ])
        refine wpAnyH_take (i := 1) (oi := ⟨some 28, _, _, _, _, _⟩) rfl (by kernel_rfl) (by kernel_rfl) (by kernel_rfl) (fun _ _ _ h => h) (yl_ch (by rfl) _ rfl rfl (fun w' h => range_bk h)) (by assumption) ?_
        (try dsimp only); (try simp only [Act.put, List.setIfInBounds_toArray, List.set_cons_zero, List.set_cons_succ])
        refine wpAnyH_take (i := 2) (oi := ⟨some 29, _, _, _, _, _⟩) (v := ?_) rfl (by kernel_rfl) (by kernel_rfl) (by kernel_rfl) (fun _ _ _ h => h) (Or.inl ⟨by rfl, ?_⟩) (by assumption) ?_
        rotate_left
        · (intro w hSw; (try dsimp only at hSw); go_simp; try (with_reducible rfl))
        (try dsimp only); (try simp only [Act.put, List.setIfInBounds_toArray, List.set_cons_zero, List.set_cons_succ])
        refine wpAnyH_take (i := 3) (oi := ⟨some 30, _, _, _, _, _⟩) (v := ?_) rfl (by kernel_rfl) (by kernel_rfl) (by kernel_rfl) (fun _ _ _ h => h) (Or.inl ⟨by rfl, ?_⟩) (by assumption) ?_
        rotate_left
        · (intro w hSw; (try dsimp only at hSw); go_simp; try (with_reducible rfl))
        (try dsimp only); (try simp only [Act.put, List.setIfInBounds_toArray, List.set_cons_zero, List.set_cons_succ])
        refine wpAnyH_take (i := 4) (oi := ⟨some 31, _, _, _, _, _⟩) (v := ?_) rfl (by kernel_rfl) (by kernel_rfl) (by kernel_rfl) (fun _ _ _ h => h) (Or.inl ⟨by rfl, ?_⟩) (by assumption) ?_
        rotate_left
        · (intro w hSw; (try dsimp only at hSw); go_simp; try (with_reducible rfl))
        (try dsimp only); (try simp only [Act.put, List.setIfInBounds_toArray, List.set_cons_zero, List.set_cons_succ])
        refine wpAnyH_ready (rs := [5]) (by kernel_rfl) (by simp) ?_
        refine AllReadyH.cons (o := ⟨some 32, _, _, _, _, _⟩) rfl (fun K hK => ?_) AllReadyH.nil
        go_simp
        refine hK.out _ _ hHeld (fun hHeld => ?_)
        clear hK K
        (try dsimp only); (try simp only [Act.put, List.setIfInBounds_toArray, List.set_cons_zero, List.set_cons_succ])
        refine wpAnyH_ready (rs := [6]) (by kernel_rfl) (by simp) ?_
        refine AllReadyH.cons (o := ⟨some 33, _, _, _, _, _⟩) rfl (fun K hK => ?_) AllReadyH.nil
        go_simp
        refine (HOv.out W.drew HBw.out.drew).mono ?_
        rintro e w2 ⟨rv2, rfl, ho2, hg2, hs2⟩
        have HN : Hid (SyI w O d (cnt D) nv cv i (j + 1) (w2.setCell ⟨d, i * 3 + 1, none⟩ rv2)) := HSt.out _ _ _ HBw.out.drew ho2 hg2 hs2
        obtain ⟨ad2, n2, cap2, rfl⟩ := ownsRow_sl ho2
        have hX2 : Bk w2 wr.heap.size (chc c (.slice ad0 n0 cap0)) 109 := hHeld.grown hg2 (fun e => by have := (HSd.out _ e.symm).2; omega)
        have hd2 : Bk w2 d (dkc nv sv1 cv (syJ (cnt D) i j).off (syJ (cnt D) i j).tO (syJ (cnt D) i j).tF) 98 := HD1.out.drew.grown hg2 (fun e => (HSd.out _ e.symm).1 rfl)
        have p0 : w2.cell? ⟨d, i * 3 + 1, none⟩ = some (sv1 i) := (hd2.cell _).trans (dkc_safe _ _ _ _ _ _ hi)
        have pf0 := hd2.frozen (i * 3 + 1)
        have pl0 := hd2.lt
        refine hK.out _ _ hX2 (fun hHeld => ?_)
        clear hK K ho2 hg2 hs2 hX2 hd2 c0
        (try dsimp only); (try simp only [Act.put, List.setIfInBounds_toArray, List.set_cons_zero, List.set_cons_succ])
        refine wpAnyH_take (i := 7) (oi := ⟨some 34, _, _, _, _, _⟩) (v := ?_) rfl (by kernel_rfl) (by kernel_rfl) (by kernel_rfl) (fun _ _ _ h => h) (Or.inl ⟨by rfl, ?_⟩) (by assumption) ?_
        rotate_left
        · (intro w hSw; (try dsimp only at hSw); go_simp; try (with_reducible rfl))
        (try dsimp only); (try simp only [Act.put, List.setIfInBounds_toArray, List.set_cons_zero, List.set_cons_succ])
        refine wpAnyH_take (i := 8) (oi := ⟨some 35, _, _, _, _, _⟩) (v := ?_) rfl (by kernel_rfl) (by kernel_rfl) (by kernel_rfl) (fun _ _ _ h => h) (Or.inl ⟨by rfl, ?_⟩) (by assumption) ?_
        rotate_left
        · (intro w hSw; (try dsimp only at hSw); go_simp; try (with_reducible rfl))
        (try dsimp only); (try simp only [Act.put, List.setIfInBounds_toArray, List.set_cons_zero, List.set_cons_succ])
        refine wpAnyH_ready (rs := [9]) (by kernel_rfl) (by simp) ?_
        refine AllReadyH.cons (o := ⟨none, _, _, _, _, _⟩) rfl (fun K hK => ?_) AllReadyH.nil
        go_simp
        refine hK.out _ _ (hHeld.other (a := ⟨d, i * 3 + 1, none⟩) (by show wr.heap.size ≠ d; omega) _) (fun hHeld => ?_)
        clear hK K
        (try dsimp only); (try simp only [Act.put, List.setIfInBounds_toArray, List.set_cons_zero, List.set_cons_succ])
        refine wpAnyH_done (by kernel_rfl) ?_ _
        refine NoPanic.normal ?_
        go_wp2
        go_roundw
        case rel => exact ⟨j + 1, by omega, by go_num, HN.out⟩
        case measure => simp [intOf]; omega
      · have hlt' : ¬ (j : Int) < (lc : Int) := by omega
        obtain rfl : j = lc := by omega
        obtain ⟨hF1, hF2⟩ := hD1.forget hi
        obtain ⟨ci, ld⟩ := HC0.out _ _ _ _ hD1
        have cf := hD1.blk.frozen (i * 3 + 2)
        have HE : Hid (∃ (O' : Nat → Nat) (nv' sv' cv' : Nat → Value), DK (wr.setCell ⟨d, i * 3 + 2, none⟩ (.slice none 0 0)) O' d { syJ (cnt D) i ((cnt D).chs i).length with chs := upd D.chs i [] } nv' sv' cv' ∧ Fp O w O' (wr.setCell ⟨d, i * 3 + 2, none⟩ (.slice none 0 0))) := by
          have e9 : ((cnt D).chs i).length = j := Hlc.out.symm
          rw [e9]
          exact ⟨O1, nv, sv1, upd cv i (.slice none 0 0), hF1, HD1.out.2.trans hF2⟩
        clear hI hD1 hF1 hF2
        go_wp2
        go_ret
        obtain ⟨O', a1, a2, a3, r1, r2⟩ := HE.out
        first | exact ⟨rfl, O', ⟨a1, a2, a3, r1⟩, r2⟩ | exact ⟨rfl, O', a1, a2, a3, r1, r2⟩
  · have e2 : syD D f = cnt D := if_neg h0
    rw [e2]
    rw [cnt_no h0] at HF
    have HF : Hid _ := HF
    have hne : (cntE D f != 0) = true := by rw [bne_iff_ne]; exact h0
    clear h h0 e2 hs hm hc
    generalize cntE D f = ev at *
    go_enter Try.func38, Try.ntmps38
    go_wp2_with (go_at_call 77; refine Calls.mono HF.out ?_; rintro e w8 ⟨rfl, ht8⟩; have H8 : Hid (Turn w w8 d (dkc nv sv cv (cnt D).off (cnt D).tO (cnt D).tF) 98) := ht8; clear ht8)
    go_ret
    exact ⟨rfl, O, nv, sv, cv, HD.out.counted H8.out⟩
end Go.Proofs.Ytljhhdpeakencaa
end
section
set_option linter.unusedSimpArgs false
set_option linter.unusedVariables false
namespace Go.Proofs.Ytljhhdpeakencaa
open Go.RowKit

/-! The page's rows set; its Sync. -/
theorem Fp.set {O : Nat → Nat} {w : World} {g i : Nat} {v : Value} (ho : O g ≠ 0) (hc : ∃ o, w.heap[g]? = some o ∧ o.isCells = true) : Fp O w O (w.setCell ⟨g, i, none⟩ v) :=
  ⟨rfl, rfl, rfl, by simp, fun _ _ h => h, fun b _ hb => Below.heap_setCell w ⟨g, i, none⟩ v b (fun e => ho (by have e : b = g := e; rw [← e]; exact hb)), fun k o h1 h2 => by
    rw [Below.heap_setCell w ⟨g, i, none⟩ v k (fun e => ?_)]
    · exact h1
    · obtain ⟨o', h3, h4⟩ := hc
      subst e
      rw [h3] at h1
      simp at h1
      subst h1
      rw [h4] at h2
      cases h2⟩
theorem Ow.base0 {w : World} {base : Nat} {v : Value} {l : List UInt8} (h : Ow w base v l) : Ow w 0 v l := by
  refine ⟨h.1, ?_⟩
  rcases h.2 with h2 | ⟨g, cap, cur, e, h3, h4, h5⟩
  · exact .inl h2
  · exact .inr ⟨g, cap, cur, e, Nat.zero_le _, h4, h5⟩
theorem isCells_set {w : World} {g i : Nat} {v : Value} {b : Nat} (h : ∃ o, w.heap[b]? = some o ∧ o.isCells = true) : ∃ o, (w.setCell ⟨g, i, none⟩ v).heap[b]? = some o ∧ o.isCells = true := by
  by_cases e : b = g
  · subst e
    obtain ⟨o, h1, h2⟩ := h
    cases o <;> simp [Obj.isCells] at h2
    simp [World.setCell, Array.getElem?_modify, h1, Obj.isCells]
  · rw [Below.heap_setCell w ⟨g, i, none⟩ v b e]; exact h
section
variable {w w' : World} {O : Nat → Nat} {d : Nat} {D : Ds} {gl gs gn cl cs cn : Nat} {lv sv cv : Nat → Value} {left bad : Int} {armed off hurt : Bool}
/-- More owners. -/
theorem PK.retag (h : PK w O d D gl gs gn cl cs cn lv sv cv left bad armed off hurt) {O' : Nat → Nat} (h1 : ∀ b, O b ≠ 0 → O' b = O b) (h2 : ∀ b, O' b ≠ 0 → ∃ o, w.heap[b]? = some o ∧ o.isCells = true) : PK w O' d D gl gs gn cl cs cn lv sv cv left bad armed off hurt :=
  ⟨h.blk, h.live, h.safr, h.new, fun i hi => ⟨(h.now i hi).1, fun b e => by rw [h1 b (by rw [(h.now i hi).2 b e]; omega)]; exact (h.now i hi).2 b e⟩, fun i hi => ⟨(h.safe i hi).1, fun b e => by rw [h1 b (by rw [(h.safe i hi).2 b e]; omega)]; exact (h.safe i hi).2 b e⟩,
   fun i hi => (h.chs i hi).same (fun _ _ => rfl) (fun b e _ => ⟨rfl, by rw [h1 b (by rw [e]; omega), e]⟩), fun i hi b e => by rw [h1 b (by rw [h.tc i hi b e]; omega)]; exact h.tc i hi b e, by rw [h1 d (by rw [h.t1]; omega)]; exact h.t1, by rw [h1 gl (by rw [h.t2]; omega)]; exact h.t2, by rw [h1 gs (by rw [h.t3]; omega)]; exact h.t3, by rw [h1 gn (by rw [h.t4]; omega)]; exact h.t4, h2, h.pn⟩
/-- What is new is its own. -/
theorem PK.adopt (h : PK w O d D gl gs gn cl cs cn lv sv cv left bad armed off hurt) {w2 : World} (hb : Below w.heap.size w w2) {v : Value} {r : List UInt8} (hv : Ow w2 w.heap.size v r) :
    ∃ O', PK w2 O' d D gl gs gn cl cs cn lv sv cv left bad armed off hurt ∧ Fp O w O' w2 ∧ (∀ b, v.ownBlock = some b → O' b = 5) ∧ ∀ b, O b ≠ 0 → O' b = O b := by
  have hw := h.below hb
  refine ⟨fun b => if b < w.heap.size then O b else if v.ownBlock = some b then 5 else 0, hw.retag (fun b hb => if_pos (h.lt b hb)) (fun b hb' => ?_), (Fp.of_below O hb).re fun b hb => if_pos hb, fun b e => ?_, fun b hb => if_pos (h.lt b hb)⟩
  · (try simp only [] at hb')
    by_cases e : b < w.heap.size
    · rw [if_pos e] at hb'; exact hw.cel b hb'
    · rw [if_neg e] at hb'
      by_cases e1 : v.ownBlock = some b
      · obtain ⟨c, e2⟩ := hv.bytes b e1; exact ⟨_, e2, rfl⟩
      · rw [if_neg e1] at hb'; exact absurd rfl hb'
  · exact (if_neg (by have := (hv.ge e).1; omega)).trans (if_pos e)
theorem PK.setLive (h : PK w O d D gl gs gn cl cs cn lv sv cv left bad armed off hurt) {i : Nat} (hi : i < 8) {v : Value} {r : List UInt8} (hv : Ow w 0 v r) (ht : ∀ b, v.ownBlock = some b → O b = 5) :
    PK (w.setCell ⟨gl, i, none⟩ v) O d { D with now := upd D.now i r } gl gs gn cl cs cn (upd lv i v) sv cv left bad armed off hurt ∧ Fp O w O (w.setCell ⟨gl, i, none⟩ v) := by
  have ne : ∀ b, O b ≠ 2 → (w.setCell ⟨gl, i, none⟩ v).heap[b]? = w.heap[b]? := fun b hb => Below.heap_setCell w ⟨gl, i, none⟩ v b (fun e => hb (e ▸ h.t2))
  refine ⟨⟨(ne d (by rw [h.t1]; omega)).trans h.blk, h.live.set hi v, h.safr.same (ne _ (by rw [h.t3]; omega)), h.new.same (ne _ (by rw [h.t4]; omega)), fun j hj => ?_, fun i hi => ⟨(h.safe i hi).1.same fun b e => ne b (by rw [(h.safe i hi).2 b e]; omega), (h.safe i hi).2⟩,
   fun i hi => (h.chs i hi).same (fun b e => ne b (by rw [h.tc i hi b e]; omega)) (fun b e _ => ⟨ne b (by rw [e]; omega), e⟩), h.tc, h.t1, h.t2, h.t3, h.t4, fun b hb => isCells_set (h.cel b hb), ⟨h.pn.off, h.pn.arm, h.pn.hur⟩⟩, Fp.set (by rw [h.t2]; omega) (h.cel gl (by rw [h.t2]; omega))⟩
  by_cases e : j = i
  · subst e
    simp only [upd_same]
    exact ⟨hv.same fun b e => ne b (by rw [ht b e]; omega), ht⟩
  · simp only [upd_other _ _ e]
    exact ⟨(h.now j hj).1.same fun b e => ne b (by rw [(h.now j hj).2 b e]; omega), (h.now j hj).2⟩
theorem PK.setSafe (h : PK w O d D gl gs gn cl cs cn lv sv cv left bad armed off hurt) {i : Nat} (hi : i < 8) {v : Value} {r : List UInt8} (hv : Ow w 0 v r) (ht : ∀ b, v.ownBlock = some b → O b = 5) :
    PK (w.setCell ⟨gs, i, none⟩ v) O d { D with safe := upd D.safe i r } gl gs gn cl cs cn lv (upd sv i v) cv left bad armed off hurt ∧ Fp O w O (w.setCell ⟨gs, i, none⟩ v) := by
  have ne : ∀ b, O b ≠ 3 → (w.setCell ⟨gs, i, none⟩ v).heap[b]? = w.heap[b]? := fun b hb => Below.heap_setCell w ⟨gs, i, none⟩ v b (fun e => hb (e ▸ h.t3))
  refine ⟨⟨(ne d (by rw [h.t1]; omega)).trans h.blk, h.live.same (ne _ (by rw [h.t2]; omega)), h.safr.set hi v, h.new.same (ne _ (by rw [h.t4]; omega)), fun i hi => ⟨(h.now i hi).1.same fun b e => ne b (by rw [(h.now i hi).2 b e]; omega), (h.now i hi).2⟩, fun j hj => ?_,
   fun i hi => (h.chs i hi).same (fun b e => ne b (by rw [h.tc i hi b e]; omega)) (fun b e _ => ⟨ne b (by rw [e]; omega), e⟩), h.tc, h.t1, h.t2, h.t3, h.t4, fun b hb => isCells_set (h.cel b hb), ⟨h.pn.off, h.pn.arm, h.pn.hur⟩⟩, Fp.set (by rw [h.t3]; omega) (h.cel gs (by rw [h.t3]; omega))⟩
  by_cases e : j = i
  · subst e
    simp only [upd_same]
    exact ⟨hv.same fun b e => ne b (by rw [ht b e]; omega), ht⟩
  · simp only [upd_other _ _ e]
    exact ⟨(h.safe j hj).1.same fun b e => ne b (by rw [(h.safe j hj).2 b e]; omega), (h.safe j hj).2⟩
/-- A file's changes forgotten. -/
theorem PK.forget (h : PK w O d D gl gs gn cl cs cn lv sv cv left bad armed off hurt) {i : Nat} (hi : i < 8) :
    PK (w.setCell ⟨gn, i, none⟩ (.slice none 0 0)) O d { D with chs := upd D.chs i [] } gl gs gn cl cs cn lv sv (upd cv i (.slice none 0 0)) left bad armed off hurt ∧ Fp O w O (w.setCell ⟨gn, i, none⟩ (.slice none 0 0)) := by
  have ne : ∀ b, O b ≠ 4 → (w.setCell ⟨gn, i, none⟩ (.slice none 0 0)).heap[b]? = w.heap[b]? := fun b hb => Below.heap_setCell w ⟨gn, i, none⟩ _ b (fun e => hb (e ▸ h.t4))
  refine ⟨⟨(ne d (by rw [h.t1]; omega)).trans h.blk, h.live.same (ne _ (by rw [h.t2]; omega)), h.safr.same (ne _ (by rw [h.t3]; omega)), h.new.set hi _, fun i hi => ⟨(h.now i hi).1.same fun b e => ne b (by rw [(h.now i hi).2 b e]; omega), (h.now i hi).2⟩, fun i hi => ⟨(h.safe i hi).1.same fun b e => ne b (by rw [(h.safe i hi).2 b e]; omega), (h.safe i hi).2⟩,
   fun j hj => ?_, fun j hj b e => ?_, h.t1, h.t2, h.t3, h.t4, fun b hb => isCells_set (h.cel b hb), ⟨h.pn.off, h.pn.arm, h.pn.hur⟩⟩, Fp.set (by rw [h.t4]; omega) (h.cel gn (by rw [h.t4]; omega))⟩
  · by_cases e : j = i
    · subst e; simp only [upd_same]; exact PCv.nil _ _
    · simp only [upd_other _ _ e]
      exact (h.chs j hj).same (fun b e => ne b (by rw [h.tc j hj b e]; omega)) (fun b e _ => ⟨ne b (by rw [e]; omega), e⟩)
  · by_cases e' : j = i
    · subst e'; simp only [upd_same] at e; simp [Value.ownBlock] at e
    · simp only [upd_other _ _ e'] at e; exact h.tc j hj b e
/-- What the page's Sync makes of a disk. -/
def psyD (D : Ds) (f : Int) : Ds := if cntE D f = 0 then { cnt D with safe := upd D.safe f.toNat (D.now f.toNat), chs := upd D.chs f.toNat [] } else cnt D
set_option maxRecDepth 100000 in
set_option maxHeartbeats 1000000 in
theorem psync (h : PK w O d D gl gs gn cl cs cn lv sv cv left bad armed off hurt) (f : Int) (bO : D.tO ≤ 9223372036854775807) (bF : D.tF ≤ 9223372036854775807) (hl : ∀ i, i < 8 → (D.now i).length ≤ 1099511627776) :
    Calls Try.prog 39 #[.pointer (some ⟨d, 0, none⟩), .int .i64 f] w fun e w' => e = .returned (.int .i64 (cntE D f)) ∧ ∃ O', PKw w' O' d (psyD D f) ∧ Fp O w O' w' := by
  have HF : Hid _ := pcount h f bO bF
  by_cases h0 : cntE D f = 0
  · obtain ⟨ho, i, rfl, hi, hp⟩ := cnt_ok (d := d) h0
    have HE : Hid (cntE D (i : Int) = 0) := h0
    have eD : psyD D (i : Int) = { cnt D with safe := upd D.safe i (D.now i), chs := upd D.chs i [] } := by unfold psyD; rw [if_pos h0, Int.toNat_natCast]
    rw [eD, h0]
    rw [h0] at HF
    have hli := hl i hi
    obtain ⟨ad, cap, env, _⟩ := (h.now i hi).1.shape
    have Henv : Hid (lv i = .slice ad (D.now i).length cap) := env
    clear eD hp h0 ho hl h env
    go_enter Try.func39, Try.ntmps39
    go_upto_region 4 with (go_at_call 79; refine Calls.mono HF.out ?_; rintro e w8 ⟨rfl, l1, b1, a1, o1, u1, h8, hF8⟩; have H8 : Hid (PK w8 O d (cnt D) gl gs gn cl cs cn lv sv cv l1 b1 a1 o1 u1 ∧ Fp O w O w8) := ⟨h8, hF8⟩; clear h8 hF8 HF)
    have hd := H8.out.1.blk.lt
    have c0 := H8.out.1.blk.cell 0
    have c1 := H8.out.1.blk.cell 1
    simp only [List.getElem?_toArray, List.getElem?_cons_zero, List.getElem?_cons_succ] at c0 c1
    have cl1 := H8.out.1.live.cell hi
    rw [Henv.out] at cl1
    have HC : Hid (Calls Try.prog 49 #[.slice ad (D.now i).length cap] w8.drew fun e w' => ∃ u, e = .returned u ∧ Ow w' w8.drew.heap.size u (D.now i) ∧ Below w8.drew.heap.size w8.drew w') := copyBytes _ _ _ (by rw [← Henv.out]; exact (H8.out.1.now i hi).1.rb (by show (D.now i).length ≤ _; omega)) hli
    generalize (D.now i).length = n at *
    clear hli
    have hi8 : (i : Int) < 8 := by omega
    refine wp_region_noPanic ?_
    refine wp_region_held_drew (S := fun W' => W'.cell? ⟨d, 0, none⟩ = some (.slice (some ⟨gl, 0, none⟩) 8 cl) ∧ W'.cell? ⟨d, 1, none⟩ = some (.slice (some ⟨gs, 0, none⟩) 8 cs) ∧ W'.cell? ⟨gl, i, none⟩ = some (.slice ad n cap)) (by kernel_rfl) ?_ (fun hHeld => ?_)
    · ((try dsimp only); exact ⟨c0, c1, cl1⟩)
    (try dsimp only at hHeld)
    refine wpAnyH_take (i := 0) (oi := ⟨some 12, _, _, _, _, _⟩) (v := ?_) rfl (by kernel_rfl) (by kernel_rfl) (by kernel_rfl) (fun _ _ _ h => h) (Or.inl ⟨by rfl, ?_⟩) (by assumption) ?_
    rotate_left
    · (intro w hSw; (try dsimp only at hSw); go_simp; try (with_reducible rfl))
    (try dsimp only); (try simp only [Act.put, List.setIfInBounds_toArray, List.set_cons_zero, List.set_cons_succ])
    refine wpAnyH_take (i := 1) (oi := ⟨some 13, _, _, _, _, _⟩) (v := ?_) rfl (by kernel_rfl) (by kernel_rfl) (by kernel_rfl) (fun _ _ _ h => h) (Or.inl ⟨by rfl, ?_⟩) (by assumption) ?_
    rotate_left
    · (intro w hSw; (try dsimp only at hSw); go_simp; try (with_reducible rfl))
    (try dsimp only); (try simp only [Act.put, List.setIfInBounds_toArray, List.set_cons_zero, List.set_cons_succ])
    refine wpAnyH_take (i := 2) (oi := ⟨some 14, _, _, _, _, _⟩) (v := ?_) rfl (by kernel_rfl) (by kernel_rfl) (by kernel_rfl) (fun _ _ _ h => h) (Or.inl ⟨by rfl, ?_⟩) (by assumption) ?_
    rotate_left
    · (intro w hSw; (try dsimp only at hSw); go_simp; try (with_reducible rfl))
    (try dsimp only); (try simp only [Act.put, List.setIfInBounds_toArray, List.set_cons_zero, List.set_cons_succ])
    refine wpAnyH_take (i := 3) (oi := ⟨some 15, _, _, _, _, _⟩) (v := ?_) rfl (by kernel_rfl) (by kernel_rfl) (by kernel_rfl) (fun _ _ _ h => h) (Or.inl ⟨by rfl, ?_⟩) (by assumption) ?_
    rotate_left
    · (intro w hSw; (try dsimp only at hSw); go_simp; try (with_reducible rfl))
    (try dsimp only); (try simp only [Act.put, List.setIfInBounds_toArray, List.set_cons_zero, List.set_cons_succ])
    refine wpAnyH_take (i := 4) (oi := ⟨some 16, _, _, _, _, _⟩) (v := ?_) rfl (by kernel_rfl) (by kernel_rfl) (by kernel_rfl) (fun _ _ _ h => h) (Or.inl ⟨by rfl, ?_⟩) (by assumption) ?_
    rotate_left
    · (intro w hSw; (try dsimp only at hSw); go_simp; try (with_reducible rfl))
    (try dsimp only); (try simp only [Act.put, List.setIfInBounds_toArray, List.set_cons_zero, List.set_cons_succ])
    refine wpAnyH_take (i := 5) (oi := ⟨some 17, _, _, _, _, _⟩) (v := ?_) rfl (by kernel_rfl) (by kernel_rfl) (by kernel_rfl) (fun _ _ _ h => h) (Or.inl ⟨by rfl, ?_⟩) (by assumption) ?_
    rotate_left
    · (intro w hSw; (try dsimp only at hSw); go_simp; try (with_reducible rfl))
    (try dsimp only); (try simp only [Act.put, List.setIfInBounds_toArray, List.set_cons_zero, List.set_cons_succ])
    refine wpAnyH_take (i := 6) (oi := ⟨some 18, _, _, _, _, _⟩) (v := ?_) rfl (by kernel_rfl) (by kernel_rfl) (by kernel_rfl) (fun _ _ _ h => h) (Or.inl ⟨by rfl, ?_⟩) (by assumption) ?_
    rotate_left
    · (intro w hSw; (try dsimp only at hSw); go_simp; try (with_reducible rfl))
    (try dsimp only); (try simp only [Act.put, List.setIfInBounds_toArray, List.set_cons_zero, List.set_cons_succ])
    refine wpAnyH_take (i := 7) (oi := ⟨some 19, _, _, _, _, _⟩) (v := ?_) rfl (by kernel_rfl) (by kernel_rfl) (by kernel_rfl) (fun _ _ _ h => h) (Or.inl ⟨by rfl, ?_⟩) (by assumption) ?_
    rotate_left
    · (intro w hSw; (try dsimp only at hSw); go_simp; try (with_reducible rfl))
    (try dsimp only); (try simp only [Act.put, List.setIfInBounds_toArray, List.set_cons_zero, List.set_cons_succ])
    refine wpAnyH_take (i := 8) (oi := ⟨some 20, _, _, _, _, _⟩) (v := ?_) rfl (by kernel_rfl) (by kernel_rfl) (by kernel_rfl) (fun _ _ _ h => h) (Or.inl ⟨by rfl, ?_⟩) (by assumption) ?_
    rotate_left
    · (intro w hSw; (try dsimp only at hSw); go_simp; try (with_reducible rfl))
    (try dsimp only); (try simp only [Act.put, List.setIfInBounds_toArray, List.set_cons_zero, List.set_cons_succ])
    refine wpAnyH_take (i := 9) (oi := ⟨some 21, _, _, _, _, _⟩) (v := ?_) rfl (by kernel_rfl) (by kernel_rfl) (by kernel_rfl) (fun _ _ _ h => h) (Or.inl ⟨by rfl, ?_⟩) (by assumption) ?_
    rotate_left
    · (intro w hSw; (try dsimp only at hSw); go_simp; try (with_reducible rfl))
    (try dsimp only); (try simp only [Act.put, List.setIfInBounds_toArray, List.set_cons_zero, List.set_cons_succ])
    refine wpAnyH_take (i := 10) (oi := ⟨some 22, _, _, _, _, _⟩) (v := ?_) rfl (by kernel_rfl) (by kernel_rfl) (by kernel_rfl) (fun _ _ _ h => h) (Or.inl ⟨by rfl, ?_⟩) (by assumption) ?_
    rotate_left
    · (intro w hSw; (try dsimp only at hSw); go_simp; try (with_reducible rfl))
    (try dsimp only); (try simp only [Act.put, List.setIfInBounds_toArray, List.set_cons_zero, List.set_cons_succ])
    refine wpAnyH_take (i := 11) (oi := ⟨some 23, _, _, _, _, _⟩) (v := ?_) rfl (by kernel_rfl) (by kernel_rfl) (by kernel_rfl) (fun _ _ _ h => h) (Or.inl ⟨by rfl, ?_⟩) (by assumption) ?_
    rotate_left
    · (intro w hSw; (try dsimp only at hSw); go_simp; try (with_reducible rfl))
    (try dsimp only); (try simp only [Act.put, List.setIfInBounds_toArray, List.set_cons_zero, List.set_cons_succ])
    refine wpAnyH_ready (rs := [12]) (by kernel_rfl) (by simp) ?_
    refine AllReadyH.cons (o := ⟨some 24, _, _, _, _, _⟩) rfl (fun K hK => ?_) AllReadyH.nil
    go_simp
    refine Calls.mono HC.out ?_
    rintro e w2 ⟨u2, rfl, ho2, hb2⟩
    obtain ⟨O2, h2, hF2, ht2, hO2⟩ := (H8.out.1.frame (w' := w8.drew) (fun _ _ => rfl)).adopt hb2 ho2
    obtain ⟨ad2, cap2, rfl, _⟩ := ho2.shape
    obtain ⟨h3, hF3⟩ := h2.setSafe hi ho2.base0 ht2
    have HS3 : Hid (PK (w2.setCell ⟨gs, i, none⟩ (.slice ad2 (D.now i).length cap2)) O2 d { cnt D with safe := upd D.safe i (D.now i) } gl gs gn cl cs cn lv (upd sv i (.slice ad2 (D.now i).length cap2)) cv l1 b1 a1 o1 u1 ∧ Fp O w O2 (w2.setCell ⟨gs, i, none⟩ (.slice ad2 (D.now i).length cap2))) := ⟨h3, H8.out.2.trans (((Fp.of_below O (Below.refl _ _).drew).trans hF2).trans hF3)⟩
    have p0 := h2.safr.cell hi
    have pf0 := h2.safr.frozen i
    have pl0 := h2.safr.lt
    refine hK.out _ _ ⟨(hb2.cell hd).trans c0, (hb2.cell hd).trans c1, (hb2.cell H8.out.1.live.lt).trans cl1⟩ (fun hHeld => ?_)
    clear hK K ho2 hb2 h2 hF2 ht2 hO2 h3 hF3
    (try dsimp only); (try simp only [Act.put, List.setIfInBounds_toArray, List.set_cons_zero, List.set_cons_succ])
    refine wpAnyH_take (i := 13) (oi := ⟨some 25, _, _, _, _, _⟩) (v := ?_) rfl (by kernel_rfl) (by kernel_rfl) (by kernel_rfl) (fun _ _ _ h => h) (Or.inl ⟨by rfl, ?_⟩) (by assumption) ?_
    rotate_left
    · (intro w hSw; (try dsimp only at hSw); go_simp; try (with_reducible rfl))
    (try dsimp only); (try simp only [Act.put, List.setIfInBounds_toArray, List.set_cons_zero, List.set_cons_succ])
    refine wpAnyH_ready (rs := [14]) (by kernel_rfl) (by simp) ?_
    refine AllReadyH.cons (o := ⟨none, _, _, _, _, _⟩) rfl (fun K hK => ?_) AllReadyH.nil
    go_simp
    refine hK.out _ _ ⟨HS3.out.1.blk.cell 0, HS3.out.1.blk.cell 1, by rw [← Henv.out]; exact HS3.out.1.live.cell hi⟩ (fun hHeld => ?_)
    clear hK K p0 pf0 pl0 hHeld
    (try dsimp only); (try simp only [Act.put, List.setIfInBounds_toArray, List.set_cons_zero, List.set_cons_succ])
    refine wpAnyH_done (by kernel_rfl) ?_ _
    refine NoPanic.normal ?_
    have HG : Hid (∃ O', PKw ((w2.setCell ⟨gs, i, none⟩ (.slice ad2 (D.now i).length cap2)).setCell ⟨gn, i, none⟩ (.slice none 0 0)) O' d { cnt D with safe := upd D.safe i (D.now i), chs := upd D.chs i [] } ∧ Fp O w O' ((w2.setCell ⟨gs, i, none⟩ (.slice ad2 (D.now i).length cap2)).setCell ⟨gn, i, none⟩ (.slice none 0 0))) := ⟨O2, (HS3.out.1.forget hi).1.w, HS3.out.2.trans (HS3.out.1.forget hi).2⟩
    have q2 := HS3.out.1.blk.cell 2
    simp only [List.getElem?_toArray, List.getElem?_cons_zero, List.getElem?_cons_succ] at q2
    have qd := HS3.out.1.blk.lt
    have qn := HS3.out.1.new.cell hi
    have qf := HS3.out.1.new.frozen i
    have ql := HS3.out.1.new.lt
    clear HS3 H8 HC c0 c1 cl1
    generalize (w2.setCell ⟨gs, i, none⟩ (.slice ad2 (D.now i).length cap2)) = W3 at *
    go_wp2
    go_ret
    exact ⟨rfl, HG.out⟩
  · have e2 : psyD D f = cnt D := if_neg h0
    rw [e2]
    have hne : (cntE D f != 0) = true := by rw [bne_iff_ne]; exact h0
    clear h h0 e2 hl bO bF
    generalize cntE D f = ev at *
    go_enter Try.func39, Try.ntmps39
    go_wp2_with (go_at_call 79; refine Calls.mono HF.out ?_; rintro e w8 ⟨rfl, l1, b1, a1, o1, u1, h8, hF8⟩; have H8 : Hid (PKw w8 O d (cnt D) ∧ Fp O w O w8) := ⟨h8.w, hF8⟩; clear h8 hF8 HF)
    go_ret
    exact ⟨rfl, O, H8.out⟩
end
end Go.Proofs.Ytljhhdpeakencaa
end
section
set_option linter.unusedSimpArgs false
set_option linter.unusedVariables false
namespace Go.Proofs.Ytljhhdpeakencaa
open Go.RowKit

/-! A change added to the page's. -/
theorem infoPc' : (Try.prog.info? 112).map (fun i => (i.zero, i.size, i.bytes)) = some (some (.agg #[.bool false, .int .i64 0, .slice none 0 0]), 3, 40) := by kernel_rfl
theorem one_pc {w : World} {g : Nat} {c : Ch} {bv : Value} (hb : Bk w g (chc c bv) 112) (h1 : bv.oneCell' = true) : Src Try.prog 3 110 (.slice (some ⟨g, 0, none⟩) 1 1) 1 (ccells (c, bv)) w := by
  refine Src.ofSlice w Try.underlying110 ⟨g, 0, none⟩ 1 1 _ rfl (fun j u hj => ?_) (fun u hu => ?_)
  · rw [Addr.add_lit, Nat.zero_add, hb.cell j]
    rw [← hj, ← Array.getElem?_toList]
    rfl
  · simp [ccells] at hu
    rcases hu with rfl | rfl | rfl <;> first | rfl | assumption
section
variable {w w2 : World} {O : Nat → Nat} {d : Nat} {D : Ds} {gl gs gn cl cs cn : Nat} {lv sv cv : Nat → Value} {left bad : Int} {armed off hurt : Bool}
theorem PK.newAt (h : PK w O d D gl gs gn cl cs cn lv sv cv left bad armed off hurt) {i : Nat} (hi : i < 8) (hg : w.grownBy w2 (cv i).ownBlock) : R8 w2 110 gn cn cv ∧ Bk w2 d (pkc (.slice (some ⟨gl, 0, none⟩) 8 cl) (.slice (some ⟨gs, 0, none⟩) 8 cs) (.slice (some ⟨gn, 0, none⟩) 8 cn) left bad armed off hurt) 101 :=
  ⟨h.new.same (hg.block gn (h.lt gn (by rw [h.t4]; omega)) (fun e => by have := h.tc i hi gn e.symm; rw [h.t4] at this; omega)), (hg.block d (h.lt d (by rw [h.t1]; omega)) (fun e => by have := h.tc i hi d e.symm; rw [h.t1] at this; omega)).trans h.blk⟩
theorem PK.addCh (h : PK w O d D gl gs gn cl cs cn lv sv cv left bad armed off hurt) {i : Nat} (hi : i < 8) {c : Ch} {bv v5 : Value} {ps : List (Ch × Value)} (hps : ps.map Prod.fst = D.chs i ∧ ∀ p ∈ ps, Ow w 0 p.2 p.1.bs ∧ ∀ b, p.2.ownBlock = some b → O b = 5)
    (hbv : Ow w 0 bv c.bs) (htb : ∀ b, bv.ownBlock = some b → O b = 5) (h1 : w2.ownsRow 0 112 3 v5 (ps.length + 1) (ps.flatMap ccells ++ ccells (c, bv))) (hg : w.grownBy w2 (cv i).ownBlock) (hs : Sn w (cv i) v5) :
    ∃ O', PK (w2.setCell ⟨gn, i, none⟩ v5) O' d { D with chs := upd D.chs i (D.chs i ++ [c]) } gl gs gn cl cs cn lv sv (upd cv i v5) left bad armed off hurt ∧ Fp O w O' (w2.setCell ⟨gn, i, none⟩ v5) := by
  have ng : ∀ b, b < w.heap.size → O b ≠ 10 + i → w2.heap[b]? = w.heap[b]? := fun b hb h2 => hg.block b hb (fun e => h2 (h.tc i hi b e.symm))
  have ns : ∀ b, O b ≠ 4 → (w2.setCell ⟨gn, i, none⟩ v5).heap[b]? = w2.heap[b]? := fun b h1 => Below.heap_setCell w2 ⟨gn, i, none⟩ v5 b (fun e => h1 (by have e : b = gn := e; rw [e]; exact h.t4))
  have ne : ∀ b, O b ≠ 0 → O b ≠ 4 → O b ≠ 10 + i → (w2.setCell ⟨gn, i, none⟩ v5).heap[b]? = w.heap[b]? := fun b h0 h1 h2 => (ns b h1).trans (ng b (h.lt b h0) h2)
  have hnew : R8 w2 110 gn cn cv := h.new.same (ng gn (h.lt gn (by rw [h.t4]; omega)) (by rw [h.t4]; omega))
  have hlc : ∀ b, v5.ownBlock = some b → ∃ cur, w2.heap[b]? = some (.cells cur 112) := fun b hb => by
    rcases h1.2 with ⟨rfl, _⟩ | ⟨g, cap, cur, rfl, h3, h4, h5⟩
    · simp [Value.ownBlock] at hb
    · simp [Value.ownBlock] at hb; subst hb; exact ⟨cur, h4⟩
  have ngn : ∀ b, v5.ownBlock = some b → b ≠ gn := fun b hb e => by
    obtain ⟨c1, e1⟩ := hlc b hb
    obtain ⟨c2, e2⟩ := hnew.blk
    rw [e, e2] at e1
    simp at e1
  obtain ⟨O', hO⟩ : ∃ O' : Nat → Nat, O' = fun b => if b < w.heap.size then (if some b = (cv i).ownBlock ∧ v5.ownBlock ≠ some b then 0 else O b) else if v5.ownBlock = some b then 10 + i else 0 := ⟨_, rfl⟩
  have o1 : ∀ b, b < w.heap.size → ¬ (some b = (cv i).ownBlock ∧ v5.ownBlock ≠ some b) → O' b = O b := fun b hb h1 => by rw [hO]; exact (if_pos hb).trans (if_neg h1)
  have o2 : ∀ b, O b ≠ 0 → O b ≠ 10 + i → O' b = O b := fun b hb h2 => o1 b (h.lt b hb) (fun h3 => h2 (h.tc i hi b h3.1.symm))
  have o5 : ∀ b, O b = 5 → b < w.heap.size → (w2.setCell ⟨gn, i, none⟩ v5).heap[b]? = w.heap[b]? ∧ O' b = 5 := fun b e hb => ⟨ne b (by omega) (by omega) (by omega), (o2 b (by omega) (by omega)).trans e⟩
  refine ⟨O', ⟨(ne d (by rw [h.t1]; omega) (by rw [h.t1]; omega) (by rw [h.t1]; omega)).trans h.blk, h.live.same (ne gl (by rw [h.t2]; omega) (by rw [h.t2]; omega) (by rw [h.t2]; omega)), h.safr.same (ne gs (by rw [h.t3]; omega) (by rw [h.t3]; omega) (by rw [h.t3]; omega)), hnew.set hi v5,
    fun j hj => ⟨(h.now j hj).1.same fun b e => (o5 b ((h.now j hj).2 b e) ((h.now j hj).1.lt b e)).1, fun b e => (o5 b ((h.now j hj).2 b e) ((h.now j hj).1.lt b e)).2⟩,
    fun j hj => ⟨(h.safe j hj).1.same fun b e => (o5 b ((h.safe j hj).2 b e) ((h.safe j hj).1.lt b e)).1, fun b e => (o5 b ((h.safe j hj).2 b e) ((h.safe j hj).1.lt b e)).2⟩,
    fun j hj => ?_, fun j hj b e => ?_, (o2 d (by rw [h.t1]; omega) (by rw [h.t1]; omega)).trans h.t1, (o2 gl (by rw [h.t2]; omega) (by rw [h.t2]; omega)).trans h.t2, (o2 gs (by rw [h.t3]; omega) (by rw [h.t3]; omega)).trans h.t3, (o2 gn (by rw [h.t4]; omega) (by rw [h.t4]; omega)).trans h.t4, fun b hb => ?_, ⟨h.pn.off, h.pn.arm, h.pn.hur⟩⟩,
    ⟨hg.os, hg.tape, hg.output, by simp; exact hg.size, fun b hb ho => (o1 b hb (fun h3 => by have := h.tc i hi b h3.1.symm; omega)).trans ho, fun b hb ho => (ns b (by omega)).trans (ng b hb (by omega)), fun k o h1 h2 => ?_⟩⟩
  · by_cases e : j = i
    · subst e
      simp only [upd_same]
      refine ⟨ps ++ [(c, bv)], by simp [hps.1], ?_, fun p hp => ?_⟩
      · have e : (ps ++ [(c, bv)]).length = ps.length + 1 := by simp
        have e2 : (ps ++ [(c, bv)]).flatMap ccells = ps.flatMap ccells ++ ccells (c, bv) := by simp
        rw [e, e2]
        exact ownsRow_same h1 fun b hb => Below.heap_setCell w2 _ _ b (ngn b hb)
      · have hp2 : Ow w 0 p.2 p.1.bs ∧ ∀ b, p.2.ownBlock = some b → O b = 5 := by
          rcases List.mem_append.1 hp with hp | hp
          · exact hps.2 p hp
          · simp at hp; subst hp; exact ⟨hbv, htb⟩
        exact ⟨hp2.1.same fun b e => (o5 b (hp2.2 b e) (hp2.1.lt b e)).1, fun b e => (o5 b (hp2.2 b e) (hp2.1.lt b e)).2⟩
    · simp only [upd_other _ _ e]
      exact (h.chs j hj).same (fun b e' => ne b (by rw [h.tc j hj b e']; omega) (by rw [h.tc j hj b e']; omega) (by rw [h.tc j hj b e']; omega)) o5
  · by_cases e' : j = i
    · subst e'
      simp only [upd_same] at e
      rcases hs with h1 | h1
      · have ht := h.tc j hj b (h1 ▸ e)
        exact (o1 b (h.lt b (by omega)) (fun h3 => h3.2 e)).trans ht
      · rw [hO]
        exact (if_neg (by have := h1 b e; omega)).trans (if_pos e)
    · simp only [upd_other _ _ e'] at e
      have ht := h.tc j hj b e
      exact (o2 b (by omega) (by omega)).trans ht
  · rw [hO] at hb
    (try simp only [] at hb)
    refine isCells_set ?_
    by_cases e1 : v5.ownBlock = some b
    · obtain ⟨c, e2⟩ := hlc b e1; exact ⟨_, e2, rfl⟩
    · by_cases e : b < w.heap.size
      · rw [if_pos e] at hb
        by_cases e3 : some b = (cv i).ownBlock ∧ v5.ownBlock ≠ some b
        · rw [if_pos e3] at hb; exact absurd rfl hb
        · rw [hg.block b e (fun e4 => e3 ⟨e4, e1⟩)]
          rw [if_neg e3] at hb
          exact h.cel b hb
      · rw [if_neg e, if_neg e1] at hb
        exact absurd rfl hb
  · have nc : ∀ b, O b ≠ 0 → k ≠ b := fun b hb e => by
      obtain ⟨o', h3, h4⟩ := h.cel b hb
      rw [← e, h1] at h3
      simp at h3
      rw [h3, h4] at h2
      cases h2
    have hkl : k < w.heap.size := (Array.getElem?_eq_some_iff.1 h1).1
    rw [Below.heap_setCell w2 ⟨gn, i, none⟩ v5 k (nc gn (by rw [h.t4]; omega)), hg.block k hkl (fun e => nc k (by rw [h.tc i hi k e.symm]; omega) rfl)]
    exact h1
end
end Go.Proofs.Ytljhhdpeakencaa
end

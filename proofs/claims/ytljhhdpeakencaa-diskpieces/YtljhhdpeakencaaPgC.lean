import Derived.Test.YtljhhdpeakencaaJ8
set_option linter.unusedSimpArgs false
set_option linter.unusedVariables false
namespace Go.Proofs.Ytljhhdpeakencaa
open Go.RowKit

/-! The page's Crash, walked. -/
theorem pkk_bd {ps : List Int} (h : ∀ p ∈ ps, -9223372036854775808 ≤ p ∧ p ≤ 9223372036854775807) (k : Nat) : 0 ≤ pkk ps k ∧ pkk ps k ≤ 9223372036854775807 := by
  unfold pkk
  split
  · next h2 =>
    have e : ps.getD k 0 = ps[k] := by simp [List.getD, h2.1]
    rw [e] at h2 ⊢
    exact ⟨h2.2, (h _ (List.getElem_mem h2.1)).2⟩
  · omega
/-- A row more, whose bytes are ours already. -/
theorem lc_snoc2 {W w1 : World} {base : Nat} {ls : List (List UInt8)} {u u2 v1 : Value} {x : List UInt8} {o : Obj} {ps : List (List UInt8 × Value)} (hps : ps.map Prod.fst = ls) (hrow : W.ownsRow base 37 1 u ps.length (ps.map Prod.snd)) (hin : ∀ p ∈ ps, Ow W base p.2 p.1) (hx : Ow W base u2 x)
    (h1 : w1.ownsRow base 37 1 v1 (ps.length + 1) (ps.map Prod.snd ++ [u2])) (hg : (W.alloc o).grownBy w1 u.ownBlock) : Lc w1 base v1 (ls ++ [x]) := by
  have ty : ∀ {p : Value} {l : List UInt8}, Ow W base p l → p.ownBlock = none ∨ p.ownBlock ≠ u.ownBlock := fun {p l} hp => by
    cases e : p.ownBlock with
    | none => exact .inl rfl
    | some b =>
      right
      intro e2
      obtain ⟨c, e3⟩ := hp.bytes b e
      obtain ⟨_, _, c2, e4⟩ := owns_row hrow b e2.symm
      rw [e3] at e4
      simp at e4
  refine ⟨ps ++ [(x, u2)], by simp [hps], ?_, fun p hp => ?_⟩
  · have e : (ps ++ [(x, u2)]).length = ps.length + 1 := by simp
    have e2 : (ps ++ [(x, u2)]).map Prod.snd = ps.map Prod.snd ++ [u2] := by simp
    rw [e, e2]
    exact h1
  · have hp2 : Ow W base p.2 p.1 := by
      rcases List.mem_append.1 hp with hp | hp
      · exact hin p hp
      · simp at hp; subst hp; exact hx
    exact (hp2.alloc o).kept hg (ty hp2)
theorem ow_based {w : World} {base : Nat} {v : Value} {l : List UInt8} (h : Ow w 0 v l) (hb : ∀ b, v.ownBlock = some b → base ≤ b) : Ow w base v l := by
  refine ⟨h.1, ?_⟩
  rcases h.2 with h2 | ⟨g, cap, cur, rfl, h3, h4, h5⟩
  · exact .inl h2
  · exact .inr ⟨g, cap, cur, rfl, hb g (by simp [Value.ownBlock]), h4, h5⟩
theorem ow_cut {w : World} {base : Nat} {ad : Option Addr} {n cap : Nat} {l : List UInt8} (h : Ow w base (.slice ad n cap) l) (k : Nat) (hk : k ≤ l.length) : Ow w base (.slice ad k cap) (l.take k) := by
  refine ow_based (h.base0.cut k hk) fun b e => (h.ge (k := b) ?_).1
  cases ad with
  | none => simp [Value.ownBlock] at e
  | some a => simpa [Value.ownBlock] using e
set_option maxRecDepth 100000 in
set_option maxHeartbeats 8000000 in
theorem pcrash {w : World} {O : Nat → Nat} {d : Nat} {D : Ds} {q : Nat} (h : PKw w O d D) (pv : Value) (ps : List Int) (hp : Rp w pv ps) (hf : Few D q) (hq : q ≤ 1000) :
    Calls Try.prog 46 #[.pointer (some ⟨d, 0, none⟩), pv] w fun e w' => ∃ u, e = .returned u ∧ Lc w' w.heap.size u ((List.range 8).map (crash D ps)) ∧ PKw w' O d { D with off := true } ∧ Fp O w O w' := by
  obtain ⟨gl', gs, gn, cl, cs, cn, lv, sv, cv, left, bad, armed, off, hurt, h⟩ := h
  have HP : Hid (PK w O d D gl' gs gn cl cs cn lv sv cv left bad armed off hurt) := h
  have HF : Hid (Few D q) := hf
  obtain ⟨pda, pcap, rfl, hple, hpm, hpr, hpc⟩ := hp
  have HPc : Hid (∀ i (h : i < ps.length), ∃ b off, pda = some ⟨b, off, none⟩ ∧ w.cell? ⟨b, off + i, none⟩ = some (.int .i64 ps[i])) := hpc
  have HPr : Hid (∀ p ∈ ps, -9223372036854775808 ≤ p ∧ p ≤ 9223372036854775807) := hpr
  have HG : Hid (∀ m, m ≤ 8 → (gl D m).length ≤ 1048576000) := fun m hm => Nat.le_trans (gl_len hf.few m hm) (by have := Nat.mul_le_mul hm (Nat.mul_le_mul_right 131072 hq); omega)
  have HL : Hid (∀ m, m < 8 → (D.chs m).length ≤ 131072000) := fun m hm => Nat.le_trans (hf.few m hm) (by have := (Nat.mul_le_mul_right 131072 hq); omega)
  obtain ⟨m, hm⟩ : ∃ m, m = ps.length := ⟨_, rfl⟩
  have Hm : Hid (m = ps.length) := hm
  rw [← hm] at hple hpm ⊢
  have hd := h.blk.lt
  have d1 := h.blk.cell 1
  have d2 := h.blk.cell 2
  simp only [List.getElem?_toArray, List.getElem?_cons_zero, List.getElem?_cons_succ] at d1 d2
  have ls := h.safr.lt
  have ln := h.new.lt
  obtain ⟨i0, hi, hz0, hz1, hz2⟩ := info_of infoRow
  clear hpc hpr hm h hf
  go_enter Try.func46, Try.ntmps46
  go_wp2_with fail
  go_loopw [5, 6, 7] (fun at_ out f wr => ∃ (fn : Nat), fn ≤ 8 ∧ f = .int .i64 (fn : Int) ∧ at_ = .int .i64 (((gl D fn).length : Nat) : Int) ∧ Lc wr w.heap.size out ((List.range fn).map (pcr D ps)) ∧ Below w.heap.size w wr) (fun _ _ f _ => 8 - (intOf f).toNat)
  case atStart => exact ⟨0, by omega, rfl, rfl, Lc.nil _ _, Below.refl _ _⟩
  case round =>
    obtain ⟨fn, hfn, rfl, rfl, hlc, hbl⟩ := hrel
    have hszr := hbl.size
    have hlc0 := hlc
    obtain ⟨pr, hpr1, hpr2, hpr3⟩ := hlc
    obtain ⟨ao, no, co, rfl⟩ := ownsRow_sl hpr2
    have HLc : Hid (Lc wr w.heap.size (.slice ao no co) ((List.range fn).map (pcr D ps))) := hlc0
    have HBl : Hid (Below w.heap.size w wr) := hbl
    clear hpr1 hpr2 hpr3 hlc0
    have e1 := (hbl.cell (p := ⟨d, 1, none⟩) hd).trans d1
    have e2 := (hbl.cell (p := ⟨d, 2, none⟩) hd).trans d2
    have ldr : d < wr.heap.size := by omega
    obtain ⟨a0, ha0⟩ : ∃ a0, a0 = (gl D fn).length := ⟨_, rfl⟩
    have Ha0 : Hid (a0 = (gl D fn).length) := ha0
    have ha0b : a0 ≤ 1048576000 := by rw [ha0]; exact HG.out fn hfn
    rw [← ha0]
    clear ha0
    by_cases hlt : fn < 8
    · have hlt' : (fn : Int) < 8 := by omega
      have hsafe := (HP.out.safe fn hlt).1
      obtain ⟨sad, scap, esv, _⟩ := hsafe.shape
      have c1 := (hbl.cell (p := ⟨gs, fn, none⟩) ls).trans (HP.out.safr.cell hlt)
      rw [esv] at c1
      rw [esv] at hsafe
      have HC : Hid (∀ W, Below w.heap.size w W → Calls Try.prog 49 #[.slice sad (D.safe fn).length scap] W fun e w' => ∃ u, e = .returned u ∧ Ow w' W.heap.size u (D.safe fn) ∧ Below W.heap.size W w') := fun W hW => copyBytes W _ _ ((hsafe.rb (by have := HF.out.inv.saf fn hlt; omega)).below hW) (by have := HF.out.inv.saf fn hlt; omega)
      obtain ⟨cad, ccap, ecv⟩ := (HP.out.chs fn hlt).sl
      have c2 := (hbl.cell (p := ⟨gn, fn, none⟩) ln).trans (HP.out.new.cell hlt)
      rw [ecv] at c2
      have Hecv : Hid (cv fn = .slice cad (D.chs fn).length ccap) := ecv
      have hcl := HL.out fn hlt
      clear esv ecv hsafe
      obtain ⟨nc, hnc⟩ : ∃ nc, nc = (D.chs fn).length := ⟨_, rfl⟩
      have Hnc : Hid (nc = (D.chs fn).length) := hnc
      rw [← hnc] at c2 hcl
      clear hnc
      generalize (D.safe fn).length = sl at *
      go_wp2_with (go_at_call 49; refine Calls.mono (HC.out _ HBl.out) ?_; rintro e w2 ⟨u2, rfl, ho2, hb2⟩)
      have e1' := (hb2.cell (p := ⟨d, 1, none⟩) ldr).trans e1
      have e2' := (hb2.cell (p := ⟨d, 2, none⟩) ldr).trans e2
      have c2' := (hb2.cell (p := ⟨gn, fn, none⟩) (show gn < wr.heap.size by omega)).trans c2
      have HB2 : Hid (Below w.heap.size w w2 ∧ wr.heap.size ≤ w2.heap.size) := ⟨hbl.trans (hb2.mono hszr), hb2.size⟩
      have HO2 : Hid (Ow w2 w.heap.size u2 (D.safe fn)) := ow_up ho2 hszr
      have HLc2 : Hid (Lc w2 w.heap.size (.slice ao no co) ((List.range fn).map (pcr D ps))) := HLc.out.below hb2
      have ldr2 : d < w2.heap.size := by have := hb2.size; omega
      have lnr2 : gn < w2.heap.size := by have := hb2.size; omega
      clear e1 e2 c1 c2 ho2 hb2 HC HLc HBl hbl ldr e1'
      go_loopw [5, 8, 9] (fun at_ l i w3 => ∃ (j : Nat), j ≤ nc ∧ i = .int .i64 (j : Int) ∧ at_ = .int .i64 ((a0 + j : Nat) : Int) ∧ Ow w3 w.heap.size l (crI ps ((D.chs fn).take j) a0 (D.safe fn)) ∧ Below w2.heap.size w2 w3) (fun _ _ i _ => nc - (intOf i).toNat)
      case atStart => exact ⟨0, by omega, rfl, rfl, HO2.out, Below.refl _ _⟩
      case round =>
        clear HO2
        obtain ⟨j, hj, rfl, rfl, hol, hb3⟩ := hrel
        obtain ⟨la, lc, el, hlle⟩ := hol.shape
        subst el
        have HO : Hid (Ow wr w.heap.size (.slice la (crI ps ((D.chs fn).take j) a0 (D.safe fn)).length lc) (crI ps ((D.chs fn).take j) a0 (D.safe fn))) := hol
        have HB3 : Hid (Below w2.heap.size w2 wr) := hb3
        have f2 := (hb3.cell (p := ⟨d, 2, none⟩) ldr2).trans e2'
        have g2 := (hb3.cell (p := ⟨gn, fn, none⟩) lnr2).trans c2'
        have hsz3 := hb3.size
        have ldr3 : d < wr.heap.size := by omega
        have HBw : Hid (Below w.heap.size w wr) := HB2.out.1.trans (hb3.mono HB2.out.1.size)
        have hrowb : (crI ps ((D.chs fn).take j) a0 (D.safe fn)).length ≤ 131072 := crI_le ps _ (fun c hc => HF.out.inv.chb fn hlt c (List.mem_of_mem_take hc)) _ _ (HF.out.inv.saf fn hlt)
        clear hol hb3
        obtain ⟨row, hrow⟩ : ∃ row, row = crI ps ((D.chs fn).take j) a0 (D.safe fn) := ⟨_, rfl⟩
        have Hrow : Hid (row = crI ps ((D.chs fn).take j) a0 (D.safe fn)) := hrow
        rw [← hrow] at HO hlle hrowb ⊢
        clear hrow
        by_cases hjl : j < nc
        · have hjl' : (j : Int) < (nc : Int) := by omega
          have hjc : j < (D.chs fn).length := by have := Hnc.out; omega
          obtain ⟨g, cap, bv, x1, k0, k1, k2, hbv, hgl⟩ := (HP.out.chs fn hlt).at j hjc
          rw [Hecv.out] at x1
          simp at x1
          obtain ⟨rfl, rfl⟩ := x1
          have hc9 : ChB (D.chs fn)[j] := HF.out.inv.chb fn hlt _ (List.getElem_mem hjc)
          have HNx : Hid (crI ps ((D.chs fn).take (j + 1)) a0 (D.safe fn) = pst (D.chs fn)[j] (pkk ps (a0 + j)) row) := by
            show _ = _
            rw [List.take_succ_eq_append_getElem hjc, crI_snoc, ← Hrow.out, List.length_take, Nat.min_eq_left (by omega)]
          generalize (D.chs fn)[j] = c at *
          have k0 := (HBw.out.cell (p := ⟨g, j * 3, none⟩) hgl).trans k0
          have k1 := (HBw.out.cell (p := ⟨g, j * 3 + 1, none⟩) hgl).trans k1
          have k2 := (HBw.out.cell (p := ⟨g, j * 3 + 2, none⟩) hgl).trans k2
          obtain ⟨ba, bc9, ebv, hble⟩ := hbv.shape
          subst ebv
          have HBv : Hid (∀ W, Below w.heap.size w W → Rb W (.slice ba c.bs.length bc9) c.bs) := fun W hW => (hbv.rb (by have := hc9.1; omega)).below hW
          have HC9 : Hid (ChB c) := hc9
          clear hbv hc9
          obtain ⟨nb, hnb⟩ : ∃ nb, nb = c.bs.length := ⟨_, rfl⟩
          have Hnb : Hid (nb = c.bs.length) := hnb
          rw [← hnb] at HBv hble k2
          clear hnb
          go_upto_region 11 with fail
          obtain ⟨W, hW⟩ : ∃ W, W = wr.alloc (.cells #[.bool c.cut, .int .i64 (c.pos : Int), .slice ba nb bc9] 112) := ⟨_, rfl⟩
          rw [← hW]
          have HBW : Hid (Below wr.heap.size wr W) := by show Below _ _ _; rw [hW]; exact (Below.refl _ _).alloc (Nat.le_refl _) _
          have hX : Bk W wr.heap.size #[.bool c.cut, .int .i64 (c.pos : Int), .slice ba nb bc9] 112 := by rw [hW]; exact Bk.new _ _ _
          have x0 := hX.cell 0
          have x1 := hX.cell 1
          have x2 := hX.cell 2
          simp only [List.getElem?_toArray, List.getElem?_cons_zero, List.getElem?_cons_succ] at x0 x1 x2
          have xl := hX.lt
          have HWw : Hid (Below w.heap.size w W) := HBw.out.trans (HBW.out.mono HBw.out.size)
          have HOW : Hid (Ow W w.heap.size (.slice la row.length lc) row) := HO.out.below HBW.out HO.out.lt
          clear hW hX k0 k1 k2 f2 g2 e2' c2'
          generalize wr.heap.size = X at *
          go_upto_region 12 with fail
          go_cut [57] (fun cc wx => wx = W ∧ ∃ bb : Bool, cc = .bool bb ∧ bb = decide (a0 + j < ps.length ∧ 0 ≤ ps.getD (a0 + j) 0))
          case first =>
            by_cases hin : a0 + j < ps.length
            · obtain ⟨pb, poff, e3, hpx⟩ := HPc.out _ hin
              subst e3
              have hin1 : ((a0 + j : Nat) : Int) < (m : Int) := by have := Hm.out; omega
              have hin2 : a0 + j < m := by have := Hm.out; omega
              have px := (HWw.out.cell (World.block_lt_of_cell? w _ hpx)).trans hpx
              have HD : Hid (ps.getD (a0 + j) 0 = ps[a0 + j]) := by show _ = _; simp [List.getD, hin]
              generalize ps[a0 + j] = pk at *
              by_cases h0 : 0 ≤ pk
              · go_wp2_with fail
                go_meet
                exact ⟨rfl, _, rfl, by rw [HD.out]; exact (decide_eq_true ⟨hin, h0⟩).symm⟩
              · go_wp2_with fail
                go_meet
                exact ⟨rfl, _, rfl, by rw [HD.out]; exact (decide_eq_false (fun h => absurd h.2 (by omega))).symm⟩
            · have hin1 : ¬ ((a0 + j : Nat) : Int) < (m : Int) := by have := Hm.out; omega
              go_wp2_with fail
              go_meet
              exact ⟨rfl, _, rfl, (decide_eq_false (fun h => absurd h.1 (by omega))).symm⟩
          case rest =>
            obtain ⟨hw, bb, hc57, hbb⟩ := hcut
            replace hw := hw.symm
            subst hw
            have HBB : Hid (bb = decide (a0 + j < ps.length ∧ 0 ≤ ps.getD (a0 + j) 0)) := hbb
            subst hc57
            clear hbb
            go_upto_if 57 with fail
            go_cut [11] (fun cc wx => wx = W ∧ cc = .int .i64 (pkk ps (a0 + j)))
            case first =>
              cases bb with
              | true =>
                have hbt := of_decide_eq_true HBB.out.symm
                have hin := hbt.1
                obtain ⟨pb, poff, e3, hpx⟩ := HPc.out _ hin
                subst e3
                have hin2 : a0 + j < m := by have := Hm.out; omega
                have hin1 : ((a0 + j : Nat) : Int) < (m : Int) := by omega
                have px := (HWw.out.cell (World.block_lt_of_cell? w _ hpx)).trans hpx
                have HK : Hid (ps[a0 + j] = pkk ps (a0 + j)) := by
                  show _ = _
                  have e : ps.getD (a0 + j) 0 = ps[a0 + j] := by simp [List.getD, hin]
                  exact (pkk_in hin (e ▸ hbt.2)).symm
                clear hbt
                generalize ps[a0 + j] = pk at *
                go_wp2_with fail
                go_meet
                exact ⟨rfl, by rw [HK.out]⟩
              | false =>
                have HK : Hid (pkk ps (a0 + j) = 1) := by
                  show _ = _
                  have hbt := of_decide_eq_false HBB.out.symm
                  unfold pkk
                  rw [if_neg hbt]
                go_wp2_with fail
                go_meet
                exact ⟨rfl, by rw [HK.out]⟩
            case rest =>
              obtain ⟨hw, hk⟩ := hcut
              replace hw := hw.symm
              subst hw
              subst hk
              obtain ⟨hk0, hk1⟩ := pkk_bd HPr.out (a0 + j)
              clear HBB
              generalize pkk ps (a0 + j) = k at *
              have HPov : Hid (∀ (W' : World) (n : Nat), Below w.heap.size w W' → Ow W' w.heap.size (.slice la row.length lc) row → n ≤ nb → Calls Try.prog 83 #[.slice la row.length lc, .int .i64 (c.pos : Int), .slice ba n bc9] W' fun e w' => ∃ v', e = .returned v' ∧ Ow w' W'.heap.size v' (splice (pad row (c.pos + (c.bs.take n).length)) c.pos (c.bs.take n)) ∧ Below W'.heap.size W' w') := fun W' n hW hO hn => by
                have hcb := HC9.out.1
                have hnb := Hnb.out
                exact pover W' _ _ _ _ _ (hO.base0.rb (by omega)) (rb_take9 (n := n) (HBv.out W' hW) (by omega)) (by omega) (by rw [List.length_take]; omega)
              have hcp : c.pos + nb ≤ 131072 := by have := HC9.out.1; have := Hnb.out; omega
              have hnp : c.cut = false → 0 < nb := fun h => by have := HC9.out.2 h; have := Hnb.out; omega
              have hsW := HBW.out.size
              obtain ⟨n, hn⟩ : ∃ n, n = row.length := ⟨_, rfl⟩
              have Hn : Hid (n = row.length) := hn
              rw [← hn] at HOW HPov hlle hrowb ⊢
              clear hn
              cases hcut : c.cut with
              | true =>
                rw [hcut] at x0
                by_cases h0 : k = 0
                · subst h0
                  have HR : Hid (crI ps ((D.chs fn).take (j + 1)) a0 (D.safe fn) = row.take c.pos) := HNx.out.trans (pst_cut0 hcut row)
                  by_cases hgt : c.pos < n
                  · have hgt' : (c.pos : Int) < (n : Int) := by omega
                    have hpc : c.pos ≤ lc := by omega
                    clear hcut hnp
                    go_wp2_with fail
                    go_roundw
                    case rel => exact ⟨j + 1, by omega, by go_num, by go_num, by rw [HR.out]; exact ow_cut HOW.out c.pos (by have := Hn.out; omega), HB3.out.trans (HBW.out.mono (by omega))⟩
                    case measure => simp [intOf]; omega
                  · have hgt' : ¬ (c.pos : Int) < (n : Int) := by omega
                    have HR2 : Hid (row.take c.pos = row) := List.take_of_length_le (by have := Hn.out; omega)
                    clear hcut hnp
                    go_wp2_with fail
                    go_roundw
                    case rel => exact ⟨j + 1, by omega, by go_num, by go_num, by rw [HR.out, HR2.out]; exact HOW.out, HB3.out.trans (HBW.out.mono (by omega))⟩
                    case measure => simp [intOf]; omega
                · have HR : Hid (crI ps ((D.chs fn).take (j + 1)) a0 (D.safe fn) = row) := HNx.out.trans (pst_cut1 hcut h0 row)
                  have h0' : (k == 0) = false := by rw [beq_eq_false_iff_ne]; exact h0
                  clear hcut hnp
                  go_wp2_with fail
                  go_roundw
                  case rel => exact ⟨j + 1, by omega, by go_num, by go_num, by rw [HR.out]; exact HOW.out, HB3.out.trans (HBW.out.mono (by omega))⟩
                  case measure => simp [intOf]; omega
              | false =>
                rw [hcut] at x0
                have hnp := hnp hcut
                by_cases h0 : k = 0
                · subst h0
                  have HR : Hid (crI ps ((D.chs fn).take (j + 1)) a0 (D.safe fn) = splice (pad row (c.pos + (c.bs.take nb).length)) c.pos (c.bs.take nb)) := by show _ = _; rw [HNx.out, pst_all hcut, Hnb.out, List.take_length]
                  have hnz : ¬ (nb : Int) ≤ 0 := by omega
                  have hnz2 : 0 < (nb : Int) := by omega
                  clear hcut
                  go_upto_region 22 with fail
                  have HPo := HPov.out W.drew nb HWw.out.drew (HOW.out.same fun _ _ => rfl) (Nat.le_refl _)
                  have HPo : Hid _ := HPo
                  clear HPov
                  refine wp_region_noPanic ?_
                  refine wp_region_held_drew (S := fun W' => W'.cell? ⟨X, 1, none⟩ = some (.int .i64 (c.pos : Int)) ∧ W'.cell? ⟨X, 2, none⟩ = some (.slice ba nb bc9)) (by kernel_rfl) ?_ (fun hHeld => ?_)
                  · ((try dsimp only); exact ⟨x1, x2⟩)
                  (try dsimp only at hHeld)
                  refine wpAnyH_take (i := 0) (oi := ⟨some 91, _, _, _, _, _⟩) (v := ?_) rfl (by kernel_rfl) (by kernel_rfl) (by kernel_rfl) (fun _ _ _ h => h) (Or.inl ⟨by rfl, ?_⟩) (by assumption) ?_
                  rotate_left
                  · (intro w hSw; (try dsimp only at hSw); go_simp; try (with_reducible rfl))
                  (try dsimp only); (try simp only [Act.put, List.setIfInBounds_toArray, List.set_cons_zero, List.set_cons_succ])
                  refine wpAnyH_take (i := 1) (oi := ⟨some 92, _, _, _, _, _⟩) (v := ?_) rfl (by kernel_rfl) (by kernel_rfl) (by kernel_rfl) (fun _ _ _ h => h) (Or.inl ⟨by rfl, ?_⟩) (by assumption) ?_
                  rotate_left
                  · (intro w hSw; (try dsimp only at hSw); go_simp; try (with_reducible rfl))
                  (try dsimp only); (try simp only [Act.put, List.setIfInBounds_toArray, List.set_cons_zero, List.set_cons_succ])
                  refine wpAnyH_take (i := 2) (oi := ⟨some 93, _, _, _, _, _⟩) (v := ?_) rfl (by kernel_rfl) (by kernel_rfl) (by kernel_rfl) (fun _ _ _ h => h) (Or.inl ⟨by rfl, ?_⟩) (by assumption) ?_
                  rotate_left
                  · (intro w hSw; (try dsimp only at hSw); go_simp; try (with_reducible rfl))
                  (try dsimp only); (try simp only [Act.put, List.setIfInBounds_toArray, List.set_cons_zero, List.set_cons_succ])
                  refine wpAnyH_take (i := 3) (oi := ⟨some 94, _, _, _, _, _⟩) (v := ?_) rfl (by kernel_rfl) (by kernel_rfl) (by kernel_rfl) (fun _ _ _ h => h) (Or.inl ⟨by rfl, ?_⟩) (by assumption) ?_
                  rotate_left
                  · (intro w hSw; (try dsimp only at hSw); go_simp; try (with_reducible rfl))
                  (try dsimp only); (try simp only [Act.put, List.setIfInBounds_toArray, List.set_cons_zero, List.set_cons_succ])
                  refine wpAnyH_take (i := 4) (oi := ⟨some 95, _, _, _, _, _⟩) (v := ?_) rfl (by kernel_rfl) (by kernel_rfl) (by kernel_rfl) (fun _ _ _ h => h) (Or.inl ⟨by rfl, ?_⟩) (by assumption) ?_
                  rotate_left
                  · (intro w hSw; (try dsimp only at hSw); go_simp; try (with_reducible rfl))
                  (try dsimp only); (try simp only [Act.put, List.setIfInBounds_toArray, List.set_cons_zero, List.set_cons_succ])
                  refine wpAnyH_take (i := 5) (oi := ⟨some 96, _, _, _, _, _⟩) (v := ?_) rfl (by kernel_rfl) (by kernel_rfl) (by kernel_rfl) (fun _ _ _ h => h) (Or.inl ⟨by rfl, ?_⟩) (by assumption) ?_
                  rotate_left
                  · (intro w hSw; (try dsimp only at hSw); go_simp; try (with_reducible rfl))
                  (try dsimp only); (try simp only [Act.put, List.setIfInBounds_toArray, List.set_cons_zero, List.set_cons_succ])
                  refine wpAnyH_take (i := 6) (oi := ⟨some 97, _, _, _, _, _⟩) (v := ?_) rfl (by kernel_rfl) (by kernel_rfl) (by kernel_rfl) (fun _ _ _ h => h) (Or.inl ⟨by rfl, ?_⟩) (by assumption) ?_
                  rotate_left
                  · (intro w hSw; (try dsimp only at hSw); go_simp; try (with_reducible rfl))
                  (try dsimp only); (try simp only [Act.put, List.setIfInBounds_toArray, List.set_cons_zero, List.set_cons_succ])
                  refine wpAnyH_ready (rs := [7]) (by kernel_rfl) (by simp) ?_
                  refine AllReadyH.cons (o := ⟨some 98, _, _, _, _, _⟩) rfl (fun K hK => ?_) AllReadyH.nil
                  go_simp
                  refine Calls.mono HPo.out ?_
                  rintro e w5 ⟨u5, rfl, ho5, hb5⟩
                  have hb5' : Below W.heap.size W w5 := (Below.refl W.heap.size W).drew.trans hb5
                  obtain ⟨a5, n5, c5, rfl⟩ := ownsRow_sl ho5
                  have H5 : Hid (Ow w5 w.heap.size (.slice a5 n5 c5) (crI ps ((D.chs fn).take (j + 1)) a0 (D.safe fn)) ∧ Below w2.heap.size w2 w5) := ⟨by rw [HR.out]; exact ow_up ho5 (by have := HWw.out.size; exact this), HB3.out.trans ((HBW.out.mono (by omega)).trans (hb5'.mono (by omega)))⟩
                  refine hK.out _ _ ⟨(hb5'.cell (p := ⟨X, 1, none⟩) xl).trans x1, (hb5'.cell (p := ⟨X, 2, none⟩) xl).trans x2⟩ (fun hHeld => ?_)
                  clear hK K ho5 hb5 hb5'
                  (try dsimp only); (try simp only [Act.put, List.setIfInBounds_toArray, List.set_cons_zero, List.set_cons_succ])
                  refine wpAnyH_take (i := 8) (oi := ⟨some 8, _, _, _, _, _⟩) (v := ?_) rfl (by kernel_rfl) (by kernel_rfl) (by kernel_rfl) (fun _ _ _ h => h) (Or.inl ⟨by rfl, ?_⟩) (by assumption) ?_
                  rotate_left
                  · (intro w hSw; (try dsimp only at hSw); go_simp; try (with_reducible rfl))
                  (try dsimp only); (try simp only [Act.put, List.setIfInBounds_toArray, List.set_cons_zero, List.set_cons_succ])
                  refine wpAnyH_done (by kernel_rfl) ?_ _
                  refine NoPanic.normal ?_
                  clear hHeld
                  go_wp2_with fail
                  go_roundw
                  case rel => exact ⟨j + 1, by omega, by go_num, by go_num, H5.out.1, H5.out.2⟩
                  case measure => simp [intOf]; omega
                · by_cases h2 : k ≤ 2
                  · have HR : Hid (crI ps ((D.chs fn).take (j + 1)) a0 (D.safe fn) = row) := HNx.out.trans (pst_few h0 h2 row)
                    have h3 : 0 < k := by omega
                    have h4 : IntKind.i64.wrap (k - 2) = k - 2 := IntWalk.i64_in _ (by omega)
                    have h5 : k - 2 ≤ 0 := by omega
                    have h6 : max 0 (k - 2) = 0 := by omega
                    have h7 : min (nb : Int) 0 = 0 := by omega
                    clear hcut
                    go_wp2_with fail
                    go_roundw
                    case rel => exact ⟨j + 1, by omega, by go_num, by go_num, by rw [HR.out]; exact HOW.out, HB3.out.trans (HBW.out.mono (by omega))⟩
                    case measure => simp [intOf]; omega
                  · by_cases hmn : k - 2 < (nb : Int)
                    · obtain ⟨s, hs⟩ : ∃ s : Nat, s = (k - 2).toNat := ⟨_, rfl⟩
                      have HR : Hid (crI ps ((D.chs fn).take (j + 1)) a0 (D.safe fn) = splice (pad row (c.pos + (c.bs.take s).length)) c.pos (c.bs.take s)) := by show _ = _; rw [HNx.out, pst_some hcut (by omega) row (n := s) (by rw [← Hnb.out, hs]; omega)]
                      have h3 : 0 < k := by omega
                      have h4 : IntKind.i64.wrap (k - 2) = (s : Int) := by rw [IntWalk.i64_in _ (by omega)]; omega
                      have h8 : 0 < (s : Int) := by omega
                      have hmn' : (s : Int) < (nb : Int) := by omega
                      have hsn : s ≤ nb := by omega
                      have hsb : s ≤ bc9 := by omega
                      clear hcut hs hmn h2 h0
                      go_upto_region 22 with fail
                      have HPo := HPov.out W.drew s HWw.out.drew (HOW.out.same fun _ _ => rfl) hsn
                      have HPo : Hid _ := HPo
                      clear HPov
                      refine wp_region_noPanic ?_
                      refine wp_region_held_drew (S := fun W' => W'.cell? ⟨X, 1, none⟩ = some (.int .i64 (c.pos : Int)) ∧ W'.cell? ⟨X, 2, none⟩ = some (.slice ba nb bc9)) (by kernel_rfl) ?_ (fun hHeld => ?_)
                      · ((try dsimp only); exact ⟨x1, x2⟩)
                      (try dsimp only at hHeld)
                      refine wpAnyH_take (i := 0) (oi := ⟨some 91, _, _, _, _, _⟩) (v := ?_) rfl (by kernel_rfl) (by kernel_rfl) (by kernel_rfl) (fun _ _ _ h => h) (Or.inl ⟨by rfl, ?_⟩) (by assumption) ?_
                      rotate_left
                      · (intro w hSw; (try dsimp only at hSw); go_simp; try (with_reducible rfl))
                      (try dsimp only); (try simp only [Act.put, List.setIfInBounds_toArray, List.set_cons_zero, List.set_cons_succ])
                      refine wpAnyH_take (i := 1) (oi := ⟨some 92, _, _, _, _, _⟩) (v := ?_) rfl (by kernel_rfl) (by kernel_rfl) (by kernel_rfl) (fun _ _ _ h => h) (Or.inl ⟨by rfl, ?_⟩) (by assumption) ?_
                      rotate_left
                      · (intro w hSw; (try dsimp only at hSw); go_simp; try (with_reducible rfl))
                      (try dsimp only); (try simp only [Act.put, List.setIfInBounds_toArray, List.set_cons_zero, List.set_cons_succ])
                      refine wpAnyH_take (i := 2) (oi := ⟨some 93, _, _, _, _, _⟩) (v := ?_) rfl (by kernel_rfl) (by kernel_rfl) (by kernel_rfl) (fun _ _ _ h => h) (Or.inl ⟨by rfl, ?_⟩) (by assumption) ?_
                      rotate_left
                      · (intro w hSw; (try dsimp only at hSw); go_simp; try (with_reducible rfl))
                      (try dsimp only); (try simp only [Act.put, List.setIfInBounds_toArray, List.set_cons_zero, List.set_cons_succ])
                      refine wpAnyH_take (i := 3) (oi := ⟨some 94, _, _, _, _, _⟩) (v := ?_) rfl (by kernel_rfl) (by kernel_rfl) (by kernel_rfl) (fun _ _ _ h => h) (Or.inl ⟨by rfl, ?_⟩) (by assumption) ?_
                      rotate_left
                      · (intro w hSw; (try dsimp only at hSw); go_simp; try (with_reducible rfl))
                      (try dsimp only); (try simp only [Act.put, List.setIfInBounds_toArray, List.set_cons_zero, List.set_cons_succ])
                      refine wpAnyH_take (i := 4) (oi := ⟨some 95, _, _, _, _, _⟩) (v := ?_) rfl (by kernel_rfl) (by kernel_rfl) (by kernel_rfl) (fun _ _ _ h => h) (Or.inl ⟨by rfl, ?_⟩) (by assumption) ?_
                      rotate_left
                      · (intro w hSw; (try dsimp only at hSw); go_simp; try (with_reducible rfl))
                      (try dsimp only); (try simp only [Act.put, List.setIfInBounds_toArray, List.set_cons_zero, List.set_cons_succ])
                      refine wpAnyH_take (i := 5) (oi := ⟨some 96, _, _, _, _, _⟩) (v := ?_) rfl (by kernel_rfl) (by kernel_rfl) (by kernel_rfl) (fun _ _ _ h => h) (Or.inl ⟨by rfl, ?_⟩) (by assumption) ?_
                      rotate_left
                      · (intro w hSw; (try dsimp only at hSw); go_simp; try (with_reducible rfl))
                      (try dsimp only); (try simp only [Act.put, List.setIfInBounds_toArray, List.set_cons_zero, List.set_cons_succ])
                      refine wpAnyH_take (i := 6) (oi := ⟨some 97, _, _, _, _, _⟩) (v := ?_) rfl (by kernel_rfl) (by kernel_rfl) (by kernel_rfl) (fun _ _ _ h => h) (Or.inl ⟨by rfl, ?_⟩) (by assumption) ?_
                      rotate_left
                      · (intro w hSw; (try dsimp only at hSw); go_simp; try (with_reducible rfl))
                      (try dsimp only); (try simp only [Act.put, List.setIfInBounds_toArray, List.set_cons_zero, List.set_cons_succ])
                      refine wpAnyH_ready (rs := [7]) (by kernel_rfl) (by simp) ?_
                      refine AllReadyH.cons (o := ⟨some 98, _, _, _, _, _⟩) rfl (fun K hK => ?_) AllReadyH.nil
                      go_simp
                      refine Calls.mono HPo.out ?_
                      rintro e w5 ⟨u5, rfl, ho5, hb5⟩
                      have hb5' : Below W.heap.size W w5 := (Below.refl W.heap.size W).drew.trans hb5
                      obtain ⟨a5, n5, c5, rfl⟩ := ownsRow_sl ho5
                      have H5 : Hid (Ow w5 w.heap.size (.slice a5 n5 c5) (crI ps ((D.chs fn).take (j + 1)) a0 (D.safe fn)) ∧ Below w2.heap.size w2 w5) := ⟨by rw [HR.out]; exact ow_up ho5 (by have := HWw.out.size; exact this), HB3.out.trans ((HBW.out.mono (by omega)).trans (hb5'.mono (by omega)))⟩
                      refine hK.out _ _ ⟨(hb5'.cell (p := ⟨X, 1, none⟩) xl).trans x1, (hb5'.cell (p := ⟨X, 2, none⟩) xl).trans x2⟩ (fun hHeld => ?_)
                      clear hK K ho5 hb5 hb5'
                      (try dsimp only); (try simp only [Act.put, List.setIfInBounds_toArray, List.set_cons_zero, List.set_cons_succ])
                      refine wpAnyH_take (i := 8) (oi := ⟨some 8, _, _, _, _, _⟩) (v := ?_) rfl (by kernel_rfl) (by kernel_rfl) (by kernel_rfl) (fun _ _ _ h => h) (Or.inl ⟨by rfl, ?_⟩) (by assumption) ?_
                      rotate_left
                      · (intro w hSw; (try dsimp only at hSw); go_simp; try (with_reducible rfl))
                      (try dsimp only); (try simp only [Act.put, List.setIfInBounds_toArray, List.set_cons_zero, List.set_cons_succ])
                      refine wpAnyH_done (by kernel_rfl) ?_ _
                      refine NoPanic.normal ?_
                      clear hHeld
                      go_wp2_with fail
                      go_roundw
                      case rel => exact ⟨j + 1, by omega, by go_num, by go_num, H5.out.1, H5.out.2⟩
                      case measure => simp [intOf]; omega
                    · have HR : Hid (crI ps ((D.chs fn).take (j + 1)) a0 (D.safe fn) = splice (pad row (c.pos + (c.bs.take nb).length)) c.pos (c.bs.take nb)) := by show _ = _; rw [HNx.out, pst_some hcut (by omega) row (n := nb) (by rw [← Hnb.out]; omega)]
                      have h3 : 0 < k := by omega
                      have h4 : IntKind.i64.wrap (k - 2) = k - 2 := IntWalk.i64_in _ (by omega)
                      have h5 : 0 < k - 2 := by omega
                      have h8 : 0 < (nb : Int) := by omega
                      clear hcut h2 h0
                      go_upto_region 22 with fail
                      have HPo := HPov.out W.drew nb HWw.out.drew (HOW.out.same fun _ _ => rfl) (Nat.le_refl _)
                      have HPo : Hid _ := HPo
                      clear HPov
                      refine wp_region_noPanic ?_
                      refine wp_region_held_drew (S := fun W' => W'.cell? ⟨X, 1, none⟩ = some (.int .i64 (c.pos : Int)) ∧ W'.cell? ⟨X, 2, none⟩ = some (.slice ba nb bc9)) (by kernel_rfl) ?_ (fun hHeld => ?_)
                      · ((try dsimp only); exact ⟨x1, x2⟩)
                      (try dsimp only at hHeld)
                      refine wpAnyH_take (i := 0) (oi := ⟨some 91, _, _, _, _, _⟩) (v := ?_) rfl (by kernel_rfl) (by kernel_rfl) (by kernel_rfl) (fun _ _ _ h => h) (Or.inl ⟨by rfl, ?_⟩) (by assumption) ?_
                      rotate_left
                      · (intro w hSw; (try dsimp only at hSw); go_simp; try (with_reducible rfl))
                      (try dsimp only); (try simp only [Act.put, List.setIfInBounds_toArray, List.set_cons_zero, List.set_cons_succ])
                      refine wpAnyH_take (i := 1) (oi := ⟨some 92, _, _, _, _, _⟩) (v := ?_) rfl (by kernel_rfl) (by kernel_rfl) (by kernel_rfl) (fun _ _ _ h => h) (Or.inl ⟨by rfl, ?_⟩) (by assumption) ?_
                      rotate_left
                      · (intro w hSw; (try dsimp only at hSw); go_simp; try (with_reducible rfl))
                      (try dsimp only); (try simp only [Act.put, List.setIfInBounds_toArray, List.set_cons_zero, List.set_cons_succ])
                      refine wpAnyH_take (i := 2) (oi := ⟨some 93, _, _, _, _, _⟩) (v := ?_) rfl (by kernel_rfl) (by kernel_rfl) (by kernel_rfl) (fun _ _ _ h => h) (Or.inl ⟨by rfl, ?_⟩) (by assumption) ?_
                      rotate_left
                      · (intro w hSw; (try dsimp only at hSw); go_simp; try (with_reducible rfl))
                      (try dsimp only); (try simp only [Act.put, List.setIfInBounds_toArray, List.set_cons_zero, List.set_cons_succ])
                      refine wpAnyH_take (i := 3) (oi := ⟨some 94, _, _, _, _, _⟩) (v := ?_) rfl (by kernel_rfl) (by kernel_rfl) (by kernel_rfl) (fun _ _ _ h => h) (Or.inl ⟨by rfl, ?_⟩) (by assumption) ?_
                      rotate_left
                      · (intro w hSw; (try dsimp only at hSw); go_simp; try (with_reducible rfl))
                      (try dsimp only); (try simp only [Act.put, List.setIfInBounds_toArray, List.set_cons_zero, List.set_cons_succ])
                      refine wpAnyH_take (i := 4) (oi := ⟨some 95, _, _, _, _, _⟩) (v := ?_) rfl (by kernel_rfl) (by kernel_rfl) (by kernel_rfl) (fun _ _ _ h => h) (Or.inl ⟨by rfl, ?_⟩) (by assumption) ?_
                      rotate_left
                      · (intro w hSw; (try dsimp only at hSw); go_simp; try (with_reducible rfl))
                      (try dsimp only); (try simp only [Act.put, List.setIfInBounds_toArray, List.set_cons_zero, List.set_cons_succ])
                      refine wpAnyH_take (i := 5) (oi := ⟨some 96, _, _, _, _, _⟩) (v := ?_) rfl (by kernel_rfl) (by kernel_rfl) (by kernel_rfl) (fun _ _ _ h => h) (Or.inl ⟨by rfl, ?_⟩) (by assumption) ?_
                      rotate_left
                      · (intro w hSw; (try dsimp only at hSw); go_simp; try (with_reducible rfl))
                      (try dsimp only); (try simp only [Act.put, List.setIfInBounds_toArray, List.set_cons_zero, List.set_cons_succ])
                      refine wpAnyH_take (i := 6) (oi := ⟨some 97, _, _, _, _, _⟩) (v := ?_) rfl (by kernel_rfl) (by kernel_rfl) (by kernel_rfl) (fun _ _ _ h => h) (Or.inl ⟨by rfl, ?_⟩) (by assumption) ?_
                      rotate_left
                      · (intro w hSw; (try dsimp only at hSw); go_simp; try (with_reducible rfl))
                      (try dsimp only); (try simp only [Act.put, List.setIfInBounds_toArray, List.set_cons_zero, List.set_cons_succ])
                      refine wpAnyH_ready (rs := [7]) (by kernel_rfl) (by simp) ?_
                      refine AllReadyH.cons (o := ⟨some 98, _, _, _, _, _⟩) rfl (fun K hK => ?_) AllReadyH.nil
                      go_simp
                      refine Calls.mono HPo.out ?_
                      rintro e w5 ⟨u5, rfl, ho5, hb5⟩
                      have hb5' : Below W.heap.size W w5 := (Below.refl W.heap.size W).drew.trans hb5
                      obtain ⟨a5, n5, c5, rfl⟩ := ownsRow_sl ho5
                      have H5 : Hid (Ow w5 w.heap.size (.slice a5 n5 c5) (crI ps ((D.chs fn).take (j + 1)) a0 (D.safe fn)) ∧ Below w2.heap.size w2 w5) := ⟨by rw [HR.out]; exact ow_up ho5 (by have := HWw.out.size; exact this), HB3.out.trans ((HBW.out.mono (by omega)).trans (hb5'.mono (by omega)))⟩
                      refine hK.out _ _ ⟨(hb5'.cell (p := ⟨X, 1, none⟩) xl).trans x1, (hb5'.cell (p := ⟨X, 2, none⟩) xl).trans x2⟩ (fun hHeld => ?_)
                      clear hK K ho5 hb5 hb5'
                      (try dsimp only); (try simp only [Act.put, List.setIfInBounds_toArray, List.set_cons_zero, List.set_cons_succ])
                      refine wpAnyH_take (i := 8) (oi := ⟨some 8, _, _, _, _, _⟩) (v := ?_) rfl (by kernel_rfl) (by kernel_rfl) (by kernel_rfl) (fun _ _ _ h => h) (Or.inl ⟨by rfl, ?_⟩) (by assumption) ?_
                      rotate_left
                      · (intro w hSw; (try dsimp only at hSw); go_simp; try (with_reducible rfl))
                      (try dsimp only); (try simp only [Act.put, List.setIfInBounds_toArray, List.set_cons_zero, List.set_cons_succ])
                      refine wpAnyH_done (by kernel_rfl) ?_ _
                      refine NoPanic.normal ?_
                      clear hHeld
                      go_wp2_with fail
                      go_roundw
                      case rel => exact ⟨j + 1, by omega, by go_num, by go_num, H5.out.1, H5.out.2⟩
                      case measure => simp [intOf]; omega
        · have hjl' : ¬ (j : Int) < (nc : Int) := by omega
          obtain rfl : j = nc := by omega
          have HR : Hid (row = pcr D ps fn) := by show _ = _; rw [Hrow.out, Hnc.out, List.take_length, Ha0.out]; rfl
          have HRows : Hid ((List.range (fn + 1)).map (pcr D ps) = (List.range fn).map (pcr D ps) ++ [pcr D ps fn]) := by show _ = _; rw [List.range_succ, List.map_append]; rfl
          have hlc3 := HLc2.out.below HB3.out
          have hrw3 := hlc3.row
          obtain ⟨pr, hpr1, hpr2, hpr3⟩ := hlc3
          have hpl : pr.length = fn := by have := congrArg List.length hpr1; simp at this; omega
          have HP3 : Hid (pr.map Prod.fst = (List.range fn).map (pcr D ps) ∧ wr.ownsRow w.heap.size 37 1 (.slice ao no co) pr.length (pr.map Prod.snd) ∧ ∀ p ∈ pr, Ow wr w.heap.size p.2 p.1) := ⟨hpr1, hpr2, hpr3⟩
          have HX3 : Hid (Ow wr w.heap.size (.slice la row.length lc) (pcr D ps fn)) := by show Ow _ _ _ _; rw [← HR.out]; exact HO.out
          have HN3 : Hid (((a0 + j : Nat) : Int) = (((gl D (fn + 1)).length : Nat) : Int)) := by
            show _ = _
            rw [gl_succ, List.length_append, List.length_map, ← Ha0.out, ← Hnc.out]
          have Hgr : Hid (∀ k, (Value.slice ao no co).ownBlock = some k → w.heap.size ≤ k) := fun k hk => (hrw3 k hk).1
          have hrow3 := hpr2.alloc (.cells #[.slice la row.length lc] 37)
          clear hpr1 hpr2 hpr3 HO
          generalize row.length = n at *
          go_wp2_with (at_builtin; refine stop9 ?_)
          unfold Hold9
          refine wpList_append_own _ rfl _ _ 22 rfl w.heap.size 37 i0 (.slice none 0 0) 1 24 Try.underlying22 hi hz0 hz1 hz2 rfl (by decide) _ pr.length _ rfl hrow3 ⟨wr.heap.size, 0, none⟩ 1 1 [.slice la n lc] rfl rfl (cell_one_new _ _ _) (by simp [Value.oneCell']) (by unfold maxLen; omega) (by omega) (by have := HBw.out.size; simp; omega) ?_
          intro v1 w1 hown1 hgrow1 hnil1
          have h6 : Lc w1 w.heap.size v1 ((List.range (fn + 1)).map (pcr D ps)) := by
            rw [HRows.out]
            exact lc_snoc2 HP3.out.1 HP3.out.2.1 HP3.out.2.2 HX3.out hown1 hgrow1
          have h7 : Below w.heap.size w w1 := (HBw.out.alloc HBw.out.size _).grown hgrow1 (by have := HBw.out.size; simp; omega) Hgr.out
          have H6 : Hid (Lc w1 w.heap.size v1 ((List.range (fn + 1)).map (pcr D ps)) ∧ Below w.heap.size w w1) := ⟨h6, h7⟩
          clear h6 h7 hgrow1 hnil1 hrow3
          go_wp2_with fail
          go_roundw
          case rel => exact ⟨fn + 1, by omega, by go_num, by rw [← HN3.out, Int.natCast_add], H6.out.1, H6.out.2⟩
          case measure => simp [intOf]; omega
    · obtain rfl : fn = 8 := by omega
      have hlt' : ¬ ((8 : Nat) : Int) < 8 := by omega
      have c6 := (hbl.cell (p := ⟨d, 6, none⟩) hd).trans (HP.out.blk.cell 6)
      have f6 : wr.frozen? ⟨d, 6, none⟩ = false := (World.frozen?_of_block (hbl.block d hd)).trans (HP.out.blk.frozen 6)
      simp only [List.getElem?_toArray, List.getElem?_cons_zero, List.getElem?_cons_succ] at c6
      have hPw := HP.out.below hbl
      obtain ⟨r1, r2⟩ := hPw.offMark
      have HR : Hid (PKw (wr.setCell ⟨d, 6, none⟩ (.bool true)) O d { D with off := true } ∧ Fp O w O (wr.setCell ⟨d, 6, none⟩ (.bool true))) := ⟨r1, (Fp.of_below O hbl).trans r2⟩
      have HL2 : Hid (Lc (wr.setCell ⟨d, 6, none⟩ (.bool true)) w.heap.size (.slice ao no co) ((List.range 8).map (crash D ps))) := by
        have e : (List.range 8).map (crash D ps) = (List.range 8).map (pcr D ps) := List.map_congr_left fun i hi => crash_page D ps i (by simpa using hi)
        show Lc _ _ _ _
        rw [e]
        refine HLc.out.same (fun b hb => Below.heap_setCell wr ⟨d, 6, none⟩ _ b (fun e => ?_)) (fun b hb _ _ => Below.heap_setCell wr ⟨d, 6, none⟩ _ b (fun e => ?_))
        · have := (HLc.out.row b hb).1
          have e : b = d := e
          omega
        · have e : b = d := e
          omega
      clear hPw r1 r2
      go_wp2_with fail
      go_ret
      exact ⟨_, rfl, HL2.out, HR.out⟩
end Go.Proofs.Ytljhhdpeakencaa

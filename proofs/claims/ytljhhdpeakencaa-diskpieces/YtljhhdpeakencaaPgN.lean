import Derived.Test.YtljhhdpeakencaaJ7
set_option linter.unusedSimpArgs false
set_option linter.unusedVariables false
namespace Go.Proofs.Ytljhhdpeakencaa
open Go.RowKit

/-! The page's New, walked. -/
/-- A walk held up. -/
def Hold9 (p : Prop) : Prop := p
theorem stop9 {p : Prop} (h : Hold9 p) : p := h
theorem infoChs : (Try.prog.info? 110).map (fun i => (i.zero, i.size, i.bytes)) = some (some (Value.slice none 0 0), 1, 24) := by kernel_rfl
theorem one_row {w : World} {g : Nat} {v : Value} (hb : Bk w g #[v] 37) (h1 : v.oneCell' = true) : Src Try.prog 1 22 (.slice (some ⟨g, 0, none⟩) 1 1) 1 [v] w := by
  refine Src.ofSlice w Try.underlying22 ⟨g, 0, none⟩ 1 1 _ rfl (fun j u hj => ?_) (fun u hu => ?_)
  · rw [Addr.add_lit, Nat.zero_add, hb.cell j]
    rw [← hj, ← Array.getElem?_toList]
  · simp at hu
    subst hu
    exact h1
theorem PnI.drew {w W : World} {ls : List (List UInt8)} {n m k : Nat} {LV SV NV : Value} (h : PnI w ls n m k W LV SV NV) : PnI w ls n m k W.drew LV SV NV :=
  ⟨h.blk, h.live.same (fun _ _ => rfl) (fun _ _ _ _ => rfl), h.safr.same (fun _ _ => rfl) (fun _ _ _ _ => rfl), ownsRow_same h.new (fun _ _ => rfl), h.ap, h.bel.drew⟩
theorem PnI.liveNe {w W : World} {ls : List (List UInt8)} {n m k : Nat} {LV SV NV : Value} (h : PnI w ls n m k W LV SV NV) : some w.heap.size ≠ LV.ownBlock := fun e => by
  obtain ⟨_, _, c, e2⟩ := h.live.row _ e.symm
  rw [show W.heap[w.heap.size]? = _ from h.blk] at e2
  simp at e2
theorem PnI.safeNe {w W : World} {ls : List (List UInt8)} {n m k : Nat} {LV SV NV : Value} (h : PnI w ls n m k W LV SV NV) : some w.heap.size ≠ SV.ownBlock := fun e => by
  obtain ⟨_, _, c, e2⟩ := h.safr.row _ e.symm
  rw [show W.heap[w.heap.size]? = _ from h.blk] at e2
  simp at e2
theorem PnI.newNe {w W : World} {ls : List (List UInt8)} {n m k : Nat} {LV SV NV : Value} (h : PnI w ls n m k W LV SV NV) : some w.heap.size ≠ NV.ownBlock := fun e => by
  obtain ⟨_, _, c, e2⟩ := owns_row h.new _ e.symm
  rw [show W.heap[w.heap.size]? = _ from h.blk] at e2
  simp at e2
structure Ps9 (W : World) (base : Nat) (v : Value) (ls : List (List UInt8)) (ps : List (List UInt8 × Value)) (n : Nat) : Prop where
  eq : ps.map Prod.fst = ls
  row : W.ownsRow base 37 1 v ps.length (ps.map Prod.snd)
  own : ∀ p ∈ ps, Ow W base p.2 p.1
  len : ps.length = n ∧ n ≤ 8
theorem Ps9.drew {W : World} {base : Nat} {v : Value} {ls : List (List UInt8)} {ps : List (List UInt8 × Value)} {n : Nat} (h : Ps9 W base v ls ps n) : Ps9 W.drew base v ls ps n :=
  ⟨h.eq, ownsRow_same h.row (fun _ _ => rfl), fun p hp => (h.own p hp).same (fun _ _ => rfl), h.len⟩
theorem lc_ps {W : World} {base : Nat} {v : Value} {ls : List (List UInt8)} {n : Nat} (h : Lc W base v (pr8 ls n)) (hn : n ≤ 8) : ∃ ps, Ps9 W base v (pr8 ls n) ps n := by
  obtain ⟨ps, h1, h2, h3⟩ := h
  exact ⟨ps, h1, h2, h3, by rw [← pr8_length ls n, ← h1, List.length_map], hn⟩
theorem owns_below9 {W W' : World} {base size n : Nat} {e : TypeId} {v : Value} {xs : List Value} (h : W.ownsRow base e size v n xs) (hb : Below W.heap.size W W') : W'.ownsRow base e size v n xs := ownsRow_same h (fun b e' => hb.block b (h.lt b e').2)
theorem getD_sm {ls : List (List UInt8)} (h : Sml ls) (i : Nat) : (ls.getD i []).length ≤ 131072 := by
  by_cases hi : i < ls.length
  · have : ls.getD i [] = ls[i] := by simp [List.getD, hi]
    rw [this]
    exact h _ (List.getElem_mem hi)
  · have : ls.getD i [] = [] := by simp [List.getD, hi]
    rw [this]
    simp
set_option maxRecDepth 100000 in
set_option maxHeartbeats 2000000 in
theorem pnew (w : World) (v : Value) (ls : List (List UInt8)) (h : Rl w v ls) (hn : ls.length = 0 ∨ ls.length = 8) (hs : Sml ls) :
    Calls Try.prog 28 #[v] w fun e w' => e = .returned (.pointer (some ⟨w.heap.size, 0, none⟩)) ∧ Below w.heap.size w w' ∧ ∃ O, PKw w' O w.heap.size (dsN ls 8) ∧ ∀ b, O b ≠ 0 → w.heap.size ≤ b := by
  obtain ⟨ad, cap, rfl, hle, hm, hat⟩ := h
  have HA : Hid (∀ i (h : i < ls.length), ∃ b off rv, ad = some ⟨b, off, none⟩ ∧ w.cell? ⟨b, off + i, none⟩ = some rv ∧ Rb w rv ls[i]) := hat
  have HS : Hid (Sml ls) := hs
  have HN : Hid (ls.length = 0 ∨ ls.length = 8) := hn
  obtain ⟨i0, hi, hi0, hi1, hi2⟩ := info_of infoRow
  obtain ⟨j0, hj, hj0, hj1, hj2⟩ := info_of infoChs
  have HI : Hid (Try.prog.info? 37 = some i0 ∧ i0.zero = some (.slice none 0 0) ∧ i0.size = 1 ∧ i0.bytes = 24) := ⟨hi, hi0, hi1, hi2⟩
  have H0 : Hid (PnI w ls 0 0 0 (w.alloc (.cells (pkc (.slice none 0 0) (.slice none 0 0) (.slice none 0 0) 0 0 false false false) 101)) (.slice none 0 0) (.slice none 0 0) (.slice none 0 0)) := PnI.zero w ls
  clear hat hs hn hi hi0 hi1 hi2
  obtain ⟨m, hml⟩ : ∃ m, m = ls.length := ⟨_, rfl⟩
  have Hm : Hid (m = ls.length) := hml
  rw [← hml] at hle hm ⊢
  clear hml
  go_enter Try.func28, Try.ntmps28
  go_wp2_with fail
  go_loopw [4] (fun i wr => ∃ (n : Nat) (LV SV NV : Value), n ≤ 8 ∧ i = .int .i64 (n : Int) ∧ PnI w ls n n n wr LV SV NV) (fun i _ => 8 - (intOf i).toNat)
  case atStart => exact ⟨0, _, _, _, by omega, rfl, H0.out⟩
  case round =>
    clear H0
    obtain ⟨n, LV, SV, NV, hn8, rfl, hP⟩ := hrel
    obtain ⟨ps, hps⟩ := lc_ps hP.live hn8
    obtain ⟨aL, nL, cL, rfl⟩ := ownsRow_sl hps.row
    obtain ⟨qs, hqs⟩ := lc_ps hP.safr hn8
    obtain ⟨aS, nS, cS, rfl⟩ := ownsRow_sl hqs.row
    obtain ⟨aN, nN, cN, rfl⟩ := ownsRow_sl hP.new
    clear hqs
    have HIw : Hid (PnI w ls n n n wr (.slice aL nL cL) (.slice aS nS cS) (.slice aN nN cN)) := hP
    have HP : Hid (Ps9 wr.drew w.heap.size (.slice aL nL cL) (pr8 ls n) ps n) := hps.drew
    clear hP hps
    by_cases hlt : n < 8
    · have hlt' : (n : Int) < 8 := by omega
      go_upto_if 14 with fail
      go_cut [5] (fun c wx => ∃ bv, c = bv ∧ wx = wr ∧ (∀ W, Below w.heap.size w W → Rb W bv (ls.getD n [])) ∧ bv.oneCell' = true)
      case first =>
        rcases HN.out with h0 | h8
        · obtain rfl : m = 0 := by have := Hm.out; omega
          have hR : ls.getD n [] = [] := by rw [List.length_eq_zero_iff.1 h0]; rfl
          go_wp2_with fail
          go_meet
          refine ⟨_, rfl, rfl, fun W _ => ?_, rfl⟩
          rw [hR]
          exact Rb.none none 0 0 0 [] rfl rfl
        · obtain rfl : m = 8 := by have := Hm.out; omega
          have hnl : n < ls.length := by omega
          obtain ⟨b, off, rv, e1, hx, hrb⟩ := HA.out n hnl
          subst e1
          have hxw := (HIw.out.bel.cell (cell_lt hx)).trans hx
          have hR : ls.getD n [] = ls[n] := by simp [List.getD, hnl]
          have HR : Hid (∀ W, Below w.heap.size w W → Rb W rv (ls.getD n [])) := fun W hW => by rw [hR]; exact hrb.below hW
          have o1 : rv.oneCell' = true := by obtain ⟨ra, rc, x1, h9⟩ := hrb; rw [x1]; rfl
          clear hrb hx hR
          go_wp2_with fail
          go_meet
          exact ⟨_, rfl, rfl, HR.out, o1⟩
      case rest =>
        obtain ⟨bv, hc, hw, hR, o1⟩ := hcut
        replace hc := hc.symm
        subst hc
        replace hw := hw.symm
        subst hw
        have hlen : (ls.getD n []).length ≤ 131072 := getD_sm HS.out n
        have HCb : Hid (∀ W, Below w.heap.size w W → Calls Try.prog 49 #[bv] W fun e w' => ∃ u, e = .returned u ∧ Ow w' W.heap.size u (ls.getD n []) ∧ Below W.heap.size W w') := fun W hW => copyBytes W _ _ (hR W hW) (by omega)
        clear hR hlen
        have c0 : wr.drew.cell? ⟨w.heap.size, 0, none⟩ = some (.slice aL nL cL) := HIw.out.blk.cell 0
        have f0 : wr.drew.frozen? ⟨w.heap.size, 0, none⟩ = false := HIw.out.blk.frozen 0
        have HB0 : Hid (w.heap.size < wr.drew.heap.size ∧ Below w.heap.size w wr.drew) := ⟨HIw.out.dlt, HIw.out.bel.drew⟩
        have HB0r : Hid (some w.heap.size ≠ (Value.slice aL nL cL).ownBlock) := HIw.out.liveNe
        go_upto_region 8 with fail
        refine wp_region_noPanic ?_
        refine wp_region_held_drew (S := fun _ => True) (by kernel_rfl) ?_ (fun hHeld => ?_)
        · ((try dsimp only); skip)
        (try dsimp only at hHeld)
        refine wpAnyH_take (i := 0) (oi := ⟨some 19, _, _, _, _, _⟩) (v := ?_) rfl (by kernel_rfl) (by kernel_rfl) (by kernel_rfl) (fun _ _ _ h => h) (Or.inl ⟨by rfl, ?_⟩) (by assumption) ?_
        rotate_left
        · (intro w hSw; (try dsimp only at hSw); go_simp; try (with_reducible rfl))
        (try dsimp only); (try simp only [Act.put, List.setIfInBounds_toArray, List.set_cons_zero, List.set_cons_succ])
        refine wpAnyH_take (i := 1) (oi := ⟨some 20, _, _, _, _, _⟩) (v := ?_) rfl (by kernel_rfl) (by kernel_rfl) (by kernel_rfl) (fun _ _ _ h => h) (Or.inl ⟨by rfl, ?_⟩) (by assumption) ?_
        rotate_left
        · (intro w hSw; (try dsimp only at hSw); go_simp; try (with_reducible rfl))
        (try dsimp only); (try simp only [Act.put, List.setIfInBounds_toArray, List.set_cons_zero, List.set_cons_succ])
        refine wpAnyH_take (i := 2) (oi := ⟨some 21, _, _, _, _, _⟩) (v := ?_) rfl (by kernel_rfl) (by kernel_rfl) (by kernel_rfl) (fun _ _ _ h => h) (Or.inl ⟨by rfl, ?_⟩) (by assumption) ?_
        rotate_left
        · (intro w hSw; (try dsimp only at hSw); go_simp; try (with_reducible rfl))
        (try dsimp only); (try simp only [Act.put, List.setIfInBounds_toArray, List.set_cons_zero, List.set_cons_succ])
        refine wpAnyH_take (i := 3) (oi := ⟨some 22, _, _, _, _, _⟩) (v := ?_) rfl (by kernel_rfl) (by kernel_rfl) (by kernel_rfl) (fun _ _ _ h => h) (Or.inl ⟨by rfl, ?_⟩) (by assumption) ?_
        rotate_left
        · (intro w hSw; (try dsimp only at hSw); go_simp; try (with_reducible rfl))
        (try dsimp only); (try simp only [Act.put, List.setIfInBounds_toArray, List.set_cons_zero, List.set_cons_succ])
        refine wpAnyH_take (i := 5) (oi := ⟨some 24, _, _, _, _, _⟩) (v := ?_) rfl (by kernel_rfl) (by kernel_rfl) (by kernel_rfl) (fun _ _ _ h => h) (Or.inl ⟨by rfl, ?_⟩) (by assumption) ?_
        rotate_left
        · (intro w hSw; (try dsimp only at hSw); go_simp; try (with_reducible rfl))
        (try dsimp only); (try simp only [Act.put, List.setIfInBounds_toArray, List.set_cons_zero, List.set_cons_succ])
        refine wpAnyH_ready (rs := [4, 6]) (by kernel_rfl) (by simp) ?_
        refine AllReadyH.cons (o := ⟨some 23, _, _, _, _, _⟩) rfl (fun K hK => ?_) (AllReadyH.cons (o := ⟨some 25, _, _, _, _, _⟩) rfl (fun K hK => ?_) AllReadyH.nil)
        · go_simp
          refine hK.out _ _ trivial (fun hHeld => ?_)
          clear hK K
          (try dsimp only); (try simp only [Act.put, List.setIfInBounds_toArray, List.set_cons_zero, List.set_cons_succ])
          refine wpAnyH_ready (rs := [6]) (by kernel_rfl) (by simp) ?_
          refine AllReadyH.cons (o := ⟨some 25, _, _, _, _, _⟩) rfl (fun K hK => ?_) AllReadyH.nil
          go_simp
          refine Calls.mono (HCb.out _ HB0.out.2) ?_
          rintro e w2 ⟨u2, rfl, ho2, hb2⟩
          obtain ⟨ad2, n2, cap2, rfl⟩ := ownsRow_sl ho2
          have c2 : w2.cell? ⟨w.heap.size, 0, none⟩ = some (.slice aL nL cL) := (hb2.cell HB0.out.1).trans c0
          have H2 : Hid (Ow w2 wr.drew.heap.size (.slice ad2 n2 cap2) (ls.getD n []) ∧ Below wr.drew.heap.size wr.drew w2) := ⟨ho2, hb2⟩
          refine hK.out _ _ trivial (fun hHeld => ?_)
          clear hK K ho2 hb2
          (try dsimp only); (try simp only [Act.put, List.setIfInBounds_toArray, List.set_cons_zero, List.set_cons_succ])
          refine wpAnyH_ready (rs := [7]) (by kernel_rfl) (by simp) ?_
          refine AllReadyH.cons (o := ⟨some 26, _, _, _, _, _⟩) rfl (fun K hK => ?_) AllReadyH.nil
          go_simp
          refine hK.out _ _ trivial (fun hHeld => ?_)
          clear hK K
          have c3 : (w2.alloc (.cells #[.slice ad2 n2 cap2] 37)).cell? ⟨w.heap.size, 0, none⟩ = some (.slice aL nL cL) := by rw [← c2]; exact World.cell?_of_block (Below.heap_alloc w2 _ _ (Nat.lt_of_lt_of_le HB0.out.1 H2.out.2.size))
          (try dsimp only); (try simp only [Act.put, List.setIfInBounds_toArray, List.set_cons_zero, List.set_cons_succ])
          refine wpAnyH_ready (rs := [8]) (by kernel_rfl) (by simp) ?_
          refine AllReadyH.cons (o := ⟨some 27, _, _, _, _, _⟩) rfl (fun K hK => ?_) AllReadyH.nil
          refine step_append_own9 rfl _ _ 22 22 rfl w.heap.size 37 i0 (.slice none 0 0) 1 24 Try.underlying22 HI.out.1 HI.out.2.1 HI.out.2.2.1 HI.out.2.2.2 rfl (.slice aL nL cL) (.slice (some ⟨w2.heap.size, 0, none⟩) 1 1) ps.length (ps.map Prod.snd) 1 [.slice ad2 n2 cap2] rfl rfl ((owns_below9 HP.out.row H2.out.2).alloc _) (one_row (Bk.new w2 _ _) rfl) (by have := HP.out.len; unfold maxLen; omega) (by have := HP.out.len; omega) (by have := H2.out.2.size; have := HB0.out.1; simp; omega) ?_
          intro v5 w5 ho5 hg5 hs5
          have h5 := (PnI.liveStep (W := wr.drew) (HIw.out.drew) H2.out.2 H2.out.1 HP.out.eq HP.out.row HP.out.own ho5 hg5 hs5)
          obtain ⟨ad5, n5, cap5, rfl⟩ := ownsRow_sl ho5
          have H5 : Hid (PnI w ls (n + 1) n n (w5.setCell ⟨w.heap.size, 0, none⟩ (.slice ad5 n5 cap5)) (.slice ad5 n5 cap5) (.slice aS nS cS) (.slice aN nN cN)) := h5
          have p5 : w5.cell? ⟨w.heap.size, 0, none⟩ = some (.slice aL nL cL) := by rw [← c3]; exact World.cell?_of_block (hg5.block _ (by have := H2.out.2.size; have := HB0.out.1; simp; omega) HB0r.out)
          have pf5 : w5.frozen? ⟨w.heap.size, 0, none⟩ = false := World.frozen?_of_block (hg5.block _ (by have := H2.out.2.size; have := HB0.out.1; simp; omega) HB0r.out) |>.trans (World.frozen?_of_block (Below.heap_alloc w2 _ _ (Nat.lt_of_lt_of_le HB0.out.1 H2.out.2.size)) |>.trans (World.frozen?_of_block (H2.out.2.block _ HB0.out.1) |>.trans f0))
          have pl5 : w.heap.size < w5.heap.size := by have := hg5.size; have := H2.out.2.size; have := HB0.out.1; simp at *; omega
          refine hK.out _ _ trivial (fun hHeld => ?_)
          clear hK K ho5 hg5 hs5 h5 c2 c3 H2
          (try dsimp only); (try simp only [Act.put, List.setIfInBounds_toArray, List.set_cons_zero, List.set_cons_succ])
          refine wpAnyH_take (i := 9) (oi := ⟨some 28, _, _, _, _, _⟩) (v := ?_) rfl (by kernel_rfl) (by kernel_rfl) (by kernel_rfl) (fun _ _ _ h => h) (Or.inl ⟨by rfl, ?_⟩) (by assumption) ?_
          rotate_left
          · (intro w hSw; (try dsimp only at hSw); go_simp; try (with_reducible rfl))
          (try dsimp only); (try simp only [Act.put, List.setIfInBounds_toArray, List.set_cons_zero, List.set_cons_succ])
          refine wpAnyH_take (i := 10) (oi := ⟨some 29, _, _, _, _, _⟩) (v := ?_) rfl (by kernel_rfl) (by kernel_rfl) (by kernel_rfl) (fun _ _ _ h => h) (Or.inl ⟨by rfl, ?_⟩) (by assumption) ?_
          rotate_left
          · (intro w hSw; (try dsimp only at hSw); go_simp; try (with_reducible rfl))
          (try dsimp only); (try simp only [Act.put, List.setIfInBounds_toArray, List.set_cons_zero, List.set_cons_succ])
          refine wpAnyH_ready (rs := [11]) (by kernel_rfl) (by simp) ?_
          refine AllReadyH.cons (o := ⟨none, _, _, _, _, _⟩) rfl (fun K hK => ?_) AllReadyH.nil
          go_simp
          refine hK.out _ _ trivial (fun hHeld => ?_)
          clear hK K p5 pf5 pl5
          (try dsimp only); (try simp only [Act.put, List.setIfInBounds_toArray, List.set_cons_zero, List.set_cons_succ])
          refine wpAnyH_done (by kernel_rfl) ?_ _
          refine NoPanic.normal ?_
          generalize hW8 : w5.setCell ⟨w.heap.size, 0, none⟩ (.slice ad5 n5 cap5) = W8 at *
          generalize ad5 = aL8 at *
          generalize n5 = nL8 at *
          generalize cap5 = cL8 at *
          clear hW8 HIw HP HB0 HB0r c0 f0 hHeld
          have HIw : Hid (PnI w ls (n + 1) n n W8 (.slice aL8 nL8 cL8) (.slice aS nS cS) (.slice aN nN cN)) := H5.out
          clear H5
          have c0 : W8.drew.cell? ⟨w.heap.size, 1, none⟩ = some (.slice aS nS cS) := HIw.out.blk.cell 1
          have f0 : W8.drew.frozen? ⟨w.heap.size, 1, none⟩ = false := HIw.out.blk.frozen 1
          have HB0 : Hid (w.heap.size < W8.drew.heap.size ∧ Below w.heap.size w W8.drew) := ⟨HIw.out.dlt, HIw.out.bel.drew⟩
          have HB0r : Hid (some w.heap.size ≠ (Value.slice aS nS cS).ownBlock) := HIw.out.safeNe
          obtain ⟨ps, hps⟩ := lc_ps HIw.out.safr hn8
          have HP : Hid (Ps9 W8.drew w.heap.size (.slice aS nS cS) (pr8 ls n) ps n) := hps.drew
          clear hps
          go_upto_region 9 with fail
          refine wp_region_noPanic ?_
          refine wp_region_held_drew (S := fun _ => True) (by kernel_rfl) ?_ (fun hHeld => ?_)
          · ((try dsimp only); skip)
          (try dsimp only at hHeld)
          refine wpAnyH_take (i := 0) (oi := ⟨some 30, _, _, _, _, _⟩) (v := ?_) rfl (by kernel_rfl) (by kernel_rfl) (by kernel_rfl) (fun _ _ _ h => h) (Or.inl ⟨by rfl, ?_⟩) (by assumption) ?_
          rotate_left
          · (intro w hSw; (try dsimp only at hSw); go_simp; try (with_reducible rfl))
          (try dsimp only); (try simp only [Act.put, List.setIfInBounds_toArray, List.set_cons_zero, List.set_cons_succ])
          refine wpAnyH_take (i := 1) (oi := ⟨some 31, _, _, _, _, _⟩) (v := ?_) rfl (by kernel_rfl) (by kernel_rfl) (by kernel_rfl) (fun _ _ _ h => h) (Or.inl ⟨by rfl, ?_⟩) (by assumption) ?_
          rotate_left
          · (intro w hSw; (try dsimp only at hSw); go_simp; try (with_reducible rfl))
          (try dsimp only); (try simp only [Act.put, List.setIfInBounds_toArray, List.set_cons_zero, List.set_cons_succ])
          refine wpAnyH_take (i := 2) (oi := ⟨some 32, _, _, _, _, _⟩) (v := ?_) rfl (by kernel_rfl) (by kernel_rfl) (by kernel_rfl) (fun _ _ _ h => h) (Or.inl ⟨by rfl, ?_⟩) (by assumption) ?_
          rotate_left
          · (intro w hSw; (try dsimp only at hSw); go_simp; try (with_reducible rfl))
          (try dsimp only); (try simp only [Act.put, List.setIfInBounds_toArray, List.set_cons_zero, List.set_cons_succ])
          refine wpAnyH_take (i := 3) (oi := ⟨some 33, _, _, _, _, _⟩) (v := ?_) rfl (by kernel_rfl) (by kernel_rfl) (by kernel_rfl) (fun _ _ _ h => h) (Or.inl ⟨by rfl, ?_⟩) (by assumption) ?_
          rotate_left
          · (intro w hSw; (try dsimp only at hSw); go_simp; try (with_reducible rfl))
          (try dsimp only); (try simp only [Act.put, List.setIfInBounds_toArray, List.set_cons_zero, List.set_cons_succ])
          refine wpAnyH_take (i := 5) (oi := ⟨some 35, _, _, _, _, _⟩) (v := ?_) rfl (by kernel_rfl) (by kernel_rfl) (by kernel_rfl) (fun _ _ _ h => h) (Or.inl ⟨by rfl, ?_⟩) (by assumption) ?_
          rotate_left
          · (intro w hSw; (try dsimp only at hSw); go_simp; try (with_reducible rfl))
          (try dsimp only); (try simp only [Act.put, List.setIfInBounds_toArray, List.set_cons_zero, List.set_cons_succ])
          refine wpAnyH_ready (rs := [4, 6]) (by kernel_rfl) (by simp) ?_
          refine AllReadyH.cons (o := ⟨some 34, _, _, _, _, _⟩) rfl (fun K hK => ?_) (AllReadyH.cons (o := ⟨some 36, _, _, _, _, _⟩) rfl (fun K hK => ?_) AllReadyH.nil)
          · go_simp
            refine hK.out _ _ trivial (fun hHeld => ?_)
            clear hK K
            (try dsimp only); (try simp only [Act.put, List.setIfInBounds_toArray, List.set_cons_zero, List.set_cons_succ])
            refine wpAnyH_ready (rs := [6]) (by kernel_rfl) (by simp) ?_
            refine AllReadyH.cons (o := ⟨some 36, _, _, _, _, _⟩) rfl (fun K hK => ?_) AllReadyH.nil
            go_simp
            refine Calls.mono (HCb.out _ HB0.out.2) ?_
            rintro e w2 ⟨u2, rfl, ho2, hb2⟩
            obtain ⟨ad2, n2, cap2, rfl⟩ := ownsRow_sl ho2
            have c2 : w2.cell? ⟨w.heap.size, 1, none⟩ = some (.slice aS nS cS) := (hb2.cell HB0.out.1).trans c0
            have H2 : Hid (Ow w2 W8.drew.heap.size (.slice ad2 n2 cap2) (ls.getD n []) ∧ Below W8.drew.heap.size W8.drew w2) := ⟨ho2, hb2⟩
            refine hK.out _ _ trivial (fun hHeld => ?_)
            clear hK K ho2 hb2
            (try dsimp only); (try simp only [Act.put, List.setIfInBounds_toArray, List.set_cons_zero, List.set_cons_succ])
            refine wpAnyH_ready (rs := [7]) (by kernel_rfl) (by simp) ?_
            refine AllReadyH.cons (o := ⟨some 37, _, _, _, _, _⟩) rfl (fun K hK => ?_) AllReadyH.nil
            go_simp
            refine hK.out _ _ trivial (fun hHeld => ?_)
            clear hK K
            have c3 : (w2.alloc (.cells #[.slice ad2 n2 cap2] 37)).cell? ⟨w.heap.size, 1, none⟩ = some (.slice aS nS cS) := by rw [← c2]; exact World.cell?_of_block (Below.heap_alloc w2 _ _ (Nat.lt_of_lt_of_le HB0.out.1 H2.out.2.size))
            (try dsimp only); (try simp only [Act.put, List.setIfInBounds_toArray, List.set_cons_zero, List.set_cons_succ])
            refine wpAnyH_ready (rs := [8]) (by kernel_rfl) (by simp) ?_
            refine AllReadyH.cons (o := ⟨some 38, _, _, _, _, _⟩) rfl (fun K hK => ?_) AllReadyH.nil
            refine step_append_own9 rfl _ _ 22 22 rfl w.heap.size 37 i0 (.slice none 0 0) 1 24 Try.underlying22 HI.out.1 HI.out.2.1 HI.out.2.2.1 HI.out.2.2.2 rfl (.slice aS nS cS) (.slice (some ⟨w2.heap.size, 0, none⟩) 1 1) ps.length (ps.map Prod.snd) 1 [.slice ad2 n2 cap2] rfl rfl ((owns_below9 HP.out.row H2.out.2).alloc _) (one_row (Bk.new w2 _ _) rfl) (by have := HP.out.len; unfold maxLen; omega) (by have := HP.out.len; omega) (by have := H2.out.2.size; have := HB0.out.1; simp; omega) ?_
            intro v5 w5 ho5 hg5 hs5
            have h5 := (PnI.safeStep (W := W8.drew) (HIw.out.drew) H2.out.2 H2.out.1 HP.out.eq HP.out.row HP.out.own ho5 hg5 hs5)
            obtain ⟨ad5, n5, cap5, rfl⟩ := ownsRow_sl ho5
            have H5 : Hid (PnI w ls (n + 1) (n + 1) n (w5.setCell ⟨w.heap.size, 1, none⟩ (.slice ad5 n5 cap5)) (.slice aL8 nL8 cL8) (.slice ad5 n5 cap5) (.slice aN nN cN)) := h5
            have p5 : w5.cell? ⟨w.heap.size, 1, none⟩ = some (.slice aS nS cS) := by rw [← c3]; exact World.cell?_of_block (hg5.block _ (by have := H2.out.2.size; have := HB0.out.1; simp; omega) HB0r.out)
            have pf5 : w5.frozen? ⟨w.heap.size, 1, none⟩ = false := World.frozen?_of_block (hg5.block _ (by have := H2.out.2.size; have := HB0.out.1; simp; omega) HB0r.out) |>.trans (World.frozen?_of_block (Below.heap_alloc w2 _ _ (Nat.lt_of_lt_of_le HB0.out.1 H2.out.2.size)) |>.trans (World.frozen?_of_block (H2.out.2.block _ HB0.out.1) |>.trans f0))
            have pl5 : w.heap.size < w5.heap.size := by have := hg5.size; have := H2.out.2.size; have := HB0.out.1; simp at *; omega
            refine hK.out _ _ trivial (fun hHeld => ?_)
            clear hK K ho5 hg5 hs5 h5 c2 c3 H2
            (try dsimp only); (try simp only [Act.put, List.setIfInBounds_toArray, List.set_cons_zero, List.set_cons_succ])
            refine wpAnyH_take (i := 9) (oi := ⟨some 39, _, _, _, _, _⟩) (v := ?_) rfl (by kernel_rfl) (by kernel_rfl) (by kernel_rfl) (fun _ _ _ h => h) (Or.inl ⟨by rfl, ?_⟩) (by assumption) ?_
            rotate_left
            · (intro w hSw; (try dsimp only at hSw); go_simp; try (with_reducible rfl))
            (try dsimp only); (try simp only [Act.put, List.setIfInBounds_toArray, List.set_cons_zero, List.set_cons_succ])
            refine wpAnyH_take (i := 10) (oi := ⟨some 40, _, _, _, _, _⟩) (v := ?_) rfl (by kernel_rfl) (by kernel_rfl) (by kernel_rfl) (fun _ _ _ h => h) (Or.inl ⟨by rfl, ?_⟩) (by assumption) ?_
            rotate_left
            · (intro w hSw; (try dsimp only at hSw); go_simp; try (with_reducible rfl))
            (try dsimp only); (try simp only [Act.put, List.setIfInBounds_toArray, List.set_cons_zero, List.set_cons_succ])
            refine wpAnyH_ready (rs := [11]) (by kernel_rfl) (by simp) ?_
            refine AllReadyH.cons (o := ⟨none, _, _, _, _, _⟩) rfl (fun K hK => ?_) AllReadyH.nil
            go_simp
            refine hK.out _ _ trivial (fun hHeld => ?_)
            clear hK K p5 pf5 pl5
            (try dsimp only); (try simp only [Act.put, List.setIfInBounds_toArray, List.set_cons_zero, List.set_cons_succ])
            refine wpAnyH_done (by kernel_rfl) ?_ _
            refine NoPanic.normal ?_
            generalize w5.setCell ⟨w.heap.size, 1, none⟩ (.slice ad5 n5 cap5) = W9 at *
            clear HIw HP HB0 HB0r c0 f0 hHeld
            have c0 := H5.out.blk.cell 2
            have f0 := H5.out.blk.frozen 2
            have hd0 := H5.out.dlt
            have hb9 := H5.out.bel
            simp only [List.getElem?_toArray, List.getElem?_cons_zero, List.getElem?_cons_succ] at c0
            have hnew := H5.out.new
            have hnd := H5.out.newNe
            go_wp2_with (at_builtin; refine stop9 ?_)
            unfold Hold9
            refine wpList_append_own _ rfl _ _ 99 rfl w.heap.size 110 j0 (.slice none 0 0) 1 24 Try.underlying99 hj hj0 hj1 hj2 rfl (by decide) _ n _ rfl (hnew.alloc _) ⟨W9.heap.size, 0, none⟩ 1 1 [.slice none 0 0] rfl rfl (cell_one_new _ _ _) (by simp [Value.oneCell']) (by unfold maxLen; omega) (by omega) (by have := hd0; simp; omega) ?_
            intro v1 w1 hown1 hgrow1 hnil1
            have h6 := PnI.newStep H5.out hown1 hgrow1
            have e10 : w1.heap[w.heap.size]? = W9.heap[w.heap.size]? := (hgrow1.block w.heap.size (by simp; omega) hnd).trans (Below.heap_alloc W9 _ w.heap.size hd0)
            have p6 : w1.cell? ⟨w.heap.size, 2, none⟩ = some (.slice aN nN cN) := (World.cell?_of_block (a := ⟨w.heap.size, 2, none⟩) e10).trans c0
            have pf6 : w1.frozen? ⟨w.heap.size, 2, none⟩ = false := (World.frozen?_of_block (a := ⟨w.heap.size, 2, none⟩) e10).trans f0
            clear e10
            have pl6 : w.heap.size < w1.heap.size := by (have := hgrow1.size; simp at this; omega)
            obtain ⟨ad6, n6, cap6, rfl⟩ := ownsRow_sl hown1
            have H6 : Hid (PnI w ls (n + 1) (n + 1) (n + 1) (w1.setCell ⟨w.heap.size, 2, none⟩ (.slice ad6 n6 cap6)) (.slice aL8 nL8 cL8) (.slice ad5 n5 cap5) (.slice ad6 n6 cap6)) := h6
            clear h6
            go_wp2_with fail
            go_roundw
            case rel => exact ⟨n + 1, _, _, _, by omega, by go_num, H6.out⟩
            case measure => simp [intOf]; omega
          · go_simp
            refine Calls.mono (HCb.out _ HB0.out.2) ?_
            rintro e w2 ⟨u2, rfl, ho2, hb2⟩
            obtain ⟨ad2, n2, cap2, rfl⟩ := ownsRow_sl ho2
            have c2 : w2.cell? ⟨w.heap.size, 1, none⟩ = some (.slice aS nS cS) := (hb2.cell HB0.out.1).trans c0
            have H2 : Hid (Ow w2 W8.drew.heap.size (.slice ad2 n2 cap2) (ls.getD n []) ∧ Below W8.drew.heap.size W8.drew w2) := ⟨ho2, hb2⟩
            refine hK.out _ _ trivial (fun hHeld => ?_)
            clear hK K ho2 hb2
            (try dsimp only); (try simp only [Act.put, List.setIfInBounds_toArray, List.set_cons_zero, List.set_cons_succ])
            refine wpAnyH_ready (rs := [4, 7]) (by kernel_rfl) (by simp) ?_
            refine AllReadyH.cons (o := ⟨some 34, _, _, _, _, _⟩) rfl (fun K hK => ?_) (AllReadyH.cons (o := ⟨some 37, _, _, _, _, _⟩) rfl (fun K hK => ?_) AllReadyH.nil)
            · go_simp
              refine hK.out _ _ trivial (fun hHeld => ?_)
              clear hK K
              (try dsimp only); (try simp only [Act.put, List.setIfInBounds_toArray, List.set_cons_zero, List.set_cons_succ])
              refine wpAnyH_ready (rs := [7]) (by kernel_rfl) (by simp) ?_
              refine AllReadyH.cons (o := ⟨some 37, _, _, _, _, _⟩) rfl (fun K hK => ?_) AllReadyH.nil
              go_simp
              refine hK.out _ _ trivial (fun hHeld => ?_)
              clear hK K
              have c3 : (w2.alloc (.cells #[.slice ad2 n2 cap2] 37)).cell? ⟨w.heap.size, 1, none⟩ = some (.slice aS nS cS) := by rw [← c2]; exact World.cell?_of_block (Below.heap_alloc w2 _ _ (Nat.lt_of_lt_of_le HB0.out.1 H2.out.2.size))
              (try dsimp only); (try simp only [Act.put, List.setIfInBounds_toArray, List.set_cons_zero, List.set_cons_succ])
              refine wpAnyH_ready (rs := [8]) (by kernel_rfl) (by simp) ?_
              refine AllReadyH.cons (o := ⟨some 38, _, _, _, _, _⟩) rfl (fun K hK => ?_) AllReadyH.nil
              refine step_append_own9 rfl _ _ 22 22 rfl w.heap.size 37 i0 (.slice none 0 0) 1 24 Try.underlying22 HI.out.1 HI.out.2.1 HI.out.2.2.1 HI.out.2.2.2 rfl (.slice aS nS cS) (.slice (some ⟨w2.heap.size, 0, none⟩) 1 1) ps.length (ps.map Prod.snd) 1 [.slice ad2 n2 cap2] rfl rfl ((owns_below9 HP.out.row H2.out.2).alloc _) (one_row (Bk.new w2 _ _) rfl) (by have := HP.out.len; unfold maxLen; omega) (by have := HP.out.len; omega) (by have := H2.out.2.size; have := HB0.out.1; simp; omega) ?_
              intro v5 w5 ho5 hg5 hs5
              have h5 := (PnI.safeStep (W := W8.drew) (HIw.out.drew) H2.out.2 H2.out.1 HP.out.eq HP.out.row HP.out.own ho5 hg5 hs5)
              obtain ⟨ad5, n5, cap5, rfl⟩ := ownsRow_sl ho5
              have H5 : Hid (PnI w ls (n + 1) (n + 1) n (w5.setCell ⟨w.heap.size, 1, none⟩ (.slice ad5 n5 cap5)) (.slice aL8 nL8 cL8) (.slice ad5 n5 cap5) (.slice aN nN cN)) := h5
              have p5 : w5.cell? ⟨w.heap.size, 1, none⟩ = some (.slice aS nS cS) := by rw [← c3]; exact World.cell?_of_block (hg5.block _ (by have := H2.out.2.size; have := HB0.out.1; simp; omega) HB0r.out)
              have pf5 : w5.frozen? ⟨w.heap.size, 1, none⟩ = false := World.frozen?_of_block (hg5.block _ (by have := H2.out.2.size; have := HB0.out.1; simp; omega) HB0r.out) |>.trans (World.frozen?_of_block (Below.heap_alloc w2 _ _ (Nat.lt_of_lt_of_le HB0.out.1 H2.out.2.size)) |>.trans (World.frozen?_of_block (H2.out.2.block _ HB0.out.1) |>.trans f0))
              have pl5 : w.heap.size < w5.heap.size := by have := hg5.size; have := H2.out.2.size; have := HB0.out.1; simp at *; omega
              refine hK.out _ _ trivial (fun hHeld => ?_)
              clear hK K ho5 hg5 hs5 h5 c2 c3 H2
              (try dsimp only); (try simp only [Act.put, List.setIfInBounds_toArray, List.set_cons_zero, List.set_cons_succ])
              refine wpAnyH_take (i := 9) (oi := ⟨some 39, _, _, _, _, _⟩) (v := ?_) rfl (by kernel_rfl) (by kernel_rfl) (by kernel_rfl) (fun _ _ _ h => h) (Or.inl ⟨by rfl, ?_⟩) (by assumption) ?_
              rotate_left
              · (intro w hSw; (try dsimp only at hSw); go_simp; try (with_reducible rfl))
              (try dsimp only); (try simp only [Act.put, List.setIfInBounds_toArray, List.set_cons_zero, List.set_cons_succ])
              refine wpAnyH_take (i := 10) (oi := ⟨some 40, _, _, _, _, _⟩) (v := ?_) rfl (by kernel_rfl) (by kernel_rfl) (by kernel_rfl) (fun _ _ _ h => h) (Or.inl ⟨by rfl, ?_⟩) (by assumption) ?_
              rotate_left
              · (intro w hSw; (try dsimp only at hSw); go_simp; try (with_reducible rfl))
              (try dsimp only); (try simp only [Act.put, List.setIfInBounds_toArray, List.set_cons_zero, List.set_cons_succ])
              refine wpAnyH_ready (rs := [11]) (by kernel_rfl) (by simp) ?_
              refine AllReadyH.cons (o := ⟨none, _, _, _, _, _⟩) rfl (fun K hK => ?_) AllReadyH.nil
              go_simp
              refine hK.out _ _ trivial (fun hHeld => ?_)
              clear hK K p5 pf5 pl5
              (try dsimp only); (try simp only [Act.put, List.setIfInBounds_toArray, List.set_cons_zero, List.set_cons_succ])
              refine wpAnyH_done (by kernel_rfl) ?_ _
              refine NoPanic.normal ?_
              generalize w5.setCell ⟨w.heap.size, 1, none⟩ (.slice ad5 n5 cap5) = W9 at *
              clear HIw HP HB0 HB0r c0 f0 hHeld
              have c0 := H5.out.blk.cell 2
              have f0 := H5.out.blk.frozen 2
              have hd0 := H5.out.dlt
              have hb9 := H5.out.bel
              simp only [List.getElem?_toArray, List.getElem?_cons_zero, List.getElem?_cons_succ] at c0
              have hnew := H5.out.new
              have hnd := H5.out.newNe
              go_wp2_with (at_builtin; refine stop9 ?_)
              unfold Hold9
              refine wpList_append_own _ rfl _ _ 99 rfl w.heap.size 110 j0 (.slice none 0 0) 1 24 Try.underlying99 hj hj0 hj1 hj2 rfl (by decide) _ n _ rfl (hnew.alloc _) ⟨W9.heap.size, 0, none⟩ 1 1 [.slice none 0 0] rfl rfl (cell_one_new _ _ _) (by simp [Value.oneCell']) (by unfold maxLen; omega) (by omega) (by have := hd0; simp; omega) ?_
              intro v1 w1 hown1 hgrow1 hnil1
              have h6 := PnI.newStep H5.out hown1 hgrow1
              have e10 : w1.heap[w.heap.size]? = W9.heap[w.heap.size]? := (hgrow1.block w.heap.size (by simp; omega) hnd).trans (Below.heap_alloc W9 _ w.heap.size hd0)
              have p6 : w1.cell? ⟨w.heap.size, 2, none⟩ = some (.slice aN nN cN) := (World.cell?_of_block (a := ⟨w.heap.size, 2, none⟩) e10).trans c0
              have pf6 : w1.frozen? ⟨w.heap.size, 2, none⟩ = false := (World.frozen?_of_block (a := ⟨w.heap.size, 2, none⟩) e10).trans f0
              clear e10
              have pl6 : w.heap.size < w1.heap.size := by (have := hgrow1.size; simp at this; omega)
              obtain ⟨ad6, n6, cap6, rfl⟩ := ownsRow_sl hown1
              have H6 : Hid (PnI w ls (n + 1) (n + 1) (n + 1) (w1.setCell ⟨w.heap.size, 2, none⟩ (.slice ad6 n6 cap6)) (.slice aL8 nL8 cL8) (.slice ad5 n5 cap5) (.slice ad6 n6 cap6)) := h6
              clear h6
              go_wp2_with fail
              go_roundw
              case rel => exact ⟨n + 1, _, _, _, by omega, by go_num, H6.out⟩
              case measure => simp [intOf]; omega
            · go_simp
              refine hK.out _ _ trivial (fun hHeld => ?_)
              clear hK K
              have c3 : (w2.alloc (.cells #[.slice ad2 n2 cap2] 37)).cell? ⟨w.heap.size, 1, none⟩ = some (.slice aS nS cS) := by rw [← c2]; exact World.cell?_of_block (Below.heap_alloc w2 _ _ (Nat.lt_of_lt_of_le HB0.out.1 H2.out.2.size))
              (try dsimp only); (try simp only [Act.put, List.setIfInBounds_toArray, List.set_cons_zero, List.set_cons_succ])
              refine wpAnyH_ready (rs := [4]) (by kernel_rfl) (by simp) ?_
              refine AllReadyH.cons (o := ⟨some 34, _, _, _, _, _⟩) rfl (fun K hK => ?_) AllReadyH.nil
              go_simp
              refine hK.out _ _ trivial (fun hHeld => ?_)
              clear hK K
              (try dsimp only); (try simp only [Act.put, List.setIfInBounds_toArray, List.set_cons_zero, List.set_cons_succ])
              refine wpAnyH_ready (rs := [8]) (by kernel_rfl) (by simp) ?_
              refine AllReadyH.cons (o := ⟨some 38, _, _, _, _, _⟩) rfl (fun K hK => ?_) AllReadyH.nil
              refine step_append_own9 rfl _ _ 22 22 rfl w.heap.size 37 i0 (.slice none 0 0) 1 24 Try.underlying22 HI.out.1 HI.out.2.1 HI.out.2.2.1 HI.out.2.2.2 rfl (.slice aS nS cS) (.slice (some ⟨w2.heap.size, 0, none⟩) 1 1) ps.length (ps.map Prod.snd) 1 [.slice ad2 n2 cap2] rfl rfl ((owns_below9 HP.out.row H2.out.2).alloc _) (one_row (Bk.new w2 _ _) rfl) (by have := HP.out.len; unfold maxLen; omega) (by have := HP.out.len; omega) (by have := H2.out.2.size; have := HB0.out.1; simp; omega) ?_
              intro v5 w5 ho5 hg5 hs5
              have h5 := (PnI.safeStep (W := W8.drew) (HIw.out.drew) H2.out.2 H2.out.1 HP.out.eq HP.out.row HP.out.own ho5 hg5 hs5)
              obtain ⟨ad5, n5, cap5, rfl⟩ := ownsRow_sl ho5
              have H5 : Hid (PnI w ls (n + 1) (n + 1) n (w5.setCell ⟨w.heap.size, 1, none⟩ (.slice ad5 n5 cap5)) (.slice aL8 nL8 cL8) (.slice ad5 n5 cap5) (.slice aN nN cN)) := h5
              have p5 : w5.cell? ⟨w.heap.size, 1, none⟩ = some (.slice aS nS cS) := by rw [← c3]; exact World.cell?_of_block (hg5.block _ (by have := H2.out.2.size; have := HB0.out.1; simp; omega) HB0r.out)
              have pf5 : w5.frozen? ⟨w.heap.size, 1, none⟩ = false := World.frozen?_of_block (hg5.block _ (by have := H2.out.2.size; have := HB0.out.1; simp; omega) HB0r.out) |>.trans (World.frozen?_of_block (Below.heap_alloc w2 _ _ (Nat.lt_of_lt_of_le HB0.out.1 H2.out.2.size)) |>.trans (World.frozen?_of_block (H2.out.2.block _ HB0.out.1) |>.trans f0))
              have pl5 : w.heap.size < w5.heap.size := by have := hg5.size; have := H2.out.2.size; have := HB0.out.1; simp at *; omega
              refine hK.out _ _ trivial (fun hHeld => ?_)
              clear hK K ho5 hg5 hs5 h5 c2 c3 H2
              (try dsimp only); (try simp only [Act.put, List.setIfInBounds_toArray, List.set_cons_zero, List.set_cons_succ])
              refine wpAnyH_take (i := 9) (oi := ⟨some 39, _, _, _, _, _⟩) (v := ?_) rfl (by kernel_rfl) (by kernel_rfl) (by kernel_rfl) (fun _ _ _ h => h) (Or.inl ⟨by rfl, ?_⟩) (by assumption) ?_
              rotate_left
              · (intro w hSw; (try dsimp only at hSw); go_simp; try (with_reducible rfl))
              (try dsimp only); (try simp only [Act.put, List.setIfInBounds_toArray, List.set_cons_zero, List.set_cons_succ])
              refine wpAnyH_take (i := 10) (oi := ⟨some 40, _, _, _, _, _⟩) (v := ?_) rfl (by kernel_rfl) (by kernel_rfl) (by kernel_rfl) (fun _ _ _ h => h) (Or.inl ⟨by rfl, ?_⟩) (by assumption) ?_
              rotate_left
              · (intro w hSw; (try dsimp only at hSw); go_simp; try (with_reducible rfl))
              (try dsimp only); (try simp only [Act.put, List.setIfInBounds_toArray, List.set_cons_zero, List.set_cons_succ])
              refine wpAnyH_ready (rs := [11]) (by kernel_rfl) (by simp) ?_
              refine AllReadyH.cons (o := ⟨none, _, _, _, _, _⟩) rfl (fun K hK => ?_) AllReadyH.nil
              go_simp
              refine hK.out _ _ trivial (fun hHeld => ?_)
              clear hK K p5 pf5 pl5
              (try dsimp only); (try simp only [Act.put, List.setIfInBounds_toArray, List.set_cons_zero, List.set_cons_succ])
              refine wpAnyH_done (by kernel_rfl) ?_ _
              refine NoPanic.normal ?_
              generalize w5.setCell ⟨w.heap.size, 1, none⟩ (.slice ad5 n5 cap5) = W9 at *
              clear HIw HP HB0 HB0r c0 f0 hHeld
              have c0 := H5.out.blk.cell 2
              have f0 := H5.out.blk.frozen 2
              have hd0 := H5.out.dlt
              have hb9 := H5.out.bel
              simp only [List.getElem?_toArray, List.getElem?_cons_zero, List.getElem?_cons_succ] at c0
              have hnew := H5.out.new
              have hnd := H5.out.newNe
              go_wp2_with (at_builtin; refine stop9 ?_)
              unfold Hold9
              refine wpList_append_own _ rfl _ _ 99 rfl w.heap.size 110 j0 (.slice none 0 0) 1 24 Try.underlying99 hj hj0 hj1 hj2 rfl (by decide) _ n _ rfl (hnew.alloc _) ⟨W9.heap.size, 0, none⟩ 1 1 [.slice none 0 0] rfl rfl (cell_one_new _ _ _) (by simp [Value.oneCell']) (by unfold maxLen; omega) (by omega) (by have := hd0; simp; omega) ?_
              intro v1 w1 hown1 hgrow1 hnil1
              have h6 := PnI.newStep H5.out hown1 hgrow1
              have e10 : w1.heap[w.heap.size]? = W9.heap[w.heap.size]? := (hgrow1.block w.heap.size (by simp; omega) hnd).trans (Below.heap_alloc W9 _ w.heap.size hd0)
              have p6 : w1.cell? ⟨w.heap.size, 2, none⟩ = some (.slice aN nN cN) := (World.cell?_of_block (a := ⟨w.heap.size, 2, none⟩) e10).trans c0
              have pf6 : w1.frozen? ⟨w.heap.size, 2, none⟩ = false := (World.frozen?_of_block (a := ⟨w.heap.size, 2, none⟩) e10).trans f0
              clear e10
              have pl6 : w.heap.size < w1.heap.size := by (have := hgrow1.size; simp at this; omega)
              obtain ⟨ad6, n6, cap6, rfl⟩ := ownsRow_sl hown1
              have H6 : Hid (PnI w ls (n + 1) (n + 1) (n + 1) (w1.setCell ⟨w.heap.size, 2, none⟩ (.slice ad6 n6 cap6)) (.slice aL8 nL8 cL8) (.slice ad5 n5 cap5) (.slice ad6 n6 cap6)) := h6
              clear h6
              go_wp2_with fail
              go_roundw
              case rel => exact ⟨n + 1, _, _, _, by omega, by go_num, H6.out⟩
              case measure => simp [intOf]; omega
        · go_simp
          refine Calls.mono (HCb.out _ HB0.out.2) ?_
          rintro e w2 ⟨u2, rfl, ho2, hb2⟩
          obtain ⟨ad2, n2, cap2, rfl⟩ := ownsRow_sl ho2
          have c2 : w2.cell? ⟨w.heap.size, 0, none⟩ = some (.slice aL nL cL) := (hb2.cell HB0.out.1).trans c0
          have H2 : Hid (Ow w2 wr.drew.heap.size (.slice ad2 n2 cap2) (ls.getD n []) ∧ Below wr.drew.heap.size wr.drew w2) := ⟨ho2, hb2⟩
          refine hK.out _ _ trivial (fun hHeld => ?_)
          clear hK K ho2 hb2
          (try dsimp only); (try simp only [Act.put, List.setIfInBounds_toArray, List.set_cons_zero, List.set_cons_succ])
          refine wpAnyH_ready (rs := [4, 7]) (by kernel_rfl) (by simp) ?_
          refine AllReadyH.cons (o := ⟨some 23, _, _, _, _, _⟩) rfl (fun K hK => ?_) (AllReadyH.cons (o := ⟨some 26, _, _, _, _, _⟩) rfl (fun K hK => ?_) AllReadyH.nil)
          · go_simp
            refine hK.out _ _ trivial (fun hHeld => ?_)
            clear hK K
            (try dsimp only); (try simp only [Act.put, List.setIfInBounds_toArray, List.set_cons_zero, List.set_cons_succ])
            refine wpAnyH_ready (rs := [7]) (by kernel_rfl) (by simp) ?_
            refine AllReadyH.cons (o := ⟨some 26, _, _, _, _, _⟩) rfl (fun K hK => ?_) AllReadyH.nil
            go_simp
            refine hK.out _ _ trivial (fun hHeld => ?_)
            clear hK K
            have c3 : (w2.alloc (.cells #[.slice ad2 n2 cap2] 37)).cell? ⟨w.heap.size, 0, none⟩ = some (.slice aL nL cL) := by rw [← c2]; exact World.cell?_of_block (Below.heap_alloc w2 _ _ (Nat.lt_of_lt_of_le HB0.out.1 H2.out.2.size))
            (try dsimp only); (try simp only [Act.put, List.setIfInBounds_toArray, List.set_cons_zero, List.set_cons_succ])
            refine wpAnyH_ready (rs := [8]) (by kernel_rfl) (by simp) ?_
            refine AllReadyH.cons (o := ⟨some 27, _, _, _, _, _⟩) rfl (fun K hK => ?_) AllReadyH.nil
            refine step_append_own9 rfl _ _ 22 22 rfl w.heap.size 37 i0 (.slice none 0 0) 1 24 Try.underlying22 HI.out.1 HI.out.2.1 HI.out.2.2.1 HI.out.2.2.2 rfl (.slice aL nL cL) (.slice (some ⟨w2.heap.size, 0, none⟩) 1 1) ps.length (ps.map Prod.snd) 1 [.slice ad2 n2 cap2] rfl rfl ((owns_below9 HP.out.row H2.out.2).alloc _) (one_row (Bk.new w2 _ _) rfl) (by have := HP.out.len; unfold maxLen; omega) (by have := HP.out.len; omega) (by have := H2.out.2.size; have := HB0.out.1; simp; omega) ?_
            intro v5 w5 ho5 hg5 hs5
            have h5 := (PnI.liveStep (W := wr.drew) (HIw.out.drew) H2.out.2 H2.out.1 HP.out.eq HP.out.row HP.out.own ho5 hg5 hs5)
            obtain ⟨ad5, n5, cap5, rfl⟩ := ownsRow_sl ho5
            have H5 : Hid (PnI w ls (n + 1) n n (w5.setCell ⟨w.heap.size, 0, none⟩ (.slice ad5 n5 cap5)) (.slice ad5 n5 cap5) (.slice aS nS cS) (.slice aN nN cN)) := h5
            have p5 : w5.cell? ⟨w.heap.size, 0, none⟩ = some (.slice aL nL cL) := by rw [← c3]; exact World.cell?_of_block (hg5.block _ (by have := H2.out.2.size; have := HB0.out.1; simp; omega) HB0r.out)
            have pf5 : w5.frozen? ⟨w.heap.size, 0, none⟩ = false := World.frozen?_of_block (hg5.block _ (by have := H2.out.2.size; have := HB0.out.1; simp; omega) HB0r.out) |>.trans (World.frozen?_of_block (Below.heap_alloc w2 _ _ (Nat.lt_of_lt_of_le HB0.out.1 H2.out.2.size)) |>.trans (World.frozen?_of_block (H2.out.2.block _ HB0.out.1) |>.trans f0))
            have pl5 : w.heap.size < w5.heap.size := by have := hg5.size; have := H2.out.2.size; have := HB0.out.1; simp at *; omega
            refine hK.out _ _ trivial (fun hHeld => ?_)
            clear hK K ho5 hg5 hs5 h5 c2 c3 H2
            (try dsimp only); (try simp only [Act.put, List.setIfInBounds_toArray, List.set_cons_zero, List.set_cons_succ])
            refine wpAnyH_take (i := 9) (oi := ⟨some 28, _, _, _, _, _⟩) (v := ?_) rfl (by kernel_rfl) (by kernel_rfl) (by kernel_rfl) (fun _ _ _ h => h) (Or.inl ⟨by rfl, ?_⟩) (by assumption) ?_
            rotate_left
            · (intro w hSw; (try dsimp only at hSw); go_simp; try (with_reducible rfl))
            (try dsimp only); (try simp only [Act.put, List.setIfInBounds_toArray, List.set_cons_zero, List.set_cons_succ])
            refine wpAnyH_take (i := 10) (oi := ⟨some 29, _, _, _, _, _⟩) (v := ?_) rfl (by kernel_rfl) (by kernel_rfl) (by kernel_rfl) (fun _ _ _ h => h) (Or.inl ⟨by rfl, ?_⟩) (by assumption) ?_
            rotate_left
            · (intro w hSw; (try dsimp only at hSw); go_simp; try (with_reducible rfl))
            (try dsimp only); (try simp only [Act.put, List.setIfInBounds_toArray, List.set_cons_zero, List.set_cons_succ])
            refine wpAnyH_ready (rs := [11]) (by kernel_rfl) (by simp) ?_
            refine AllReadyH.cons (o := ⟨none, _, _, _, _, _⟩) rfl (fun K hK => ?_) AllReadyH.nil
            go_simp
            refine hK.out _ _ trivial (fun hHeld => ?_)
            clear hK K p5 pf5 pl5
            (try dsimp only); (try simp only [Act.put, List.setIfInBounds_toArray, List.set_cons_zero, List.set_cons_succ])
            refine wpAnyH_done (by kernel_rfl) ?_ _
            refine NoPanic.normal ?_
            generalize hW8 : w5.setCell ⟨w.heap.size, 0, none⟩ (.slice ad5 n5 cap5) = W8 at *
            generalize ad5 = aL8 at *
            generalize n5 = nL8 at *
            generalize cap5 = cL8 at *
            clear hW8 HIw HP HB0 HB0r c0 f0 hHeld
            have HIw : Hid (PnI w ls (n + 1) n n W8 (.slice aL8 nL8 cL8) (.slice aS nS cS) (.slice aN nN cN)) := H5.out
            clear H5
            have c0 : W8.drew.cell? ⟨w.heap.size, 1, none⟩ = some (.slice aS nS cS) := HIw.out.blk.cell 1
            have f0 : W8.drew.frozen? ⟨w.heap.size, 1, none⟩ = false := HIw.out.blk.frozen 1
            have HB0 : Hid (w.heap.size < W8.drew.heap.size ∧ Below w.heap.size w W8.drew) := ⟨HIw.out.dlt, HIw.out.bel.drew⟩
            have HB0r : Hid (some w.heap.size ≠ (Value.slice aS nS cS).ownBlock) := HIw.out.safeNe
            obtain ⟨ps, hps⟩ := lc_ps HIw.out.safr hn8
            have HP : Hid (Ps9 W8.drew w.heap.size (.slice aS nS cS) (pr8 ls n) ps n) := hps.drew
            clear hps
            go_upto_region 9 with fail
            refine wp_region_noPanic ?_
            refine wp_region_held_drew (S := fun _ => True) (by kernel_rfl) ?_ (fun hHeld => ?_)
            · ((try dsimp only); skip)
            (try dsimp only at hHeld)
            refine wpAnyH_take (i := 0) (oi := ⟨some 30, _, _, _, _, _⟩) (v := ?_) rfl (by kernel_rfl) (by kernel_rfl) (by kernel_rfl) (fun _ _ _ h => h) (Or.inl ⟨by rfl, ?_⟩) (by assumption) ?_
            rotate_left
            · (intro w hSw; (try dsimp only at hSw); go_simp; try (with_reducible rfl))
            (try dsimp only); (try simp only [Act.put, List.setIfInBounds_toArray, List.set_cons_zero, List.set_cons_succ])
            refine wpAnyH_take (i := 1) (oi := ⟨some 31, _, _, _, _, _⟩) (v := ?_) rfl (by kernel_rfl) (by kernel_rfl) (by kernel_rfl) (fun _ _ _ h => h) (Or.inl ⟨by rfl, ?_⟩) (by assumption) ?_
            rotate_left
            · (intro w hSw; (try dsimp only at hSw); go_simp; try (with_reducible rfl))
            (try dsimp only); (try simp only [Act.put, List.setIfInBounds_toArray, List.set_cons_zero, List.set_cons_succ])
            refine wpAnyH_take (i := 2) (oi := ⟨some 32, _, _, _, _, _⟩) (v := ?_) rfl (by kernel_rfl) (by kernel_rfl) (by kernel_rfl) (fun _ _ _ h => h) (Or.inl ⟨by rfl, ?_⟩) (by assumption) ?_
            rotate_left
            · (intro w hSw; (try dsimp only at hSw); go_simp; try (with_reducible rfl))
            (try dsimp only); (try simp only [Act.put, List.setIfInBounds_toArray, List.set_cons_zero, List.set_cons_succ])
            refine wpAnyH_take (i := 3) (oi := ⟨some 33, _, _, _, _, _⟩) (v := ?_) rfl (by kernel_rfl) (by kernel_rfl) (by kernel_rfl) (fun _ _ _ h => h) (Or.inl ⟨by rfl, ?_⟩) (by assumption) ?_
            rotate_left
            · (intro w hSw; (try dsimp only at hSw); go_simp; try (with_reducible rfl))
            (try dsimp only); (try simp only [Act.put, List.setIfInBounds_toArray, List.set_cons_zero, List.set_cons_succ])
            refine wpAnyH_take (i := 5) (oi := ⟨some 35, _, _, _, _, _⟩) (v := ?_) rfl (by kernel_rfl) (by kernel_rfl) (by kernel_rfl) (fun _ _ _ h => h) (Or.inl ⟨by rfl, ?_⟩) (by assumption) ?_
            rotate_left
            · (intro w hSw; (try dsimp only at hSw); go_simp; try (with_reducible rfl))
            (try dsimp only); (try simp only [Act.put, List.setIfInBounds_toArray, List.set_cons_zero, List.set_cons_succ])
            refine wpAnyH_ready (rs := [4, 6]) (by kernel_rfl) (by simp) ?_
            refine AllReadyH.cons (o := ⟨some 34, _, _, _, _, _⟩) rfl (fun K hK => ?_) (AllReadyH.cons (o := ⟨some 36, _, _, _, _, _⟩) rfl (fun K hK => ?_) AllReadyH.nil)
            · go_simp
              refine hK.out _ _ trivial (fun hHeld => ?_)
              clear hK K
              (try dsimp only); (try simp only [Act.put, List.setIfInBounds_toArray, List.set_cons_zero, List.set_cons_succ])
              refine wpAnyH_ready (rs := [6]) (by kernel_rfl) (by simp) ?_
              refine AllReadyH.cons (o := ⟨some 36, _, _, _, _, _⟩) rfl (fun K hK => ?_) AllReadyH.nil
              go_simp
              refine Calls.mono (HCb.out _ HB0.out.2) ?_
              rintro e w2 ⟨u2, rfl, ho2, hb2⟩
              obtain ⟨ad2, n2, cap2, rfl⟩ := ownsRow_sl ho2
              have c2 : w2.cell? ⟨w.heap.size, 1, none⟩ = some (.slice aS nS cS) := (hb2.cell HB0.out.1).trans c0
              have H2 : Hid (Ow w2 W8.drew.heap.size (.slice ad2 n2 cap2) (ls.getD n []) ∧ Below W8.drew.heap.size W8.drew w2) := ⟨ho2, hb2⟩
              refine hK.out _ _ trivial (fun hHeld => ?_)
              clear hK K ho2 hb2
              (try dsimp only); (try simp only [Act.put, List.setIfInBounds_toArray, List.set_cons_zero, List.set_cons_succ])
              refine wpAnyH_ready (rs := [7]) (by kernel_rfl) (by simp) ?_
              refine AllReadyH.cons (o := ⟨some 37, _, _, _, _, _⟩) rfl (fun K hK => ?_) AllReadyH.nil
              go_simp
              refine hK.out _ _ trivial (fun hHeld => ?_)
              clear hK K
              have c3 : (w2.alloc (.cells #[.slice ad2 n2 cap2] 37)).cell? ⟨w.heap.size, 1, none⟩ = some (.slice aS nS cS) := by rw [← c2]; exact World.cell?_of_block (Below.heap_alloc w2 _ _ (Nat.lt_of_lt_of_le HB0.out.1 H2.out.2.size))
              (try dsimp only); (try simp only [Act.put, List.setIfInBounds_toArray, List.set_cons_zero, List.set_cons_succ])
              refine wpAnyH_ready (rs := [8]) (by kernel_rfl) (by simp) ?_
              refine AllReadyH.cons (o := ⟨some 38, _, _, _, _, _⟩) rfl (fun K hK => ?_) AllReadyH.nil
              refine step_append_own9 rfl _ _ 22 22 rfl w.heap.size 37 i0 (.slice none 0 0) 1 24 Try.underlying22 HI.out.1 HI.out.2.1 HI.out.2.2.1 HI.out.2.2.2 rfl (.slice aS nS cS) (.slice (some ⟨w2.heap.size, 0, none⟩) 1 1) ps.length (ps.map Prod.snd) 1 [.slice ad2 n2 cap2] rfl rfl ((owns_below9 HP.out.row H2.out.2).alloc _) (one_row (Bk.new w2 _ _) rfl) (by have := HP.out.len; unfold maxLen; omega) (by have := HP.out.len; omega) (by have := H2.out.2.size; have := HB0.out.1; simp; omega) ?_
              intro v5 w5 ho5 hg5 hs5
              have h5 := (PnI.safeStep (W := W8.drew) (HIw.out.drew) H2.out.2 H2.out.1 HP.out.eq HP.out.row HP.out.own ho5 hg5 hs5)
              obtain ⟨ad5, n5, cap5, rfl⟩ := ownsRow_sl ho5
              have H5 : Hid (PnI w ls (n + 1) (n + 1) n (w5.setCell ⟨w.heap.size, 1, none⟩ (.slice ad5 n5 cap5)) (.slice aL8 nL8 cL8) (.slice ad5 n5 cap5) (.slice aN nN cN)) := h5
              have p5 : w5.cell? ⟨w.heap.size, 1, none⟩ = some (.slice aS nS cS) := by rw [← c3]; exact World.cell?_of_block (hg5.block _ (by have := H2.out.2.size; have := HB0.out.1; simp; omega) HB0r.out)
              have pf5 : w5.frozen? ⟨w.heap.size, 1, none⟩ = false := World.frozen?_of_block (hg5.block _ (by have := H2.out.2.size; have := HB0.out.1; simp; omega) HB0r.out) |>.trans (World.frozen?_of_block (Below.heap_alloc w2 _ _ (Nat.lt_of_lt_of_le HB0.out.1 H2.out.2.size)) |>.trans (World.frozen?_of_block (H2.out.2.block _ HB0.out.1) |>.trans f0))
              have pl5 : w.heap.size < w5.heap.size := by have := hg5.size; have := H2.out.2.size; have := HB0.out.1; simp at *; omega
              refine hK.out _ _ trivial (fun hHeld => ?_)
              clear hK K ho5 hg5 hs5 h5 c2 c3 H2
              (try dsimp only); (try simp only [Act.put, List.setIfInBounds_toArray, List.set_cons_zero, List.set_cons_succ])
              refine wpAnyH_take (i := 9) (oi := ⟨some 39, _, _, _, _, _⟩) (v := ?_) rfl (by kernel_rfl) (by kernel_rfl) (by kernel_rfl) (fun _ _ _ h => h) (Or.inl ⟨by rfl, ?_⟩) (by assumption) ?_
              rotate_left
              · (intro w hSw; (try dsimp only at hSw); go_simp; try (with_reducible rfl))
              (try dsimp only); (try simp only [Act.put, List.setIfInBounds_toArray, List.set_cons_zero, List.set_cons_succ])
              refine wpAnyH_take (i := 10) (oi := ⟨some 40, _, _, _, _, _⟩) (v := ?_) rfl (by kernel_rfl) (by kernel_rfl) (by kernel_rfl) (fun _ _ _ h => h) (Or.inl ⟨by rfl, ?_⟩) (by assumption) ?_
              rotate_left
              · (intro w hSw; (try dsimp only at hSw); go_simp; try (with_reducible rfl))
              (try dsimp only); (try simp only [Act.put, List.setIfInBounds_toArray, List.set_cons_zero, List.set_cons_succ])
              refine wpAnyH_ready (rs := [11]) (by kernel_rfl) (by simp) ?_
              refine AllReadyH.cons (o := ⟨none, _, _, _, _, _⟩) rfl (fun K hK => ?_) AllReadyH.nil
              go_simp
              refine hK.out _ _ trivial (fun hHeld => ?_)
              clear hK K p5 pf5 pl5
              (try dsimp only); (try simp only [Act.put, List.setIfInBounds_toArray, List.set_cons_zero, List.set_cons_succ])
              refine wpAnyH_done (by kernel_rfl) ?_ _
              refine NoPanic.normal ?_
              generalize w5.setCell ⟨w.heap.size, 1, none⟩ (.slice ad5 n5 cap5) = W9 at *
              clear HIw HP HB0 HB0r c0 f0 hHeld
              have c0 := H5.out.blk.cell 2
              have f0 := H5.out.blk.frozen 2
              have hd0 := H5.out.dlt
              have hb9 := H5.out.bel
              simp only [List.getElem?_toArray, List.getElem?_cons_zero, List.getElem?_cons_succ] at c0
              have hnew := H5.out.new
              have hnd := H5.out.newNe
              go_wp2_with (at_builtin; refine stop9 ?_)
              unfold Hold9
              refine wpList_append_own _ rfl _ _ 99 rfl w.heap.size 110 j0 (.slice none 0 0) 1 24 Try.underlying99 hj hj0 hj1 hj2 rfl (by decide) _ n _ rfl (hnew.alloc _) ⟨W9.heap.size, 0, none⟩ 1 1 [.slice none 0 0] rfl rfl (cell_one_new _ _ _) (by simp [Value.oneCell']) (by unfold maxLen; omega) (by omega) (by have := hd0; simp; omega) ?_
              intro v1 w1 hown1 hgrow1 hnil1
              have h6 := PnI.newStep H5.out hown1 hgrow1
              have e10 : w1.heap[w.heap.size]? = W9.heap[w.heap.size]? := (hgrow1.block w.heap.size (by simp; omega) hnd).trans (Below.heap_alloc W9 _ w.heap.size hd0)
              have p6 : w1.cell? ⟨w.heap.size, 2, none⟩ = some (.slice aN nN cN) := (World.cell?_of_block (a := ⟨w.heap.size, 2, none⟩) e10).trans c0
              have pf6 : w1.frozen? ⟨w.heap.size, 2, none⟩ = false := (World.frozen?_of_block (a := ⟨w.heap.size, 2, none⟩) e10).trans f0
              clear e10
              have pl6 : w.heap.size < w1.heap.size := by (have := hgrow1.size; simp at this; omega)
              obtain ⟨ad6, n6, cap6, rfl⟩ := ownsRow_sl hown1
              have H6 : Hid (PnI w ls (n + 1) (n + 1) (n + 1) (w1.setCell ⟨w.heap.size, 2, none⟩ (.slice ad6 n6 cap6)) (.slice aL8 nL8 cL8) (.slice ad5 n5 cap5) (.slice ad6 n6 cap6)) := h6
              clear h6
              go_wp2_with fail
              go_roundw
              case rel => exact ⟨n + 1, _, _, _, by omega, by go_num, H6.out⟩
              case measure => simp [intOf]; omega
            · go_simp
              refine Calls.mono (HCb.out _ HB0.out.2) ?_
              rintro e w2 ⟨u2, rfl, ho2, hb2⟩
              obtain ⟨ad2, n2, cap2, rfl⟩ := ownsRow_sl ho2
              have c2 : w2.cell? ⟨w.heap.size, 1, none⟩ = some (.slice aS nS cS) := (hb2.cell HB0.out.1).trans c0
              have H2 : Hid (Ow w2 W8.drew.heap.size (.slice ad2 n2 cap2) (ls.getD n []) ∧ Below W8.drew.heap.size W8.drew w2) := ⟨ho2, hb2⟩
              refine hK.out _ _ trivial (fun hHeld => ?_)
              clear hK K ho2 hb2
              (try dsimp only); (try simp only [Act.put, List.setIfInBounds_toArray, List.set_cons_zero, List.set_cons_succ])
              refine wpAnyH_ready (rs := [4, 7]) (by kernel_rfl) (by simp) ?_
              refine AllReadyH.cons (o := ⟨some 34, _, _, _, _, _⟩) rfl (fun K hK => ?_) (AllReadyH.cons (o := ⟨some 37, _, _, _, _, _⟩) rfl (fun K hK => ?_) AllReadyH.nil)
              · go_simp
                refine hK.out _ _ trivial (fun hHeld => ?_)
                clear hK K
                (try dsimp only); (try simp only [Act.put, List.setIfInBounds_toArray, List.set_cons_zero, List.set_cons_succ])
                refine wpAnyH_ready (rs := [7]) (by kernel_rfl) (by simp) ?_
                refine AllReadyH.cons (o := ⟨some 37, _, _, _, _, _⟩) rfl (fun K hK => ?_) AllReadyH.nil
                go_simp
                refine hK.out _ _ trivial (fun hHeld => ?_)
                clear hK K
                have c3 : (w2.alloc (.cells #[.slice ad2 n2 cap2] 37)).cell? ⟨w.heap.size, 1, none⟩ = some (.slice aS nS cS) := by rw [← c2]; exact World.cell?_of_block (Below.heap_alloc w2 _ _ (Nat.lt_of_lt_of_le HB0.out.1 H2.out.2.size))
                (try dsimp only); (try simp only [Act.put, List.setIfInBounds_toArray, List.set_cons_zero, List.set_cons_succ])
                refine wpAnyH_ready (rs := [8]) (by kernel_rfl) (by simp) ?_
                refine AllReadyH.cons (o := ⟨some 38, _, _, _, _, _⟩) rfl (fun K hK => ?_) AllReadyH.nil
                refine step_append_own9 rfl _ _ 22 22 rfl w.heap.size 37 i0 (.slice none 0 0) 1 24 Try.underlying22 HI.out.1 HI.out.2.1 HI.out.2.2.1 HI.out.2.2.2 rfl (.slice aS nS cS) (.slice (some ⟨w2.heap.size, 0, none⟩) 1 1) ps.length (ps.map Prod.snd) 1 [.slice ad2 n2 cap2] rfl rfl ((owns_below9 HP.out.row H2.out.2).alloc _) (one_row (Bk.new w2 _ _) rfl) (by have := HP.out.len; unfold maxLen; omega) (by have := HP.out.len; omega) (by have := H2.out.2.size; have := HB0.out.1; simp; omega) ?_
                intro v5 w5 ho5 hg5 hs5
                have h5 := (PnI.safeStep (W := W8.drew) (HIw.out.drew) H2.out.2 H2.out.1 HP.out.eq HP.out.row HP.out.own ho5 hg5 hs5)
                obtain ⟨ad5, n5, cap5, rfl⟩ := ownsRow_sl ho5
                have H5 : Hid (PnI w ls (n + 1) (n + 1) n (w5.setCell ⟨w.heap.size, 1, none⟩ (.slice ad5 n5 cap5)) (.slice aL8 nL8 cL8) (.slice ad5 n5 cap5) (.slice aN nN cN)) := h5
                have p5 : w5.cell? ⟨w.heap.size, 1, none⟩ = some (.slice aS nS cS) := by rw [← c3]; exact World.cell?_of_block (hg5.block _ (by have := H2.out.2.size; have := HB0.out.1; simp; omega) HB0r.out)
                have pf5 : w5.frozen? ⟨w.heap.size, 1, none⟩ = false := World.frozen?_of_block (hg5.block _ (by have := H2.out.2.size; have := HB0.out.1; simp; omega) HB0r.out) |>.trans (World.frozen?_of_block (Below.heap_alloc w2 _ _ (Nat.lt_of_lt_of_le HB0.out.1 H2.out.2.size)) |>.trans (World.frozen?_of_block (H2.out.2.block _ HB0.out.1) |>.trans f0))
                have pl5 : w.heap.size < w5.heap.size := by have := hg5.size; have := H2.out.2.size; have := HB0.out.1; simp at *; omega
                refine hK.out _ _ trivial (fun hHeld => ?_)
                clear hK K ho5 hg5 hs5 h5 c2 c3 H2
                (try dsimp only); (try simp only [Act.put, List.setIfInBounds_toArray, List.set_cons_zero, List.set_cons_succ])
                refine wpAnyH_take (i := 9) (oi := ⟨some 39, _, _, _, _, _⟩) (v := ?_) rfl (by kernel_rfl) (by kernel_rfl) (by kernel_rfl) (fun _ _ _ h => h) (Or.inl ⟨by rfl, ?_⟩) (by assumption) ?_
                rotate_left
                · (intro w hSw; (try dsimp only at hSw); go_simp; try (with_reducible rfl))
                (try dsimp only); (try simp only [Act.put, List.setIfInBounds_toArray, List.set_cons_zero, List.set_cons_succ])
                refine wpAnyH_take (i := 10) (oi := ⟨some 40, _, _, _, _, _⟩) (v := ?_) rfl (by kernel_rfl) (by kernel_rfl) (by kernel_rfl) (fun _ _ _ h => h) (Or.inl ⟨by rfl, ?_⟩) (by assumption) ?_
                rotate_left
                · (intro w hSw; (try dsimp only at hSw); go_simp; try (with_reducible rfl))
                (try dsimp only); (try simp only [Act.put, List.setIfInBounds_toArray, List.set_cons_zero, List.set_cons_succ])
                refine wpAnyH_ready (rs := [11]) (by kernel_rfl) (by simp) ?_
                refine AllReadyH.cons (o := ⟨none, _, _, _, _, _⟩) rfl (fun K hK => ?_) AllReadyH.nil
                go_simp
                refine hK.out _ _ trivial (fun hHeld => ?_)
                clear hK K p5 pf5 pl5
                (try dsimp only); (try simp only [Act.put, List.setIfInBounds_toArray, List.set_cons_zero, List.set_cons_succ])
                refine wpAnyH_done (by kernel_rfl) ?_ _
                refine NoPanic.normal ?_
                generalize w5.setCell ⟨w.heap.size, 1, none⟩ (.slice ad5 n5 cap5) = W9 at *
                clear HIw HP HB0 HB0r c0 f0 hHeld
                have c0 := H5.out.blk.cell 2
                have f0 := H5.out.blk.frozen 2
                have hd0 := H5.out.dlt
                have hb9 := H5.out.bel
                simp only [List.getElem?_toArray, List.getElem?_cons_zero, List.getElem?_cons_succ] at c0
                have hnew := H5.out.new
                have hnd := H5.out.newNe
                go_wp2_with (at_builtin; refine stop9 ?_)
                unfold Hold9
                refine wpList_append_own _ rfl _ _ 99 rfl w.heap.size 110 j0 (.slice none 0 0) 1 24 Try.underlying99 hj hj0 hj1 hj2 rfl (by decide) _ n _ rfl (hnew.alloc _) ⟨W9.heap.size, 0, none⟩ 1 1 [.slice none 0 0] rfl rfl (cell_one_new _ _ _) (by simp [Value.oneCell']) (by unfold maxLen; omega) (by omega) (by have := hd0; simp; omega) ?_
                intro v1 w1 hown1 hgrow1 hnil1
                have h6 := PnI.newStep H5.out hown1 hgrow1
                have e10 : w1.heap[w.heap.size]? = W9.heap[w.heap.size]? := (hgrow1.block w.heap.size (by simp; omega) hnd).trans (Below.heap_alloc W9 _ w.heap.size hd0)
                have p6 : w1.cell? ⟨w.heap.size, 2, none⟩ = some (.slice aN nN cN) := (World.cell?_of_block (a := ⟨w.heap.size, 2, none⟩) e10).trans c0
                have pf6 : w1.frozen? ⟨w.heap.size, 2, none⟩ = false := (World.frozen?_of_block (a := ⟨w.heap.size, 2, none⟩) e10).trans f0
                clear e10
                have pl6 : w.heap.size < w1.heap.size := by (have := hgrow1.size; simp at this; omega)
                obtain ⟨ad6, n6, cap6, rfl⟩ := ownsRow_sl hown1
                have H6 : Hid (PnI w ls (n + 1) (n + 1) (n + 1) (w1.setCell ⟨w.heap.size, 2, none⟩ (.slice ad6 n6 cap6)) (.slice aL8 nL8 cL8) (.slice ad5 n5 cap5) (.slice ad6 n6 cap6)) := h6
                clear h6
                go_wp2_with fail
                go_roundw
                case rel => exact ⟨n + 1, _, _, _, by omega, by go_num, H6.out⟩
                case measure => simp [intOf]; omega
              · go_simp
                refine hK.out _ _ trivial (fun hHeld => ?_)
                clear hK K
                have c3 : (w2.alloc (.cells #[.slice ad2 n2 cap2] 37)).cell? ⟨w.heap.size, 1, none⟩ = some (.slice aS nS cS) := by rw [← c2]; exact World.cell?_of_block (Below.heap_alloc w2 _ _ (Nat.lt_of_lt_of_le HB0.out.1 H2.out.2.size))
                (try dsimp only); (try simp only [Act.put, List.setIfInBounds_toArray, List.set_cons_zero, List.set_cons_succ])
                refine wpAnyH_ready (rs := [4]) (by kernel_rfl) (by simp) ?_
                refine AllReadyH.cons (o := ⟨some 34, _, _, _, _, _⟩) rfl (fun K hK => ?_) AllReadyH.nil
                go_simp
                refine hK.out _ _ trivial (fun hHeld => ?_)
                clear hK K
                (try dsimp only); (try simp only [Act.put, List.setIfInBounds_toArray, List.set_cons_zero, List.set_cons_succ])
                refine wpAnyH_ready (rs := [8]) (by kernel_rfl) (by simp) ?_
                refine AllReadyH.cons (o := ⟨some 38, _, _, _, _, _⟩) rfl (fun K hK => ?_) AllReadyH.nil
                refine step_append_own9 rfl _ _ 22 22 rfl w.heap.size 37 i0 (.slice none 0 0) 1 24 Try.underlying22 HI.out.1 HI.out.2.1 HI.out.2.2.1 HI.out.2.2.2 rfl (.slice aS nS cS) (.slice (some ⟨w2.heap.size, 0, none⟩) 1 1) ps.length (ps.map Prod.snd) 1 [.slice ad2 n2 cap2] rfl rfl ((owns_below9 HP.out.row H2.out.2).alloc _) (one_row (Bk.new w2 _ _) rfl) (by have := HP.out.len; unfold maxLen; omega) (by have := HP.out.len; omega) (by have := H2.out.2.size; have := HB0.out.1; simp; omega) ?_
                intro v5 w5 ho5 hg5 hs5
                have h5 := (PnI.safeStep (W := W8.drew) (HIw.out.drew) H2.out.2 H2.out.1 HP.out.eq HP.out.row HP.out.own ho5 hg5 hs5)
                obtain ⟨ad5, n5, cap5, rfl⟩ := ownsRow_sl ho5
                have H5 : Hid (PnI w ls (n + 1) (n + 1) n (w5.setCell ⟨w.heap.size, 1, none⟩ (.slice ad5 n5 cap5)) (.slice aL8 nL8 cL8) (.slice ad5 n5 cap5) (.slice aN nN cN)) := h5
                have p5 : w5.cell? ⟨w.heap.size, 1, none⟩ = some (.slice aS nS cS) := by rw [← c3]; exact World.cell?_of_block (hg5.block _ (by have := H2.out.2.size; have := HB0.out.1; simp; omega) HB0r.out)
                have pf5 : w5.frozen? ⟨w.heap.size, 1, none⟩ = false := World.frozen?_of_block (hg5.block _ (by have := H2.out.2.size; have := HB0.out.1; simp; omega) HB0r.out) |>.trans (World.frozen?_of_block (Below.heap_alloc w2 _ _ (Nat.lt_of_lt_of_le HB0.out.1 H2.out.2.size)) |>.trans (World.frozen?_of_block (H2.out.2.block _ HB0.out.1) |>.trans f0))
                have pl5 : w.heap.size < w5.heap.size := by have := hg5.size; have := H2.out.2.size; have := HB0.out.1; simp at *; omega
                refine hK.out _ _ trivial (fun hHeld => ?_)
                clear hK K ho5 hg5 hs5 h5 c2 c3 H2
                (try dsimp only); (try simp only [Act.put, List.setIfInBounds_toArray, List.set_cons_zero, List.set_cons_succ])
                refine wpAnyH_take (i := 9) (oi := ⟨some 39, _, _, _, _, _⟩) (v := ?_) rfl (by kernel_rfl) (by kernel_rfl) (by kernel_rfl) (fun _ _ _ h => h) (Or.inl ⟨by rfl, ?_⟩) (by assumption) ?_
                rotate_left
                · (intro w hSw; (try dsimp only at hSw); go_simp; try (with_reducible rfl))
                (try dsimp only); (try simp only [Act.put, List.setIfInBounds_toArray, List.set_cons_zero, List.set_cons_succ])
                refine wpAnyH_take (i := 10) (oi := ⟨some 40, _, _, _, _, _⟩) (v := ?_) rfl (by kernel_rfl) (by kernel_rfl) (by kernel_rfl) (fun _ _ _ h => h) (Or.inl ⟨by rfl, ?_⟩) (by assumption) ?_
                rotate_left
                · (intro w hSw; (try dsimp only at hSw); go_simp; try (with_reducible rfl))
                (try dsimp only); (try simp only [Act.put, List.setIfInBounds_toArray, List.set_cons_zero, List.set_cons_succ])
                refine wpAnyH_ready (rs := [11]) (by kernel_rfl) (by simp) ?_
                refine AllReadyH.cons (o := ⟨none, _, _, _, _, _⟩) rfl (fun K hK => ?_) AllReadyH.nil
                go_simp
                refine hK.out _ _ trivial (fun hHeld => ?_)
                clear hK K p5 pf5 pl5
                (try dsimp only); (try simp only [Act.put, List.setIfInBounds_toArray, List.set_cons_zero, List.set_cons_succ])
                refine wpAnyH_done (by kernel_rfl) ?_ _
                refine NoPanic.normal ?_
                generalize w5.setCell ⟨w.heap.size, 1, none⟩ (.slice ad5 n5 cap5) = W9 at *
                clear HIw HP HB0 HB0r c0 f0 hHeld
                have c0 := H5.out.blk.cell 2
                have f0 := H5.out.blk.frozen 2
                have hd0 := H5.out.dlt
                have hb9 := H5.out.bel
                simp only [List.getElem?_toArray, List.getElem?_cons_zero, List.getElem?_cons_succ] at c0
                have hnew := H5.out.new
                have hnd := H5.out.newNe
                go_wp2_with (at_builtin; refine stop9 ?_)
                unfold Hold9
                refine wpList_append_own _ rfl _ _ 99 rfl w.heap.size 110 j0 (.slice none 0 0) 1 24 Try.underlying99 hj hj0 hj1 hj2 rfl (by decide) _ n _ rfl (hnew.alloc _) ⟨W9.heap.size, 0, none⟩ 1 1 [.slice none 0 0] rfl rfl (cell_one_new _ _ _) (by simp [Value.oneCell']) (by unfold maxLen; omega) (by omega) (by have := hd0; simp; omega) ?_
                intro v1 w1 hown1 hgrow1 hnil1
                have h6 := PnI.newStep H5.out hown1 hgrow1
                have e10 : w1.heap[w.heap.size]? = W9.heap[w.heap.size]? := (hgrow1.block w.heap.size (by simp; omega) hnd).trans (Below.heap_alloc W9 _ w.heap.size hd0)
                have p6 : w1.cell? ⟨w.heap.size, 2, none⟩ = some (.slice aN nN cN) := (World.cell?_of_block (a := ⟨w.heap.size, 2, none⟩) e10).trans c0
                have pf6 : w1.frozen? ⟨w.heap.size, 2, none⟩ = false := (World.frozen?_of_block (a := ⟨w.heap.size, 2, none⟩) e10).trans f0
                clear e10
                have pl6 : w.heap.size < w1.heap.size := by (have := hgrow1.size; simp at this; omega)
                obtain ⟨ad6, n6, cap6, rfl⟩ := ownsRow_sl hown1
                have H6 : Hid (PnI w ls (n + 1) (n + 1) (n + 1) (w1.setCell ⟨w.heap.size, 2, none⟩ (.slice ad6 n6 cap6)) (.slice aL8 nL8 cL8) (.slice ad5 n5 cap5) (.slice ad6 n6 cap6)) := h6
                clear h6
                go_wp2_with fail
                go_roundw
                case rel => exact ⟨n + 1, _, _, _, by omega, by go_num, H6.out⟩
                case measure => simp [intOf]; omega
          · go_simp
            refine hK.out _ _ trivial (fun hHeld => ?_)
            clear hK K
            have c3 : (w2.alloc (.cells #[.slice ad2 n2 cap2] 37)).cell? ⟨w.heap.size, 0, none⟩ = some (.slice aL nL cL) := by rw [← c2]; exact World.cell?_of_block (Below.heap_alloc w2 _ _ (Nat.lt_of_lt_of_le HB0.out.1 H2.out.2.size))
            (try dsimp only); (try simp only [Act.put, List.setIfInBounds_toArray, List.set_cons_zero, List.set_cons_succ])
            refine wpAnyH_ready (rs := [4]) (by kernel_rfl) (by simp) ?_
            refine AllReadyH.cons (o := ⟨some 23, _, _, _, _, _⟩) rfl (fun K hK => ?_) AllReadyH.nil
            go_simp
            refine hK.out _ _ trivial (fun hHeld => ?_)
            clear hK K
            (try dsimp only); (try simp only [Act.put, List.setIfInBounds_toArray, List.set_cons_zero, List.set_cons_succ])
            refine wpAnyH_ready (rs := [8]) (by kernel_rfl) (by simp) ?_
            refine AllReadyH.cons (o := ⟨some 27, _, _, _, _, _⟩) rfl (fun K hK => ?_) AllReadyH.nil
            refine step_append_own9 rfl _ _ 22 22 rfl w.heap.size 37 i0 (.slice none 0 0) 1 24 Try.underlying22 HI.out.1 HI.out.2.1 HI.out.2.2.1 HI.out.2.2.2 rfl (.slice aL nL cL) (.slice (some ⟨w2.heap.size, 0, none⟩) 1 1) ps.length (ps.map Prod.snd) 1 [.slice ad2 n2 cap2] rfl rfl ((owns_below9 HP.out.row H2.out.2).alloc _) (one_row (Bk.new w2 _ _) rfl) (by have := HP.out.len; unfold maxLen; omega) (by have := HP.out.len; omega) (by have := H2.out.2.size; have := HB0.out.1; simp; omega) ?_
            intro v5 w5 ho5 hg5 hs5
            have h5 := (PnI.liveStep (W := wr.drew) (HIw.out.drew) H2.out.2 H2.out.1 HP.out.eq HP.out.row HP.out.own ho5 hg5 hs5)
            obtain ⟨ad5, n5, cap5, rfl⟩ := ownsRow_sl ho5
            have H5 : Hid (PnI w ls (n + 1) n n (w5.setCell ⟨w.heap.size, 0, none⟩ (.slice ad5 n5 cap5)) (.slice ad5 n5 cap5) (.slice aS nS cS) (.slice aN nN cN)) := h5
            have p5 : w5.cell? ⟨w.heap.size, 0, none⟩ = some (.slice aL nL cL) := by rw [← c3]; exact World.cell?_of_block (hg5.block _ (by have := H2.out.2.size; have := HB0.out.1; simp; omega) HB0r.out)
            have pf5 : w5.frozen? ⟨w.heap.size, 0, none⟩ = false := World.frozen?_of_block (hg5.block _ (by have := H2.out.2.size; have := HB0.out.1; simp; omega) HB0r.out) |>.trans (World.frozen?_of_block (Below.heap_alloc w2 _ _ (Nat.lt_of_lt_of_le HB0.out.1 H2.out.2.size)) |>.trans (World.frozen?_of_block (H2.out.2.block _ HB0.out.1) |>.trans f0))
            have pl5 : w.heap.size < w5.heap.size := by have := hg5.size; have := H2.out.2.size; have := HB0.out.1; simp at *; omega
            refine hK.out _ _ trivial (fun hHeld => ?_)
            clear hK K ho5 hg5 hs5 h5 c2 c3 H2
            (try dsimp only); (try simp only [Act.put, List.setIfInBounds_toArray, List.set_cons_zero, List.set_cons_succ])
            refine wpAnyH_take (i := 9) (oi := ⟨some 28, _, _, _, _, _⟩) (v := ?_) rfl (by kernel_rfl) (by kernel_rfl) (by kernel_rfl) (fun _ _ _ h => h) (Or.inl ⟨by rfl, ?_⟩) (by assumption) ?_
            rotate_left
            · (intro w hSw; (try dsimp only at hSw); go_simp; try (with_reducible rfl))
            (try dsimp only); (try simp only [Act.put, List.setIfInBounds_toArray, List.set_cons_zero, List.set_cons_succ])
            refine wpAnyH_take (i := 10) (oi := ⟨some 29, _, _, _, _, _⟩) (v := ?_) rfl (by kernel_rfl) (by kernel_rfl) (by kernel_rfl) (fun _ _ _ h => h) (Or.inl ⟨by rfl, ?_⟩) (by assumption) ?_
            rotate_left
            · (intro w hSw; (try dsimp only at hSw); go_simp; try (with_reducible rfl))
            (try dsimp only); (try simp only [Act.put, List.setIfInBounds_toArray, List.set_cons_zero, List.set_cons_succ])
            refine wpAnyH_ready (rs := [11]) (by kernel_rfl) (by simp) ?_
            refine AllReadyH.cons (o := ⟨none, _, _, _, _, _⟩) rfl (fun K hK => ?_) AllReadyH.nil
            go_simp
            refine hK.out _ _ trivial (fun hHeld => ?_)
            clear hK K p5 pf5 pl5
            (try dsimp only); (try simp only [Act.put, List.setIfInBounds_toArray, List.set_cons_zero, List.set_cons_succ])
            refine wpAnyH_done (by kernel_rfl) ?_ _
            refine NoPanic.normal ?_
            generalize hW8 : w5.setCell ⟨w.heap.size, 0, none⟩ (.slice ad5 n5 cap5) = W8 at *
            generalize ad5 = aL8 at *
            generalize n5 = nL8 at *
            generalize cap5 = cL8 at *
            clear hW8 HIw HP HB0 HB0r c0 f0 hHeld
            have HIw : Hid (PnI w ls (n + 1) n n W8 (.slice aL8 nL8 cL8) (.slice aS nS cS) (.slice aN nN cN)) := H5.out
            clear H5
            have c0 : W8.drew.cell? ⟨w.heap.size, 1, none⟩ = some (.slice aS nS cS) := HIw.out.blk.cell 1
            have f0 : W8.drew.frozen? ⟨w.heap.size, 1, none⟩ = false := HIw.out.blk.frozen 1
            have HB0 : Hid (w.heap.size < W8.drew.heap.size ∧ Below w.heap.size w W8.drew) := ⟨HIw.out.dlt, HIw.out.bel.drew⟩
            have HB0r : Hid (some w.heap.size ≠ (Value.slice aS nS cS).ownBlock) := HIw.out.safeNe
            obtain ⟨ps, hps⟩ := lc_ps HIw.out.safr hn8
            have HP : Hid (Ps9 W8.drew w.heap.size (.slice aS nS cS) (pr8 ls n) ps n) := hps.drew
            clear hps
            go_upto_region 9 with fail
            refine wp_region_noPanic ?_
            refine wp_region_held_drew (S := fun _ => True) (by kernel_rfl) ?_ (fun hHeld => ?_)
            · ((try dsimp only); skip)
            (try dsimp only at hHeld)
            refine wpAnyH_take (i := 0) (oi := ⟨some 30, _, _, _, _, _⟩) (v := ?_) rfl (by kernel_rfl) (by kernel_rfl) (by kernel_rfl) (fun _ _ _ h => h) (Or.inl ⟨by rfl, ?_⟩) (by assumption) ?_
            rotate_left
            · (intro w hSw; (try dsimp only at hSw); go_simp; try (with_reducible rfl))
            (try dsimp only); (try simp only [Act.put, List.setIfInBounds_toArray, List.set_cons_zero, List.set_cons_succ])
            refine wpAnyH_take (i := 1) (oi := ⟨some 31, _, _, _, _, _⟩) (v := ?_) rfl (by kernel_rfl) (by kernel_rfl) (by kernel_rfl) (fun _ _ _ h => h) (Or.inl ⟨by rfl, ?_⟩) (by assumption) ?_
            rotate_left
            · (intro w hSw; (try dsimp only at hSw); go_simp; try (with_reducible rfl))
            (try dsimp only); (try simp only [Act.put, List.setIfInBounds_toArray, List.set_cons_zero, List.set_cons_succ])
            refine wpAnyH_take (i := 2) (oi := ⟨some 32, _, _, _, _, _⟩) (v := ?_) rfl (by kernel_rfl) (by kernel_rfl) (by kernel_rfl) (fun _ _ _ h => h) (Or.inl ⟨by rfl, ?_⟩) (by assumption) ?_
            rotate_left
            · (intro w hSw; (try dsimp only at hSw); go_simp; try (with_reducible rfl))
            (try dsimp only); (try simp only [Act.put, List.setIfInBounds_toArray, List.set_cons_zero, List.set_cons_succ])
            refine wpAnyH_take (i := 3) (oi := ⟨some 33, _, _, _, _, _⟩) (v := ?_) rfl (by kernel_rfl) (by kernel_rfl) (by kernel_rfl) (fun _ _ _ h => h) (Or.inl ⟨by rfl, ?_⟩) (by assumption) ?_
            rotate_left
            · (intro w hSw; (try dsimp only at hSw); go_simp; try (with_reducible rfl))
            (try dsimp only); (try simp only [Act.put, List.setIfInBounds_toArray, List.set_cons_zero, List.set_cons_succ])
            refine wpAnyH_take (i := 5) (oi := ⟨some 35, _, _, _, _, _⟩) (v := ?_) rfl (by kernel_rfl) (by kernel_rfl) (by kernel_rfl) (fun _ _ _ h => h) (Or.inl ⟨by rfl, ?_⟩) (by assumption) ?_
            rotate_left
            · (intro w hSw; (try dsimp only at hSw); go_simp; try (with_reducible rfl))
            (try dsimp only); (try simp only [Act.put, List.setIfInBounds_toArray, List.set_cons_zero, List.set_cons_succ])
            refine wpAnyH_ready (rs := [4, 6]) (by kernel_rfl) (by simp) ?_
            refine AllReadyH.cons (o := ⟨some 34, _, _, _, _, _⟩) rfl (fun K hK => ?_) (AllReadyH.cons (o := ⟨some 36, _, _, _, _, _⟩) rfl (fun K hK => ?_) AllReadyH.nil)
            · go_simp
              refine hK.out _ _ trivial (fun hHeld => ?_)
              clear hK K
              (try dsimp only); (try simp only [Act.put, List.setIfInBounds_toArray, List.set_cons_zero, List.set_cons_succ])
              refine wpAnyH_ready (rs := [6]) (by kernel_rfl) (by simp) ?_
              refine AllReadyH.cons (o := ⟨some 36, _, _, _, _, _⟩) rfl (fun K hK => ?_) AllReadyH.nil
              go_simp
              refine Calls.mono (HCb.out _ HB0.out.2) ?_
              rintro e w2 ⟨u2, rfl, ho2, hb2⟩
              obtain ⟨ad2, n2, cap2, rfl⟩ := ownsRow_sl ho2
              have c2 : w2.cell? ⟨w.heap.size, 1, none⟩ = some (.slice aS nS cS) := (hb2.cell HB0.out.1).trans c0
              have H2 : Hid (Ow w2 W8.drew.heap.size (.slice ad2 n2 cap2) (ls.getD n []) ∧ Below W8.drew.heap.size W8.drew w2) := ⟨ho2, hb2⟩
              refine hK.out _ _ trivial (fun hHeld => ?_)
              clear hK K ho2 hb2
              (try dsimp only); (try simp only [Act.put, List.setIfInBounds_toArray, List.set_cons_zero, List.set_cons_succ])
              refine wpAnyH_ready (rs := [7]) (by kernel_rfl) (by simp) ?_
              refine AllReadyH.cons (o := ⟨some 37, _, _, _, _, _⟩) rfl (fun K hK => ?_) AllReadyH.nil
              go_simp
              refine hK.out _ _ trivial (fun hHeld => ?_)
              clear hK K
              have c3 : (w2.alloc (.cells #[.slice ad2 n2 cap2] 37)).cell? ⟨w.heap.size, 1, none⟩ = some (.slice aS nS cS) := by rw [← c2]; exact World.cell?_of_block (Below.heap_alloc w2 _ _ (Nat.lt_of_lt_of_le HB0.out.1 H2.out.2.size))
              (try dsimp only); (try simp only [Act.put, List.setIfInBounds_toArray, List.set_cons_zero, List.set_cons_succ])
              refine wpAnyH_ready (rs := [8]) (by kernel_rfl) (by simp) ?_
              refine AllReadyH.cons (o := ⟨some 38, _, _, _, _, _⟩) rfl (fun K hK => ?_) AllReadyH.nil
              refine step_append_own9 rfl _ _ 22 22 rfl w.heap.size 37 i0 (.slice none 0 0) 1 24 Try.underlying22 HI.out.1 HI.out.2.1 HI.out.2.2.1 HI.out.2.2.2 rfl (.slice aS nS cS) (.slice (some ⟨w2.heap.size, 0, none⟩) 1 1) ps.length (ps.map Prod.snd) 1 [.slice ad2 n2 cap2] rfl rfl ((owns_below9 HP.out.row H2.out.2).alloc _) (one_row (Bk.new w2 _ _) rfl) (by have := HP.out.len; unfold maxLen; omega) (by have := HP.out.len; omega) (by have := H2.out.2.size; have := HB0.out.1; simp; omega) ?_
              intro v5 w5 ho5 hg5 hs5
              have h5 := (PnI.safeStep (W := W8.drew) (HIw.out.drew) H2.out.2 H2.out.1 HP.out.eq HP.out.row HP.out.own ho5 hg5 hs5)
              obtain ⟨ad5, n5, cap5, rfl⟩ := ownsRow_sl ho5
              have H5 : Hid (PnI w ls (n + 1) (n + 1) n (w5.setCell ⟨w.heap.size, 1, none⟩ (.slice ad5 n5 cap5)) (.slice aL8 nL8 cL8) (.slice ad5 n5 cap5) (.slice aN nN cN)) := h5
              have p5 : w5.cell? ⟨w.heap.size, 1, none⟩ = some (.slice aS nS cS) := by rw [← c3]; exact World.cell?_of_block (hg5.block _ (by have := H2.out.2.size; have := HB0.out.1; simp; omega) HB0r.out)
              have pf5 : w5.frozen? ⟨w.heap.size, 1, none⟩ = false := World.frozen?_of_block (hg5.block _ (by have := H2.out.2.size; have := HB0.out.1; simp; omega) HB0r.out) |>.trans (World.frozen?_of_block (Below.heap_alloc w2 _ _ (Nat.lt_of_lt_of_le HB0.out.1 H2.out.2.size)) |>.trans (World.frozen?_of_block (H2.out.2.block _ HB0.out.1) |>.trans f0))
              have pl5 : w.heap.size < w5.heap.size := by have := hg5.size; have := H2.out.2.size; have := HB0.out.1; simp at *; omega
              refine hK.out _ _ trivial (fun hHeld => ?_)
              clear hK K ho5 hg5 hs5 h5 c2 c3 H2
              (try dsimp only); (try simp only [Act.put, List.setIfInBounds_toArray, List.set_cons_zero, List.set_cons_succ])
              refine wpAnyH_take (i := 9) (oi := ⟨some 39, _, _, _, _, _⟩) (v := ?_) rfl (by kernel_rfl) (by kernel_rfl) (by kernel_rfl) (fun _ _ _ h => h) (Or.inl ⟨by rfl, ?_⟩) (by assumption) ?_
              rotate_left
              · (intro w hSw; (try dsimp only at hSw); go_simp; try (with_reducible rfl))
              (try dsimp only); (try simp only [Act.put, List.setIfInBounds_toArray, List.set_cons_zero, List.set_cons_succ])
              refine wpAnyH_take (i := 10) (oi := ⟨some 40, _, _, _, _, _⟩) (v := ?_) rfl (by kernel_rfl) (by kernel_rfl) (by kernel_rfl) (fun _ _ _ h => h) (Or.inl ⟨by rfl, ?_⟩) (by assumption) ?_
              rotate_left
              · (intro w hSw; (try dsimp only at hSw); go_simp; try (with_reducible rfl))
              (try dsimp only); (try simp only [Act.put, List.setIfInBounds_toArray, List.set_cons_zero, List.set_cons_succ])
              refine wpAnyH_ready (rs := [11]) (by kernel_rfl) (by simp) ?_
              refine AllReadyH.cons (o := ⟨none, _, _, _, _, _⟩) rfl (fun K hK => ?_) AllReadyH.nil
              go_simp
              refine hK.out _ _ trivial (fun hHeld => ?_)
              clear hK K p5 pf5 pl5
              (try dsimp only); (try simp only [Act.put, List.setIfInBounds_toArray, List.set_cons_zero, List.set_cons_succ])
              refine wpAnyH_done (by kernel_rfl) ?_ _
              refine NoPanic.normal ?_
              generalize w5.setCell ⟨w.heap.size, 1, none⟩ (.slice ad5 n5 cap5) = W9 at *
              clear HIw HP HB0 HB0r c0 f0 hHeld
              have c0 := H5.out.blk.cell 2
              have f0 := H5.out.blk.frozen 2
              have hd0 := H5.out.dlt
              have hb9 := H5.out.bel
              simp only [List.getElem?_toArray, List.getElem?_cons_zero, List.getElem?_cons_succ] at c0
              have hnew := H5.out.new
              have hnd := H5.out.newNe
              go_wp2_with (at_builtin; refine stop9 ?_)
              unfold Hold9
              refine wpList_append_own _ rfl _ _ 99 rfl w.heap.size 110 j0 (.slice none 0 0) 1 24 Try.underlying99 hj hj0 hj1 hj2 rfl (by decide) _ n _ rfl (hnew.alloc _) ⟨W9.heap.size, 0, none⟩ 1 1 [.slice none 0 0] rfl rfl (cell_one_new _ _ _) (by simp [Value.oneCell']) (by unfold maxLen; omega) (by omega) (by have := hd0; simp; omega) ?_
              intro v1 w1 hown1 hgrow1 hnil1
              have h6 := PnI.newStep H5.out hown1 hgrow1
              have e10 : w1.heap[w.heap.size]? = W9.heap[w.heap.size]? := (hgrow1.block w.heap.size (by simp; omega) hnd).trans (Below.heap_alloc W9 _ w.heap.size hd0)
              have p6 : w1.cell? ⟨w.heap.size, 2, none⟩ = some (.slice aN nN cN) := (World.cell?_of_block (a := ⟨w.heap.size, 2, none⟩) e10).trans c0
              have pf6 : w1.frozen? ⟨w.heap.size, 2, none⟩ = false := (World.frozen?_of_block (a := ⟨w.heap.size, 2, none⟩) e10).trans f0
              clear e10
              have pl6 : w.heap.size < w1.heap.size := by (have := hgrow1.size; simp at this; omega)
              obtain ⟨ad6, n6, cap6, rfl⟩ := ownsRow_sl hown1
              have H6 : Hid (PnI w ls (n + 1) (n + 1) (n + 1) (w1.setCell ⟨w.heap.size, 2, none⟩ (.slice ad6 n6 cap6)) (.slice aL8 nL8 cL8) (.slice ad5 n5 cap5) (.slice ad6 n6 cap6)) := h6
              clear h6
              go_wp2_with fail
              go_roundw
              case rel => exact ⟨n + 1, _, _, _, by omega, by go_num, H6.out⟩
              case measure => simp [intOf]; omega
            · go_simp
              refine Calls.mono (HCb.out _ HB0.out.2) ?_
              rintro e w2 ⟨u2, rfl, ho2, hb2⟩
              obtain ⟨ad2, n2, cap2, rfl⟩ := ownsRow_sl ho2
              have c2 : w2.cell? ⟨w.heap.size, 1, none⟩ = some (.slice aS nS cS) := (hb2.cell HB0.out.1).trans c0
              have H2 : Hid (Ow w2 W8.drew.heap.size (.slice ad2 n2 cap2) (ls.getD n []) ∧ Below W8.drew.heap.size W8.drew w2) := ⟨ho2, hb2⟩
              refine hK.out _ _ trivial (fun hHeld => ?_)
              clear hK K ho2 hb2
              (try dsimp only); (try simp only [Act.put, List.setIfInBounds_toArray, List.set_cons_zero, List.set_cons_succ])
              refine wpAnyH_ready (rs := [4, 7]) (by kernel_rfl) (by simp) ?_
              refine AllReadyH.cons (o := ⟨some 34, _, _, _, _, _⟩) rfl (fun K hK => ?_) (AllReadyH.cons (o := ⟨some 37, _, _, _, _, _⟩) rfl (fun K hK => ?_) AllReadyH.nil)
              · go_simp
                refine hK.out _ _ trivial (fun hHeld => ?_)
                clear hK K
                (try dsimp only); (try simp only [Act.put, List.setIfInBounds_toArray, List.set_cons_zero, List.set_cons_succ])
                refine wpAnyH_ready (rs := [7]) (by kernel_rfl) (by simp) ?_
                refine AllReadyH.cons (o := ⟨some 37, _, _, _, _, _⟩) rfl (fun K hK => ?_) AllReadyH.nil
                go_simp
                refine hK.out _ _ trivial (fun hHeld => ?_)
                clear hK K
                have c3 : (w2.alloc (.cells #[.slice ad2 n2 cap2] 37)).cell? ⟨w.heap.size, 1, none⟩ = some (.slice aS nS cS) := by rw [← c2]; exact World.cell?_of_block (Below.heap_alloc w2 _ _ (Nat.lt_of_lt_of_le HB0.out.1 H2.out.2.size))
                (try dsimp only); (try simp only [Act.put, List.setIfInBounds_toArray, List.set_cons_zero, List.set_cons_succ])
                refine wpAnyH_ready (rs := [8]) (by kernel_rfl) (by simp) ?_
                refine AllReadyH.cons (o := ⟨some 38, _, _, _, _, _⟩) rfl (fun K hK => ?_) AllReadyH.nil
                refine step_append_own9 rfl _ _ 22 22 rfl w.heap.size 37 i0 (.slice none 0 0) 1 24 Try.underlying22 HI.out.1 HI.out.2.1 HI.out.2.2.1 HI.out.2.2.2 rfl (.slice aS nS cS) (.slice (some ⟨w2.heap.size, 0, none⟩) 1 1) ps.length (ps.map Prod.snd) 1 [.slice ad2 n2 cap2] rfl rfl ((owns_below9 HP.out.row H2.out.2).alloc _) (one_row (Bk.new w2 _ _) rfl) (by have := HP.out.len; unfold maxLen; omega) (by have := HP.out.len; omega) (by have := H2.out.2.size; have := HB0.out.1; simp; omega) ?_
                intro v5 w5 ho5 hg5 hs5
                have h5 := (PnI.safeStep (W := W8.drew) (HIw.out.drew) H2.out.2 H2.out.1 HP.out.eq HP.out.row HP.out.own ho5 hg5 hs5)
                obtain ⟨ad5, n5, cap5, rfl⟩ := ownsRow_sl ho5
                have H5 : Hid (PnI w ls (n + 1) (n + 1) n (w5.setCell ⟨w.heap.size, 1, none⟩ (.slice ad5 n5 cap5)) (.slice aL8 nL8 cL8) (.slice ad5 n5 cap5) (.slice aN nN cN)) := h5
                have p5 : w5.cell? ⟨w.heap.size, 1, none⟩ = some (.slice aS nS cS) := by rw [← c3]; exact World.cell?_of_block (hg5.block _ (by have := H2.out.2.size; have := HB0.out.1; simp; omega) HB0r.out)
                have pf5 : w5.frozen? ⟨w.heap.size, 1, none⟩ = false := World.frozen?_of_block (hg5.block _ (by have := H2.out.2.size; have := HB0.out.1; simp; omega) HB0r.out) |>.trans (World.frozen?_of_block (Below.heap_alloc w2 _ _ (Nat.lt_of_lt_of_le HB0.out.1 H2.out.2.size)) |>.trans (World.frozen?_of_block (H2.out.2.block _ HB0.out.1) |>.trans f0))
                have pl5 : w.heap.size < w5.heap.size := by have := hg5.size; have := H2.out.2.size; have := HB0.out.1; simp at *; omega
                refine hK.out _ _ trivial (fun hHeld => ?_)
                clear hK K ho5 hg5 hs5 h5 c2 c3 H2
                (try dsimp only); (try simp only [Act.put, List.setIfInBounds_toArray, List.set_cons_zero, List.set_cons_succ])
                refine wpAnyH_take (i := 9) (oi := ⟨some 39, _, _, _, _, _⟩) (v := ?_) rfl (by kernel_rfl) (by kernel_rfl) (by kernel_rfl) (fun _ _ _ h => h) (Or.inl ⟨by rfl, ?_⟩) (by assumption) ?_
                rotate_left
                · (intro w hSw; (try dsimp only at hSw); go_simp; try (with_reducible rfl))
                (try dsimp only); (try simp only [Act.put, List.setIfInBounds_toArray, List.set_cons_zero, List.set_cons_succ])
                refine wpAnyH_take (i := 10) (oi := ⟨some 40, _, _, _, _, _⟩) (v := ?_) rfl (by kernel_rfl) (by kernel_rfl) (by kernel_rfl) (fun _ _ _ h => h) (Or.inl ⟨by rfl, ?_⟩) (by assumption) ?_
                rotate_left
                · (intro w hSw; (try dsimp only at hSw); go_simp; try (with_reducible rfl))
                (try dsimp only); (try simp only [Act.put, List.setIfInBounds_toArray, List.set_cons_zero, List.set_cons_succ])
                refine wpAnyH_ready (rs := [11]) (by kernel_rfl) (by simp) ?_
                refine AllReadyH.cons (o := ⟨none, _, _, _, _, _⟩) rfl (fun K hK => ?_) AllReadyH.nil
                go_simp
                refine hK.out _ _ trivial (fun hHeld => ?_)
                clear hK K p5 pf5 pl5
                (try dsimp only); (try simp only [Act.put, List.setIfInBounds_toArray, List.set_cons_zero, List.set_cons_succ])
                refine wpAnyH_done (by kernel_rfl) ?_ _
                refine NoPanic.normal ?_
                generalize w5.setCell ⟨w.heap.size, 1, none⟩ (.slice ad5 n5 cap5) = W9 at *
                clear HIw HP HB0 HB0r c0 f0 hHeld
                have c0 := H5.out.blk.cell 2
                have f0 := H5.out.blk.frozen 2
                have hd0 := H5.out.dlt
                have hb9 := H5.out.bel
                simp only [List.getElem?_toArray, List.getElem?_cons_zero, List.getElem?_cons_succ] at c0
                have hnew := H5.out.new
                have hnd := H5.out.newNe
                go_wp2_with (at_builtin; refine stop9 ?_)
                unfold Hold9
                refine wpList_append_own _ rfl _ _ 99 rfl w.heap.size 110 j0 (.slice none 0 0) 1 24 Try.underlying99 hj hj0 hj1 hj2 rfl (by decide) _ n _ rfl (hnew.alloc _) ⟨W9.heap.size, 0, none⟩ 1 1 [.slice none 0 0] rfl rfl (cell_one_new _ _ _) (by simp [Value.oneCell']) (by unfold maxLen; omega) (by omega) (by have := hd0; simp; omega) ?_
                intro v1 w1 hown1 hgrow1 hnil1
                have h6 := PnI.newStep H5.out hown1 hgrow1
                have e10 : w1.heap[w.heap.size]? = W9.heap[w.heap.size]? := (hgrow1.block w.heap.size (by simp; omega) hnd).trans (Below.heap_alloc W9 _ w.heap.size hd0)
                have p6 : w1.cell? ⟨w.heap.size, 2, none⟩ = some (.slice aN nN cN) := (World.cell?_of_block (a := ⟨w.heap.size, 2, none⟩) e10).trans c0
                have pf6 : w1.frozen? ⟨w.heap.size, 2, none⟩ = false := (World.frozen?_of_block (a := ⟨w.heap.size, 2, none⟩) e10).trans f0
                clear e10
                have pl6 : w.heap.size < w1.heap.size := by (have := hgrow1.size; simp at this; omega)
                obtain ⟨ad6, n6, cap6, rfl⟩ := ownsRow_sl hown1
                have H6 : Hid (PnI w ls (n + 1) (n + 1) (n + 1) (w1.setCell ⟨w.heap.size, 2, none⟩ (.slice ad6 n6 cap6)) (.slice aL8 nL8 cL8) (.slice ad5 n5 cap5) (.slice ad6 n6 cap6)) := h6
                clear h6
                go_wp2_with fail
                go_roundw
                case rel => exact ⟨n + 1, _, _, _, by omega, by go_num, H6.out⟩
                case measure => simp [intOf]; omega
              · go_simp
                refine hK.out _ _ trivial (fun hHeld => ?_)
                clear hK K
                have c3 : (w2.alloc (.cells #[.slice ad2 n2 cap2] 37)).cell? ⟨w.heap.size, 1, none⟩ = some (.slice aS nS cS) := by rw [← c2]; exact World.cell?_of_block (Below.heap_alloc w2 _ _ (Nat.lt_of_lt_of_le HB0.out.1 H2.out.2.size))
                (try dsimp only); (try simp only [Act.put, List.setIfInBounds_toArray, List.set_cons_zero, List.set_cons_succ])
                refine wpAnyH_ready (rs := [4]) (by kernel_rfl) (by simp) ?_
                refine AllReadyH.cons (o := ⟨some 34, _, _, _, _, _⟩) rfl (fun K hK => ?_) AllReadyH.nil
                go_simp
                refine hK.out _ _ trivial (fun hHeld => ?_)
                clear hK K
                (try dsimp only); (try simp only [Act.put, List.setIfInBounds_toArray, List.set_cons_zero, List.set_cons_succ])
                refine wpAnyH_ready (rs := [8]) (by kernel_rfl) (by simp) ?_
                refine AllReadyH.cons (o := ⟨some 38, _, _, _, _, _⟩) rfl (fun K hK => ?_) AllReadyH.nil
                refine step_append_own9 rfl _ _ 22 22 rfl w.heap.size 37 i0 (.slice none 0 0) 1 24 Try.underlying22 HI.out.1 HI.out.2.1 HI.out.2.2.1 HI.out.2.2.2 rfl (.slice aS nS cS) (.slice (some ⟨w2.heap.size, 0, none⟩) 1 1) ps.length (ps.map Prod.snd) 1 [.slice ad2 n2 cap2] rfl rfl ((owns_below9 HP.out.row H2.out.2).alloc _) (one_row (Bk.new w2 _ _) rfl) (by have := HP.out.len; unfold maxLen; omega) (by have := HP.out.len; omega) (by have := H2.out.2.size; have := HB0.out.1; simp; omega) ?_
                intro v5 w5 ho5 hg5 hs5
                have h5 := (PnI.safeStep (W := W8.drew) (HIw.out.drew) H2.out.2 H2.out.1 HP.out.eq HP.out.row HP.out.own ho5 hg5 hs5)
                obtain ⟨ad5, n5, cap5, rfl⟩ := ownsRow_sl ho5
                have H5 : Hid (PnI w ls (n + 1) (n + 1) n (w5.setCell ⟨w.heap.size, 1, none⟩ (.slice ad5 n5 cap5)) (.slice aL8 nL8 cL8) (.slice ad5 n5 cap5) (.slice aN nN cN)) := h5
                have p5 : w5.cell? ⟨w.heap.size, 1, none⟩ = some (.slice aS nS cS) := by rw [← c3]; exact World.cell?_of_block (hg5.block _ (by have := H2.out.2.size; have := HB0.out.1; simp; omega) HB0r.out)
                have pf5 : w5.frozen? ⟨w.heap.size, 1, none⟩ = false := World.frozen?_of_block (hg5.block _ (by have := H2.out.2.size; have := HB0.out.1; simp; omega) HB0r.out) |>.trans (World.frozen?_of_block (Below.heap_alloc w2 _ _ (Nat.lt_of_lt_of_le HB0.out.1 H2.out.2.size)) |>.trans (World.frozen?_of_block (H2.out.2.block _ HB0.out.1) |>.trans f0))
                have pl5 : w.heap.size < w5.heap.size := by have := hg5.size; have := H2.out.2.size; have := HB0.out.1; simp at *; omega
                refine hK.out _ _ trivial (fun hHeld => ?_)
                clear hK K ho5 hg5 hs5 h5 c2 c3 H2
                (try dsimp only); (try simp only [Act.put, List.setIfInBounds_toArray, List.set_cons_zero, List.set_cons_succ])
                refine wpAnyH_take (i := 9) (oi := ⟨some 39, _, _, _, _, _⟩) (v := ?_) rfl (by kernel_rfl) (by kernel_rfl) (by kernel_rfl) (fun _ _ _ h => h) (Or.inl ⟨by rfl, ?_⟩) (by assumption) ?_
                rotate_left
                · (intro w hSw; (try dsimp only at hSw); go_simp; try (with_reducible rfl))
                (try dsimp only); (try simp only [Act.put, List.setIfInBounds_toArray, List.set_cons_zero, List.set_cons_succ])
                refine wpAnyH_take (i := 10) (oi := ⟨some 40, _, _, _, _, _⟩) (v := ?_) rfl (by kernel_rfl) (by kernel_rfl) (by kernel_rfl) (fun _ _ _ h => h) (Or.inl ⟨by rfl, ?_⟩) (by assumption) ?_
                rotate_left
                · (intro w hSw; (try dsimp only at hSw); go_simp; try (with_reducible rfl))
                (try dsimp only); (try simp only [Act.put, List.setIfInBounds_toArray, List.set_cons_zero, List.set_cons_succ])
                refine wpAnyH_ready (rs := [11]) (by kernel_rfl) (by simp) ?_
                refine AllReadyH.cons (o := ⟨none, _, _, _, _, _⟩) rfl (fun K hK => ?_) AllReadyH.nil
                go_simp
                refine hK.out _ _ trivial (fun hHeld => ?_)
                clear hK K p5 pf5 pl5
                (try dsimp only); (try simp only [Act.put, List.setIfInBounds_toArray, List.set_cons_zero, List.set_cons_succ])
                refine wpAnyH_done (by kernel_rfl) ?_ _
                refine NoPanic.normal ?_
                generalize w5.setCell ⟨w.heap.size, 1, none⟩ (.slice ad5 n5 cap5) = W9 at *
                clear HIw HP HB0 HB0r c0 f0 hHeld
                have c0 := H5.out.blk.cell 2
                have f0 := H5.out.blk.frozen 2
                have hd0 := H5.out.dlt
                have hb9 := H5.out.bel
                simp only [List.getElem?_toArray, List.getElem?_cons_zero, List.getElem?_cons_succ] at c0
                have hnew := H5.out.new
                have hnd := H5.out.newNe
                go_wp2_with (at_builtin; refine stop9 ?_)
                unfold Hold9
                refine wpList_append_own _ rfl _ _ 99 rfl w.heap.size 110 j0 (.slice none 0 0) 1 24 Try.underlying99 hj hj0 hj1 hj2 rfl (by decide) _ n _ rfl (hnew.alloc _) ⟨W9.heap.size, 0, none⟩ 1 1 [.slice none 0 0] rfl rfl (cell_one_new _ _ _) (by simp [Value.oneCell']) (by unfold maxLen; omega) (by omega) (by have := hd0; simp; omega) ?_
                intro v1 w1 hown1 hgrow1 hnil1
                have h6 := PnI.newStep H5.out hown1 hgrow1
                have e10 : w1.heap[w.heap.size]? = W9.heap[w.heap.size]? := (hgrow1.block w.heap.size (by simp; omega) hnd).trans (Below.heap_alloc W9 _ w.heap.size hd0)
                have p6 : w1.cell? ⟨w.heap.size, 2, none⟩ = some (.slice aN nN cN) := (World.cell?_of_block (a := ⟨w.heap.size, 2, none⟩) e10).trans c0
                have pf6 : w1.frozen? ⟨w.heap.size, 2, none⟩ = false := (World.frozen?_of_block (a := ⟨w.heap.size, 2, none⟩) e10).trans f0
                clear e10
                have pl6 : w.heap.size < w1.heap.size := by (have := hgrow1.size; simp at this; omega)
                obtain ⟨ad6, n6, cap6, rfl⟩ := ownsRow_sl hown1
                have H6 : Hid (PnI w ls (n + 1) (n + 1) (n + 1) (w1.setCell ⟨w.heap.size, 2, none⟩ (.slice ad6 n6 cap6)) (.slice aL8 nL8 cL8) (.slice ad5 n5 cap5) (.slice ad6 n6 cap6)) := h6
                clear h6
                go_wp2_with fail
                go_roundw
                case rel => exact ⟨n + 1, _, _, _, by omega, by go_num, H6.out⟩
                case measure => simp [intOf]; omega
    · obtain rfl : n = 8 := by omega
      have hlt' : ¬ ((8 : Nat) : Int) < 8 := by omega
      go_wp2_with fail
      go_ret
      obtain ⟨O, h1, h2⟩ := HIw.out.done
      exact ⟨rfl, HIw.out.bel, O, h1, h2⟩
end Go.Proofs.Ytljhhdpeakencaa

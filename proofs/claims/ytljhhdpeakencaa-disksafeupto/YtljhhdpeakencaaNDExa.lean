import Derived.Test.YtljhhdpeakencaaJ11
import Derived.Test.YtljhhdpeakencaaJ7
import Derived.Deep.CutBlock
set_option linter.unusedSimpArgs false
set_option linter.unusedVariables false
namespace Go.Proofs.Ytljhhdpeakencaa
open Go.RowKit

/-! tarnlaw9.DiskExact, walked. -/
theorem rp_old {w : World} {pv : Value} {ps : List Int} (h : Rp w pv ps) (hn : ps.length ≠ 0) : ∀ b n c, pv = .slice (some ⟨b, n, none⟩) ps.length c → b < w.heap.size := fun b n c e => by
  obtain ⟨ad, cap, e2, _, _, _, hc⟩ := h
  rw [e] at e2
  simp at e2
  obtain ⟨rfl, rfl⟩ := e2
  obtain ⟨b', off, e3, hx⟩ := hc 0 (by omega)
  simp at e3
  obtain ⟨rfl, rfl⟩ := e3
  exact cell_lt9 hx
theorem rb_old {w : World} {ad : Option Addr} {n cap : Nat} {l : List UInt8} (h : Rb w (.slice ad n cap) l) (hn : l.length ≠ 0) : ∀ b n, ad = some ⟨b, n, none⟩ → b < w.heap.size := fun b n e => by
  obtain ⟨ad', cap', e2, _, _, hc⟩ := h
  simp at e2
  obtain ⟨rfl, rfl, rfl⟩ := e2
  subst e
  obtain ⟨b', off, e3, hx⟩ := hc 0 (by omega)
  simp at e3
  obtain ⟨rfl, rfl⟩ := e3
  exact cell_lt9 hx
theorem la_at {w : World} {ad : Option Addr} {m cap : Nat} {xs : List Ac} (h : La w (.slice ad m cap) xs) (i : Nat) (hi : i < xs.length) : ∃ b off bv pv, ad = some ⟨b, off, none⟩ ∧ w.rangeAt b (off + i * 6) (acc xs[i] bv pv).toList ∧ Rb w bv xs[i].bs ∧ Rp w pv xs[i].ps ∧ Acw xs[i] := by
  obtain ⟨ad2, cap2, e2, _, _, hat⟩ := h
  simp at e2
  obtain ⟨rfl, _, rfl⟩ := e2
  exact hat i hi
theorem mayB_true {ls : List (List UInt8)} (h : mayB ls = true) : (ls.length = 0 ∨ ls.length = 8) ∧ Sml ls := by
  unfold mayB at h
  rw [Bool.and_eq_true] at h
  have h2 : ∀ l ∈ ls, l.length ≤ 131072 := of_decide_eq_true h.2
  exact ⟨of_decide_eq_true h.1, h2⟩
theorem new_false (w : World) (v : Value) (ls : List (List UInt8)) (h : Rl w v ls) (hm : mayB ls = false) : Calls Try.prog 23 #[v] w fun e w' => e = .returned (.tuple #[.pointer none, .int .i64 1]) ∧ Below w.heap.size w w' := by
  by_cases hn : ls.length = 0 ∨ ls.length = 8
  · have hs : ¬ Sml ls := fun hs => by
      unfold mayB at hm
      rw [decide_eq_true hn, Bool.true_and] at hm
      have hs2 : ∀ l ∈ ls, l.length ≤ 131072 := hs
      exact of_decide_eq_false hm hs2
    refine (new9 w v ls h hn).mono ?_
    rintro e w' ⟨hb, ⟨_, rfl⟩ | ⟨h1, _⟩⟩
    · exact ⟨rfl, hb⟩
    · exact absurd h1 hs
  · exact new_no w v ls h hn
theorem dx_start {W0 w2 w3 w4 : World} {O P : Nat → Nat} {D : Ds} (h2 : Below W0.heap.size W0 w2) (h3 : Below W0.heap.size W0 w3) (hd : D1 w2 w3 w2.heap.size O D) (hb : Below w3.heap.size w3 w4) (hp : PKw w4 P w3.heap.size D) (hl : ∀ b, P b ≠ 0 → w3.heap.size ≤ b) : DX W0 w4 w2.heap.size w3.heap.size O P D D :=
  ⟨(hd.below hb).dk, hp, fun b hb' => Classical.byContradiction fun h9 => by have := hd.olt b hb'; have := hl b h9; omega, fun b hb' => Nat.le_trans h2.size (hd.lo b hb'), fun b hb' => Nat.le_trans h3.size (hl b hb'), h3.trans (hb.mono h3.size)⟩
theorem rdV_le {D : Ds} {q : Nat} (h : Few D q) (f at_ n : Int) : (rdV D f at_ n).length ≤ 131072 := by
  unfold rdV
  split
  · next h0 =>
    unfold rdE at h0
    by_cases h1 : fndE D.off f = 0
    · obtain ⟨_, i, rfl, hi, _⟩ := fnd_ok (d := 0) h1
      have := h.inv.len i hi
      rw [Int.toNat_natCast, List.length_take, List.length_drop]
      omega
    · rw [if_pos h1] at h0
      exact absurd h0 h1
  · simp
theorem lc_sl {w : World} {base : Nat} {v : Value} {ls : List (List UInt8)} (h : Lc w base v ls) : ∃ ad n cap, v = .slice ad n cap := by
  obtain ⟨ps, _, h2, _⟩ := h
  exact ownsRow_sl h2
/-- Behind a call of the disks: what both answered is one; they are as one. -/
structure Rnd (w W : World) (i : Nat) (d r ev bad : Value) : Prop where
  ex : ∃ d' r' O P D, ∃ x : Int, d = .pointer (some ⟨d', 0, none⟩) ∧ r = .pointer (some ⟨r', 0, none⟩) ∧ ev = .int .i64 x ∧ bad = .int .i64 x ∧ DX w W d' r' O P D D ∧ Few D (i + 1)
set_option maxRecDepth 100000 in
set_option maxHeartbeats 16000000 in
theorem diskExact_walk (w : World) (fv lv : Value) (ls : List (List UInt8)) (xs : List Ac) (hF : Rl w fv ls) (hL : La w lv xs) (hn : ls.length ≤ 1048576) (hs : ∀ l ∈ ls, l.length ≤ 1048576) :
    Calls Try.prog 3 #[.agg #[fv, lv]] w fun e w' => e = .returned (.bool true) ∧ Below w.heap.size w w' := by
  have HF : Hid (Rl w fv ls) := hF
  have HL : Hid (La w lv xs) := hL
  have HS : Hid (ls.length ≤ 1048576 ∧ ∀ l ∈ ls, l.length ≤ 1048576) := ⟨hn, hs⟩
  have hnum : ∀ (n : Int) W, Calls Try.prog 26 #[.int .i64 n] W fun e w' => e = .returned (.int .i64 n) ∧ w' = W := fun n W => lnum n W
  have HNum : Hid _ := hnum
  obtain ⟨fa, fc, rfl, hF9⟩ := hF
  obtain ⟨la, lc, rfl, hlc, hlm, hat⟩ := hL
  clear hnum hF9 hat hs
  obtain ⟨m, hm⟩ : ∃ m, m = xs.length := ⟨_, rfl⟩
  have Hm : Hid (m = xs.length) := hm
  rw [← hm] at hlc hlm HL ⊢
  obtain ⟨fl, hfl⟩ : ∃ fl, fl = ls.length := ⟨_, rfl⟩
  rw [← hfl] at HF hn ⊢
  clear hm hfl
  go_enter Try.func3, Try.ntmps3
  go_upto_region 1 with fail
  obtain ⟨W0, hW0⟩ : ∃ W0, W0 = w.alloc (.cells #[.slice fa fl fc, .slice la m lc] 25) := ⟨_, rfl⟩
  rw [← hW0]
  have hX : Bk W0 w.heap.size #[.slice fa fl fc, .slice la m lc] 25 := by rw [hW0]; exact Bk.new _ _ _
  have hB0 : Below w.heap.size w W0 := by rw [hW0]; exact (Below.refl _ _).alloc (Nat.le_refl _) _
  have HB0 : Hid (Below w.heap.size w W0) := hB0
  clear hW0
  have x0 := hX.cell 0
  have x1 := hX.cell 1
  have xl := hX.lt
  simp only [List.getElem?_toArray, List.getElem?_cons_zero, List.getElem?_cons_succ] at x0 x1
  obtain ⟨X, hXx⟩ : ∃ X, X = w.heap.size := ⟨_, rfl⟩
  rw [← hXx] at x0 x1 xl ⊢
  replace HF : Hid (∀ W, Below W0.heap.size W0 W → Rl W (.slice fa fl fc) ls) := fun W hW => (HF.out.below hB0).below hW
  replace HL : Hid (∀ W, Below W0.heap.size W0 W → La W (.slice la m lc) xs) := fun W hW => (HL.out.below hB0).below hW
  clear hX hXx hB0
  have HHv : Hid (Calls Try.prog 22 #[.agg #[.slice fa fl fc, .slice la m lc]] W0 fun e w' => SomeB e ∧ Below W0.heap.size W0 w') := heavy9 W0 _ _ ls xs (HF.out _ (Below.refl _ _)) (HL.out _ (Below.refl _ _)) HS.out.1 HS.out.2
  go_wp2_with (go_at_call 22; refine stop9 ?_)
  unfold Hold9
  refine Calls.mono HHv.out ?_
  rintro e w1 ⟨⟨c, rfl⟩, hb1⟩
  replace x0 := (hb1.cell (p := ⟨X, 0, none⟩) xl).trans x0
  replace x1 := (hb1.cell (p := ⟨X, 1, none⟩) xl).trans x1
  have HB1 : Hid (Below W0.heap.size W0 w1) := hb1
  have xl1 : X < w1.heap.size := Nat.lt_of_lt_of_le xl hb1.size
  clear hb1 HHv
  cases c with
  | true =>
    go_wp2_with fail
    go_ret
    exact ⟨rfl, HB0.out.trans (HB1.out.mono HB0.out.size)⟩
  | false =>
    have HCp : Hid (Calls Try.prog 24 #[.slice fa fl fc] w1 fun e w' => ∃ u, e = .returned u ∧ Lc w' w1.heap.size u ls ∧ Below w1.heap.size w1 w') := copyCells w1 _ ls (HF.out _ HB1.out) (Nat.le_trans HS.out.1 (by omega)) (fun r hr => Nat.le_trans (HS.out.2 r hr) (by omega))
    go_wp2_with (go_at_call 24; refine stop9 ?_)
    unfold Hold9
    refine Calls.mono HCp.out ?_
    rintro e w2 ⟨u2, rfl, hl2, hb2⟩
    have hrl2 : Rl w2 u2 ls := hl2.rl (Nat.le_trans HS.out.1 (by omega)) (fun r hr => Nat.le_trans (HS.out.2 r hr) (by omega))
    replace x0 := (hb2.cell (p := ⟨X, 0, none⟩) xl1).trans x0
    replace x1 := (hb2.cell (p := ⟨X, 1, none⟩) xl1).trans x1
    have HB2 : Hid (Below W0.heap.size W0 w2) := HB1.out.trans (hb2.mono HB1.out.size)
    have xl2 : X < w2.heap.size := Nat.lt_of_lt_of_le xl1 hb2.size
    have HMay : Hid (∀ W, Below W0.heap.size W0 W → Calls Try.prog 25 #[.slice fa fl fc] W fun e w' => e = .returned (.bool (mayB ls)) ∧ w' = W) := fun W hW => pmay W _ ls (HF.out W hW)
    clear hl2 hb2 HCp HB1 xl1
    cases hmay : mayB ls with
    | false =>
      rw [hmay] at HMay
      have HNew : Hid (Calls Try.prog 23 #[u2] w2 fun e w' => e = .returned (.tuple #[.pointer none, .int .i64 1]) ∧ Below w2.heap.size w2 w') := new_false w2 u2 ls hrl2 hmay
      clear hmay hrl2
      go_wp2_with (first | (go_at_call 23; refine Calls.mono HNew.out ?_; rintro e w3 ⟨rfl, hb3⟩; have x0' := (hb3.cell (p := ⟨X, 0, none⟩) xl2).trans x0; have HB3 : Hid (Below W0.heap.size W0 w3) := HB2.out.trans (hb3.mono HB2.out.size); clear hb3) | (go_at_call 25; refine Calls.mono (HMay.out _ HB3.out) ?_; rintro e w9 ⟨rfl, e9⟩; have e9 := e9.symm; subst e9) | (go_at_call 26; refine Calls.mono (HNum.out _ _) ?_; rintro e w9 ⟨rfl, e9⟩; have e9 := e9.symm; subst e9) | (go_at_call 27; refine (wakes9 _).mono ?_; rintro e w4 ⟨rfl, hb4⟩; have HB4 : Hid (Below W0.heap.size W0 w4) := HB3.out.trans (hb4.mono HB3.out.size)))
      go_ret
      exact ⟨rfl, HB0.out.trans (HB4.out.mono HB0.out.size)⟩
    | true =>
      rw [hmay] at HMay
      obtain ⟨hlen, hsml⟩ := mayB_true hmay
      have HNew : Hid (Calls Try.prog 23 #[u2] w2 fun e w' => e = .returned (.tuple #[.pointer (some ⟨w2.heap.size, 0, none⟩), .int .i64 0]) ∧ Below w2.heap.size w2 w' ∧ ∃ O, D1 w2 w' w2.heap.size O (dsN ls 8)) := d1New w2 u2 ls hrl2 hlen hsml
      have HPn : Hid (∀ W, Below W0.heap.size W0 W → Calls Try.prog 28 #[.slice fa fl fc] W fun e w' => e = .returned (.pointer (some ⟨W.heap.size, 0, none⟩)) ∧ Below W.heap.size W w' ∧ ∃ O, PKw w' O W.heap.size (dsN ls 8) ∧ ∀ b, O b ≠ 0 → W.heap.size ≤ b) := fun W hW => pnew W _ ls (HF.out W hW) hlen hsml
      have HFw : Hid (Few (dsN ls 8) 0) := Few.new hsml 8 0
      clear hmay hrl2 hlen hsml
      go_wp2_with (first | (go_at_call 23; refine Calls.mono HNew.out ?_; rintro e w3 ⟨rfl, hb3, O3, h3⟩; have x0' := (hb3.cell (p := ⟨X, 0, none⟩) xl2).trans x0; have x1' := (hb3.cell (p := ⟨X, 1, none⟩) xl2).trans x1; have HB3 : Hid (Below W0.heap.size W0 w3) := HB2.out.trans (hb3.mono HB2.out.size); have H3 : Hid (D1 w2 w3 w2.heap.size O3 (dsN ls 8)) := h3; have xl3 : X < w3.heap.size := Nat.lt_of_lt_of_le xl2 hb3.size; clear hb3 h3) | (go_at_call 25; refine Calls.mono (HMay.out _ HB3.out) ?_; rintro e w9 ⟨rfl, e9⟩; have e9 := e9.symm; subst e9) | (go_at_call 26; refine Calls.mono (HNum.out _ _) ?_; rintro e w9 ⟨rfl, e9⟩; have e9 := e9.symm; subst e9) | (go_at_call 28; refine Calls.mono (HPn.out _ HB3.out) ?_; rintro e w4 ⟨rfl, hb4, P4, h4, l4⟩; have x1'' := (hb4.cell (p := ⟨X, 1, none⟩) xl3).trans x1'; have HD0 : Hid (DX W0 w4 w2.heap.size w3.heap.size O3 P4 (dsN ls 8) (dsN ls 8)) := dx_start HB2.out HB3.out H3.out hb4 h4 l4; clear hb4 h4 l4))
      have x1w : ∀ W, Below W0.heap.size W0 W → W.cell? ⟨X, 1, none⟩ = some (.slice la m lc) ∧ X < W.heap.size := fun W hW => ⟨(HF.out W hW |> fun _ => (hW.cell (p := ⟨X, 1, none⟩) xl)).trans (by rw [← (HD0.out.bel.cell (p := ⟨X, 1, none⟩) xl)]; exact x1''), Nat.lt_of_lt_of_le xl hW.size⟩
      have HX1 : Hid _ := x1w
      clear x0 x1 x0' x1' x1'' xl2 xl3 x1w
      go_loopw [3, 5, 6] (fun dv rv i wr => ∃ k d r O P D, k ≤ m ∧ k ≤ 40 ∧ i = .int .i64 ((k : Nat) : Int) ∧ dv = .pointer (some ⟨d, 0, none⟩) ∧ rv = .pointer (some ⟨r, 0, none⟩) ∧ DX W0 wr d r O P D D ∧ Few D k) (fun _ _ i _ => m - (intOf i).toNat)
      case atStart => exact ⟨0, _, _, _, _, _, by omega, by omega, rfl, rfl, rfl, HD0.out, HFw.out⟩
      case round =>
        clear HD0 HFw
        obtain ⟨k, d, r, O, P, D, hk, hk40, rfl, rfl, rfl, hdx, hfew⟩ := hrel
        have HDX : Hid (DX W0 wr d r O P D D) := hdx
        have HFw : Hid (Few D k) := hfew
        obtain ⟨x1, xlr⟩ := HX1.out wr hdx.bel
        clear hdx hfew
        by_cases hlt : k < m
        · have hlt' : (k : Int) < (m : Int) := by omega
          by_cases h40 : k < 40
          · have h40' : (k : Int) < 40 := by omega
            have hix : k < xs.length := by have := Hm.out; omega
            obtain ⟨b, off, bv, pv, e3, hr, hbv, hpv, hw⟩ := la_at (HL.out W0 (Below.refl _ _)) k hix
            subst e3
            have HBv : Hid (Rb W0 bv (xs[k]'hix).bs) := hbv
            have HPv : Hid (Rp W0 pv (xs[k]'hix).ps) := hpv
            have HW : Hid (Acw (xs[k]'hix)) := hw
            generalize xs[k]'hix = a at *
            have hr2 : ∀ j x, (acc a bv pv).toList[j]? = some x → wr.cell? ⟨b, off + k * 6 + j, none⟩ = some x := fun j x hx => (HDX.out.bel.cell (World.block_lt_of_cell? W0 _ (hr j x hx))).trans (hr j x hx)
            have k0 := hr2 0 _ rfl
            have k1 := hr2 1 _ rfl
            have k2 := hr2 2 _ rfl
            have k3 := hr2 3 _ rfl
            have k4 := hr2 4 _ rfl
            have k5 := hr2 5 _ rfl
            rw [Nat.add_zero] at k0
            obtain ⟨ba, bc9, ebv, hb9⟩ := hbv
            subst ebv
            obtain ⟨pa, pc, epv, hp9⟩ := hpv
            subst epv
            clear hr hr2 hb9 hp9 hw
            obtain ⟨bl, hbl⟩ : ∃ bl, bl = a.bs.length := ⟨_, rfl⟩
            obtain ⟨pl, hpl⟩ : ∃ pl, pl = a.ps.length := ⟨_, rfl⟩
            have Hbl : Hid (bl = a.bs.length ∧ pl = a.ps.length) := ⟨hbl, hpl⟩
            rw [← hbl] at HBv k4
            rw [← hpl] at HPv k5
            clear hbl hpl
            go_upto_region 13 with fail
            obtain ⟨W, hW⟩ : ∃ W, W = wr.alloc (.cells (acc a (.slice ba bl bc9) (.slice pa pl pc)) 40) := ⟨_, rfl⟩
            rw [← hW]
            have hy : DY W0 W d r wr.heap.size O P D D (acc a (.slice ba bl bc9) (.slice pa pl pc)) := by
              rw [hW]
              exact ⟨HDX.out.below ((Below.refl _ _).alloc (Nat.le_refl _) _), Bk.new _ _ _, Classical.byContradiction fun h9 => by have := HDX.out.olt _ h9; omega, Classical.byContradiction fun h9 => by have := HDX.out.plt _ h9; omega⟩
            obtain ⟨X9, hX9⟩ : ∃ X9, X9 = wr.heap.size := ⟨_, rfl⟩
            rw [← hX9] at hy ⊢
            have HY : Hid (DY W0 W d r X9 O P D D (acc a (.slice ba bl bc9) (.slice pa pl pc))) := hy
            have x0 := hy.bx.cell 0
            have x1 := hy.bx.cell 1
            have x2 := hy.bx.cell 2
            have x3 := hy.bx.cell 3
            have x4 := hy.bx.cell 4
            have x5 := hy.bx.cell 5
            have xl9 := hy.bx.lt
            simp only [List.getElem?_toArray, List.getElem?_cons_zero, List.getElem?_cons_succ] at x0 x1 x2 x3 x4 x5
            clear hW hy hX9 k0 k1 k2 k3 k4 k5 xlr HDX
            have hwit := within9 a.op 13 (by omega) (by omega)
            have HWi : Hid _ := hwit
            clear hwit
            go_upto_block 2 with (go_at_call 29; refine Calls.mono (HWi.out _) ?_; rintro e w9 ⟨⟨z, hz, rfl⟩, e9⟩; have e9 := e9.symm; subst e9)
            go_cut [3, 5, 8, 9] (fun dv rv ev bad wx => Rnd W0 wx k dv rv ev bad)
            case first =>
              have h13 : z = 0 ∨ z = 1 ∨ z = 2 ∨ z = 3 ∨ z = 4 ∨ z = 5 ∨ z = 6 ∨ z = 7 ∨ z = 8 ∨ z = 9 ∨ z = 10 ∨ z = 11 ∨ z = 12 := by omega
              clear hz HWi
              rcases h13 with rfl | rfl | rfl | rfl | rfl | rfl | rfl | rfl | rfl | rfl | rfl | rfl | rfl
              · -- 0
                as_aux_lemma =>
                  have H1 := xSize HY.out a.n
                  have H2 := ySize HY.out a.n
                  generalize sizeV D a.n = sv at H1 H2
                  have H1 : Hid (Calls Try.prog 30 #[.pointer (some ⟨d, 0, none⟩), .int .i64 a.n] W fun e w' => e = .returned (.tuple #[.int .i64 sv, .int .i64 (fndE D.off a.n)]) ∧ w' = W) := H1
                  have H2 : Hid (Calls Try.prog 31 #[.pointer (some ⟨r, 0, none⟩), .int .i64 a.n] W fun e w' => e = .returned (.tuple #[.int .i64 sv, .int .i64 (fndE D.off a.n)]) ∧ w' = W) := H2
                  generalize fndE D.off a.n = ev at *
                  go_wp2_with (first | (go_at_call 30; refine Calls.mono (H1.out) ?_; rintro e w9 ⟨rfl, e9⟩; have e9 := e9.symm; subst e9) | (go_at_call 31; refine Calls.mono (H2.out) ?_; rintro e w9 ⟨rfl, e9⟩; have e9 := e9.symm; subst e9))
                  go_meet
                  exact ⟨⟨_, _, _, _, _, ev, rfl, rfl, rfl, rfl, HY.out.dx, HFw.out.le (by omega)⟩⟩
              · -- 1
                as_aux_lemma =>
                  have H1 := d1Read HY.out.dx.d1 HFw.out a.n a.pos a.k HW.out.k HW.out.pos
                  have H2 : Hid (∀ W', Below W.heap.size W W' → Calls Try.prog 33 #[.pointer (some ⟨r, 0, none⟩), .int .i64 a.n, .int .i64 a.pos, .int .i64 a.k] W' fun e w' => ∃ v', e = .returned (.tuple #[v', .int .i64 (rdE D a.n a.pos a.k)]) ∧ Ow w' W'.heap.size v' (rdV D a.n a.pos a.k) ∧ Below W'.heap.size W' w') := fun W' hW => yRead (HY.out.below hW) HFw.out a.n a.pos a.k HW.out.k HW.out.pos
                  have H1 : Hid (Calls Try.prog 32 #[.pointer (some ⟨d, 0, none⟩), .int .i64 a.n, .int .i64 a.pos, .int .i64 a.k] W fun e w' => ∃ v', e = .returned (.tuple #[v', .int .i64 (rdE D a.n a.pos a.k)]) ∧ Ow w' W.heap.size v' (rdV D a.n a.pos a.k) ∧ Below W.heap.size W w') := H1
                  have hrl : (rdV D a.n a.pos a.k).length ≤ 131072 := rdV_le HFw.out a.n a.pos a.k
                  have HRl : Hid ((rdV D a.n a.pos a.k).length ≤ 131072) := hrl
                  clear hrl
                  generalize rdE D a.n a.pos a.k = ev at *
                  generalize rdV D a.n a.pos a.k = row at *
                  go_wp2_with (go_at_call 32; refine stop9 ?_)
                  unfold Hold9
                  refine Calls.mono H1.out ?_
                  rintro e w3 ⟨u3, rfl, ho3, hb3⟩
                  have hy3 := HY.out.below hb3
                  have y1 := hy3.bx.cell 1
                  have y2 := hy3.bx.cell 2
                  have y3 := hy3.bx.cell 3
                  have yl := hy3.bx.lt
                  simp only [List.getElem?_toArray, List.getElem?_cons_zero, List.getElem?_cons_succ] at y1 y2 y3
                  have HB3 : Hid (Below W.heap.size W w3) := hb3
                  have HO3 : Hid (Ow w3 W.heap.size u3 row) := ho3
                  obtain ⟨a3, n3, c3, rfl⟩ := ownsRow_sl ho3
                  clear ho3 hb3 hy3 x0 x1 x2 x3 x4 x5 xl9 H1
                  go_wp2_with (go_at_call 33; refine stop9 ?_)
                  unfold Hold9
                  refine Calls.mono (H2.out _ HB3.out) ?_
                  rintro e w4 ⟨u4, rfl, ho4, hb4⟩
                  have HB4 : Hid (Below W.heap.size W w4) := HB3.out.trans (hb4.mono HB3.out.size)
                  have HO34 : Hid (Ow w4 W.heap.size (.slice a3 n3 c3) row ∧ Ow w4 W.heap.size u4 row) := ⟨HO3.out.below hb4 HO3.out.lt, ow_up ho4 HB3.out.size⟩
                  obtain ⟨a4, n4, c4, rfl⟩ := ownsRow_sl ho4
                  clear ho4 hb4 HO3 y1 y2 y3 yl H2
                  have HEq : Hid (Calls Try.prog 34 #[.slice a3 n3 c3, .slice a4 n4 c4] w4 fun e w' => e = .returned (.bool true) ∧ Below w4.heap.size w4 w') := by
                    have h9 := eqBytes w4 _ _ _ _ (HO34.out.1.rb (by have := HRl.out; omega)) (HO34.out.2.rb (by have := HRl.out; omega))
                    rw [decide_eq_true (rfl : row = row)] at h9
                    exact h9
                  go_wp2_with (go_at_call 34; refine stop9 ?_)
                  unfold Hold9
                  refine Calls.mono HEq.out ?_
                  rintro e w5 ⟨rfl, hb5⟩
                  have ho5 := HO34.out.1.below hb5 HO34.out.1.lt
                  have hy5 := (HY.out.below HB4.out).below hb5
                  have hd5 : ∀ b, (Value.slice a3 n3 c3).ownBlock = some b → O b = 0 ∧ P b = 0 ∧ W0.heap.size ≤ b ∧ b ≠ X9 := fun b e => ⟨(HY.out.new (ho5.ge e).1).1, (HY.out.new (ho5.ge e).1).2.1, Nat.le_trans HY.out.dx.bel.size (ho5.ge e).1, (HY.out.new (ho5.ge e).1).2.2⟩
                  have HSp : Hid (Calls Try.prog 35 #[.slice a3 n3 c3] w5 fun e w' => (∃ x, e = .returned x) ∧ w5.grownBy w' (Value.slice a3 n3 c3).ownBlock) := spoil9 w5 _ _ ho5.base0 (by have := HRl.out; omega)
                  have HY5 : Hid (DY W0 w5 d r X9 O P D D (acc a (.slice ba bl bc9) (.slice pa pl pc)) ∧ ∀ b, (Value.slice a3 n3 c3).ownBlock = some b → O b = 0 ∧ P b = 0 ∧ W0.heap.size ≤ b ∧ b ≠ X9) := ⟨hy5, hd5⟩
                  clear ho5 hy5 hd5 hb5 HO34 HEq
                  go_wp2_with (go_at_call 35; refine stop9 ?_)
                  unfold Hold9
                  refine Calls.mono HSp.out ?_
                  rintro e w6 ⟨⟨v6, rfl⟩, hg6⟩
                  have H6 : Hid (DX W0 w6 d r O P D D) := (HY5.out.1.grown hg6 HY5.out.2).dx
                  clear hg6 HSp
                  go_wp2_with fail
                  go_meet
                  exact ⟨⟨_, _, _, _, _, ev, rfl, rfl, rfl, rfl, H6.out, HFw.out.le (by omega)⟩⟩
              · -- 2
                as_aux_lemma =>
                  have H1 := d1Read HY.out.dx.d1 HFw.out a.n a.pos a.k HW.out.k HW.out.pos
                  have H2 : Hid (∀ W', Below W.heap.size W W' → Calls Try.prog 33 #[.pointer (some ⟨r, 0, none⟩), .int .i64 a.n, .int .i64 a.pos, .int .i64 a.k] W' fun e w' => ∃ v', e = .returned (.tuple #[v', .int .i64 (rdE D a.n a.pos a.k)]) ∧ Ow w' W'.heap.size v' (rdV D a.n a.pos a.k) ∧ Below W'.heap.size W' w') := fun W' hW => yRead (HY.out.below hW) HFw.out a.n a.pos a.k HW.out.k HW.out.pos
                  have H1 : Hid (Calls Try.prog 32 #[.pointer (some ⟨d, 0, none⟩), .int .i64 a.n, .int .i64 a.pos, .int .i64 a.k] W fun e w' => ∃ v', e = .returned (.tuple #[v', .int .i64 (rdE D a.n a.pos a.k)]) ∧ Ow w' W.heap.size v' (rdV D a.n a.pos a.k) ∧ Below W.heap.size W w') := H1
                  have hrl : (rdV D a.n a.pos a.k).length ≤ 131072 := rdV_le HFw.out a.n a.pos a.k
                  have HRl : Hid ((rdV D a.n a.pos a.k).length ≤ 131072) := hrl
                  clear hrl
                  generalize rdE D a.n a.pos a.k = ev at *
                  generalize rdV D a.n a.pos a.k = row at *
                  go_wp2_with (go_at_call 32; refine stop9 ?_)
                  unfold Hold9
                  refine Calls.mono H1.out ?_
                  rintro e w3 ⟨u3, rfl, ho3, hb3⟩
                  have hy3 := HY.out.below hb3
                  have y1 := hy3.bx.cell 1
                  have y2 := hy3.bx.cell 2
                  have y3 := hy3.bx.cell 3
                  have yl := hy3.bx.lt
                  simp only [List.getElem?_toArray, List.getElem?_cons_zero, List.getElem?_cons_succ] at y1 y2 y3
                  have HB3 : Hid (Below W.heap.size W w3) := hb3
                  have HO3 : Hid (Ow w3 W.heap.size u3 row) := ho3
                  obtain ⟨a3, n3, c3, rfl⟩ := ownsRow_sl ho3
                  clear ho3 hb3 hy3 x0 x1 x2 x3 x4 x5 xl9 H1
                  go_wp2_with (go_at_call 33; refine stop9 ?_)
                  unfold Hold9
                  refine Calls.mono (H2.out _ HB3.out) ?_
                  rintro e w4 ⟨u4, rfl, ho4, hb4⟩
                  have HB4 : Hid (Below W.heap.size W w4) := HB3.out.trans (hb4.mono HB3.out.size)
                  have HO34 : Hid (Ow w4 W.heap.size (.slice a3 n3 c3) row ∧ Ow w4 W.heap.size u4 row) := ⟨HO3.out.below hb4 HO3.out.lt, ow_up ho4 HB3.out.size⟩
                  obtain ⟨a4, n4, c4, rfl⟩ := ownsRow_sl ho4
                  clear ho4 hb4 HO3 y1 y2 y3 yl H2
                  have HEq : Hid (Calls Try.prog 34 #[.slice a3 n3 c3, .slice a4 n4 c4] w4 fun e w' => e = .returned (.bool true) ∧ Below w4.heap.size w4 w') := by
                    have h9 := eqBytes w4 _ _ _ _ (HO34.out.1.rb (by have := HRl.out; omega)) (HO34.out.2.rb (by have := HRl.out; omega))
                    rw [decide_eq_true (rfl : row = row)] at h9
                    exact h9
                  go_wp2_with (go_at_call 34; refine stop9 ?_)
                  unfold Hold9
                  refine Calls.mono HEq.out ?_
                  rintro e w5 ⟨rfl, hb5⟩
                  have ho5 := HO34.out.1.below hb5 HO34.out.1.lt
                  have hy5 := (HY.out.below HB4.out).below hb5
                  have hd5 : ∀ b, (Value.slice a3 n3 c3).ownBlock = some b → O b = 0 ∧ P b = 0 ∧ W0.heap.size ≤ b ∧ b ≠ X9 := fun b e => ⟨(HY.out.new (ho5.ge e).1).1, (HY.out.new (ho5.ge e).1).2.1, Nat.le_trans HY.out.dx.bel.size (ho5.ge e).1, (HY.out.new (ho5.ge e).1).2.2⟩
                  have HSp : Hid (Calls Try.prog 35 #[.slice a3 n3 c3] w5 fun e w' => (∃ x, e = .returned x) ∧ w5.grownBy w' (Value.slice a3 n3 c3).ownBlock) := spoil9 w5 _ _ ho5.base0 (by have := HRl.out; omega)
                  have HY5 : Hid (DY W0 w5 d r X9 O P D D (acc a (.slice ba bl bc9) (.slice pa pl pc)) ∧ ∀ b, (Value.slice a3 n3 c3).ownBlock = some b → O b = 0 ∧ P b = 0 ∧ W0.heap.size ≤ b ∧ b ≠ X9) := ⟨hy5, hd5⟩
                  clear ho5 hy5 hd5 hb5 HO34 HEq
                  go_wp2_with (go_at_call 35; refine stop9 ?_)
                  unfold Hold9
                  refine Calls.mono HSp.out ?_
                  rintro e w6 ⟨⟨v6, rfl⟩, hg6⟩
                  have H6 : Hid (DX W0 w6 d r O P D D) := (HY5.out.1.grown hg6 HY5.out.2).dx
                  clear hg6 HSp
                  go_wp2_with fail
                  go_meet
                  exact ⟨⟨_, _, _, _, _, ev, rfl, rfl, rfl, rfl, H6.out, HFw.out.le (by omega)⟩⟩
              · -- 3
                as_aux_lemma =>
                  have HCb : Hid (Calls Try.prog 49 #[.slice ba bl bc9] W fun e w' => ∃ u, e = .returned u ∧ Ow w' W.heap.size u a.bs ∧ Below W.heap.size W w') := copyBytes W _ _ (HBv.out.below HY.out.dx.bel) (Nat.le_trans HW.out.bs (by omega))
                  go_wp2_with (go_at_call 49; refine stop9 ?_)
                  unfold Hold9
                  refine Calls.mono HCb.out ?_
                  rintro e w3 ⟨u3, rfl, ho3, hb3⟩
                  have hy3 := HY.out.below hb3
                  have HY3 : Hid (DY W0 w3 d r X9 O P D D (acc a (.slice ba bl bc9) (.slice pa pl pc))) := hy3
                  have HO3 : Hid (Ow w3 0 u3 a.bs ∧ ∀ b, u3.ownBlock = some b → O b = 0 ∧ P b = 0 ∧ W0.heap.size ≤ b ∧ b ≠ X9) := ⟨ho3.base0, fun b e => ⟨(HY.out.new (ho3.ge e).1).1, (HY.out.new (ho3.ge e).1).2.1, Nat.le_trans HY.out.dx.bel.size (ho3.ge e).1, (HY.out.new (ho3.ge e).1).2.2⟩⟩
                  have y1 := hy3.bx.cell 1
                  have y2 := hy3.bx.cell 2
                  have yl := hy3.bx.lt
                  simp only [List.getElem?_toArray, List.getElem?_cons_zero, List.getElem?_cons_succ] at y1 y2
                  obtain ⟨a3, n3, c3, rfl⟩ := ownsRow_sl ho3
                  clear ho3 hb3 hy3 x0 x1 x2 x3 x4 x5 xl9 HCb
                  go_wp2_with (go_at_call 50; refine stop9 ?_)
                  unfold Hold9
                  refine Calls.mono (xWrite HY3.out HFw.out (by omega) a.n a.pos HO3.out.1 (Nat.le_trans HW.out.bs (by omega)) HO3.out.2) ?_
                  rintro e w4 ⟨rfl, O4, h4, ho4, hd4⟩
                  have HS4 : Hid (Calls Try.prog 35 #[.slice a3 n3 c3] w4 fun e w' => (∃ x, e = .returned x) ∧ w4.grownBy w' (Value.slice a3 n3 c3).ownBlock) := spoil9 w4 _ _ ho4 (Nat.le_trans HW.out.bs (by omega))
                  have HY4 : Hid (DY W0 w4 d r X9 O4 P (wrD D a.n a.pos a.bs) D (acc a (.slice ba bl bc9) (.slice pa pl pc)) ∧ ∀ b, (Value.slice a3 n3 c3).ownBlock = some b → O4 b = 0 ∧ P b = 0 ∧ W0.heap.size ≤ b ∧ b ≠ X9) := ⟨h4, hd4⟩
                  clear h4 ho4 hd4 y1 y2 yl HO3 HY3
                  go_wp2_with (go_at_call 35; refine stop9 ?_)
                  unfold Hold9
                  refine Calls.mono HS4.out ?_
                  rintro e w5 ⟨⟨v5, rfl⟩, hg5⟩
                  have hy5 := HY4.out.1.grown hg5 HY4.out.2
                  have y1 := hy5.bx.cell 1
                  have y2 := hy5.bx.cell 2
                  have y4 := hy5.bx.cell 4
                  have yl := hy5.bx.lt
                  simp only [List.getElem?_toArray, List.getElem?_cons_zero, List.getElem?_cons_succ] at y1 y2 y4
                  have hbw := HBv.out.below hy5.dx.bel
                  have ho := rb_old HBv.out
                  have hpw : ∀ n9, n9 = a.bs.length → Rb w5 (.slice ba n9 bc9) a.bs → Calls Try.prog 51 #[.pointer (some ⟨r, 0, none⟩), .int .i64 a.n, .int .i64 a.pos, .slice ba n9 bc9] w5 fun e w' => e = .returned (.int .i64 (wrE D a.n a.pos a.bs.length)) ∧ ∃ P', DY W0 w' d r X9 O4 P' (wrD D a.n a.pos a.bs) (wrD D a.n a.pos a.bs) (acc a (.slice ba bl bc9) (.slice pa pl pc)) := by
                    intro n9 e9 hb9
                    subst e9
                    exact yWrite hy5 HFw.out (by omega) HY.out.dx.bnd a.n a.pos ba a.bs bc9 hb9 (fun hn b n e => (hy5.old (ho hn b n e)).2)
                  have HPw : Hid (Calls Try.prog 51 #[.pointer (some ⟨r, 0, none⟩), .int .i64 a.n, .int .i64 a.pos, .slice ba bl bc9] w5 fun e w' => e = .returned (.int .i64 (wrE D a.n a.pos a.bs.length)) ∧ ∃ P', DY W0 w' d r X9 O4 P' (wrD D a.n a.pos a.bs) (wrD D a.n a.pos a.bs) (acc a (.slice ba bl bc9) (.slice pa pl pc))) := hpw bl Hbl.out.1 hbw
                  clear hbw ho hpw
                  clear hg5 hy5 HS4 HY4
                  generalize wrE D a.n a.pos a.bs.length = ev at *
                  go_wp2_with (go_at_call 51; refine stop9 ?_)
                  unfold Hold9
                  refine Calls.mono HPw.out ?_
                  rintro e w6 ⟨rfl, P6, h6⟩
                  have H6 : Hid (DX W0 w6 d r O4 P6 (wrD D a.n a.pos a.bs) (wrD D a.n a.pos a.bs)) := h6.dx
                  clear h6 y1 y2 y4 yl HPw
                  go_wp2_with fail
                  go_meet
                  exact ⟨⟨_, _, _, _, _, ev, rfl, rfl, rfl, rfl, H6.out, HFw.out.wrD a.n a.pos a.bs⟩⟩
              · -- 4
                as_aux_lemma =>
                  have HCb : Hid (Calls Try.prog 49 #[.slice ba bl bc9] W fun e w' => ∃ u, e = .returned u ∧ Ow w' W.heap.size u a.bs ∧ Below W.heap.size W w') := copyBytes W _ _ (HBv.out.below HY.out.dx.bel) (Nat.le_trans HW.out.bs (by omega))
                  go_wp2_with (go_at_call 49; refine stop9 ?_)
                  unfold Hold9
                  refine Calls.mono HCb.out ?_
                  rintro e w3 ⟨u3, rfl, ho3, hb3⟩
                  have hy3 := HY.out.below hb3
                  have HY3 : Hid (DY W0 w3 d r X9 O P D D (acc a (.slice ba bl bc9) (.slice pa pl pc))) := hy3
                  have HO3 : Hid (Ow w3 0 u3 a.bs ∧ ∀ b, u3.ownBlock = some b → O b = 0 ∧ P b = 0 ∧ W0.heap.size ≤ b ∧ b ≠ X9) := ⟨ho3.base0, fun b e => ⟨(HY.out.new (ho3.ge e).1).1, (HY.out.new (ho3.ge e).1).2.1, Nat.le_trans HY.out.dx.bel.size (ho3.ge e).1, (HY.out.new (ho3.ge e).1).2.2⟩⟩
                  have y1 := hy3.bx.cell 1
                  have y2 := hy3.bx.cell 2
                  have yl := hy3.bx.lt
                  simp only [List.getElem?_toArray, List.getElem?_cons_zero, List.getElem?_cons_succ] at y1 y2
                  obtain ⟨a3, n3, c3, rfl⟩ := ownsRow_sl ho3
                  clear ho3 hb3 hy3 x0 x1 x2 x3 x4 x5 xl9 HCb
                  go_wp2_with (go_at_call 50; refine stop9 ?_)
                  unfold Hold9
                  refine Calls.mono (xWrite HY3.out HFw.out (by omega) a.n a.pos HO3.out.1 (Nat.le_trans HW.out.bs (by omega)) HO3.out.2) ?_
                  rintro e w4 ⟨rfl, O4, h4, ho4, hd4⟩
                  have HS4 : Hid (Calls Try.prog 35 #[.slice a3 n3 c3] w4 fun e w' => (∃ x, e = .returned x) ∧ w4.grownBy w' (Value.slice a3 n3 c3).ownBlock) := spoil9 w4 _ _ ho4 (Nat.le_trans HW.out.bs (by omega))
                  have HY4 : Hid (DY W0 w4 d r X9 O4 P (wrD D a.n a.pos a.bs) D (acc a (.slice ba bl bc9) (.slice pa pl pc)) ∧ ∀ b, (Value.slice a3 n3 c3).ownBlock = some b → O4 b = 0 ∧ P b = 0 ∧ W0.heap.size ≤ b ∧ b ≠ X9) := ⟨h4, hd4⟩
                  clear h4 ho4 hd4 y1 y2 yl HO3 HY3
                  go_wp2_with (go_at_call 35; refine stop9 ?_)
                  unfold Hold9
                  refine Calls.mono HS4.out ?_
                  rintro e w5 ⟨⟨v5, rfl⟩, hg5⟩
                  have hy5 := HY4.out.1.grown hg5 HY4.out.2
                  have y1 := hy5.bx.cell 1
                  have y2 := hy5.bx.cell 2
                  have y4 := hy5.bx.cell 4
                  have yl := hy5.bx.lt
                  simp only [List.getElem?_toArray, List.getElem?_cons_zero, List.getElem?_cons_succ] at y1 y2 y4
                  have hbw := HBv.out.below hy5.dx.bel
                  have ho := rb_old HBv.out
                  have hpw : ∀ n9, n9 = a.bs.length → Rb w5 (.slice ba n9 bc9) a.bs → Calls Try.prog 51 #[.pointer (some ⟨r, 0, none⟩), .int .i64 a.n, .int .i64 a.pos, .slice ba n9 bc9] w5 fun e w' => e = .returned (.int .i64 (wrE D a.n a.pos a.bs.length)) ∧ ∃ P', DY W0 w' d r X9 O4 P' (wrD D a.n a.pos a.bs) (wrD D a.n a.pos a.bs) (acc a (.slice ba bl bc9) (.slice pa pl pc)) := by
                    intro n9 e9 hb9
                    subst e9
                    exact yWrite hy5 HFw.out (by omega) HY.out.dx.bnd a.n a.pos ba a.bs bc9 hb9 (fun hn b n e => (hy5.old (ho hn b n e)).2)
                  have HPw : Hid (Calls Try.prog 51 #[.pointer (some ⟨r, 0, none⟩), .int .i64 a.n, .int .i64 a.pos, .slice ba bl bc9] w5 fun e w' => e = .returned (.int .i64 (wrE D a.n a.pos a.bs.length)) ∧ ∃ P', DY W0 w' d r X9 O4 P' (wrD D a.n a.pos a.bs) (wrD D a.n a.pos a.bs) (acc a (.slice ba bl bc9) (.slice pa pl pc))) := hpw bl Hbl.out.1 hbw
                  clear hbw ho hpw
                  clear hg5 hy5 HS4 HY4
                  generalize wrE D a.n a.pos a.bs.length = ev at *
                  go_wp2_with (go_at_call 51; refine stop9 ?_)
                  unfold Hold9
                  refine Calls.mono HPw.out ?_
                  rintro e w6 ⟨rfl, P6, h6⟩
                  have H6 : Hid (DX W0 w6 d r O4 P6 (wrD D a.n a.pos a.bs) (wrD D a.n a.pos a.bs)) := h6.dx
                  clear h6 y1 y2 y4 yl HPw
                  go_wp2_with fail
                  go_meet
                  exact ⟨⟨_, _, _, _, _, ev, rfl, rfl, rfl, rfl, H6.out, HFw.out.wrD a.n a.pos a.bs⟩⟩
              · -- 5
                as_aux_lemma =>
                  have HCb : Hid (Calls Try.prog 49 #[.slice ba bl bc9] W fun e w' => ∃ u, e = .returned u ∧ Ow w' W.heap.size u a.bs ∧ Below W.heap.size W w') := copyBytes W _ _ (HBv.out.below HY.out.dx.bel) (Nat.le_trans HW.out.bs (by omega))
                  go_wp2_with (go_at_call 49; refine stop9 ?_)
                  unfold Hold9
                  refine Calls.mono HCb.out ?_
                  rintro e w3 ⟨u3, rfl, ho3, hb3⟩
                  have hy3 := HY.out.below hb3
                  have HY3 : Hid (DY W0 w3 d r X9 O P D D (acc a (.slice ba bl bc9) (.slice pa pl pc))) := hy3
                  have HO3 : Hid (Ow w3 0 u3 a.bs ∧ ∀ b, u3.ownBlock = some b → O b = 0 ∧ P b = 0 ∧ W0.heap.size ≤ b ∧ b ≠ X9) := ⟨ho3.base0, fun b e => ⟨(HY.out.new (ho3.ge e).1).1, (HY.out.new (ho3.ge e).1).2.1, Nat.le_trans HY.out.dx.bel.size (ho3.ge e).1, (HY.out.new (ho3.ge e).1).2.2⟩⟩
                  have y1 := hy3.bx.cell 1
                  have y2 := hy3.bx.cell 2
                  have yl := hy3.bx.lt
                  simp only [List.getElem?_toArray, List.getElem?_cons_zero, List.getElem?_cons_succ] at y1 y2
                  obtain ⟨a3, n3, c3, rfl⟩ := ownsRow_sl ho3
                  clear ho3 hb3 hy3 x0 x1 x2 x3 x4 x5 xl9 HCb
                  go_wp2_with (go_at_call 50; refine stop9 ?_)
                  unfold Hold9
                  refine Calls.mono (xWrite HY3.out HFw.out (by omega) a.n a.pos HO3.out.1 (Nat.le_trans HW.out.bs (by omega)) HO3.out.2) ?_
                  rintro e w4 ⟨rfl, O4, h4, ho4, hd4⟩
                  have HS4 : Hid (Calls Try.prog 35 #[.slice a3 n3 c3] w4 fun e w' => (∃ x, e = .returned x) ∧ w4.grownBy w' (Value.slice a3 n3 c3).ownBlock) := spoil9 w4 _ _ ho4 (Nat.le_trans HW.out.bs (by omega))
                  have HY4 : Hid (DY W0 w4 d r X9 O4 P (wrD D a.n a.pos a.bs) D (acc a (.slice ba bl bc9) (.slice pa pl pc)) ∧ ∀ b, (Value.slice a3 n3 c3).ownBlock = some b → O4 b = 0 ∧ P b = 0 ∧ W0.heap.size ≤ b ∧ b ≠ X9) := ⟨h4, hd4⟩
                  clear h4 ho4 hd4 y1 y2 yl HO3 HY3
                  go_wp2_with (go_at_call 35; refine stop9 ?_)
                  unfold Hold9
                  refine Calls.mono HS4.out ?_
                  rintro e w5 ⟨⟨v5, rfl⟩, hg5⟩
                  have hy5 := HY4.out.1.grown hg5 HY4.out.2
                  have y1 := hy5.bx.cell 1
                  have y2 := hy5.bx.cell 2
                  have y4 := hy5.bx.cell 4
                  have yl := hy5.bx.lt
                  simp only [List.getElem?_toArray, List.getElem?_cons_zero, List.getElem?_cons_succ] at y1 y2 y4
                  have hbw := HBv.out.below hy5.dx.bel
                  have ho := rb_old HBv.out
                  have hpw : ∀ n9, n9 = a.bs.length → Rb w5 (.slice ba n9 bc9) a.bs → Calls Try.prog 51 #[.pointer (some ⟨r, 0, none⟩), .int .i64 a.n, .int .i64 a.pos, .slice ba n9 bc9] w5 fun e w' => e = .returned (.int .i64 (wrE D a.n a.pos a.bs.length)) ∧ ∃ P', DY W0 w' d r X9 O4 P' (wrD D a.n a.pos a.bs) (wrD D a.n a.pos a.bs) (acc a (.slice ba bl bc9) (.slice pa pl pc)) := by
                    intro n9 e9 hb9
                    subst e9
                    exact yWrite hy5 HFw.out (by omega) HY.out.dx.bnd a.n a.pos ba a.bs bc9 hb9 (fun hn b n e => (hy5.old (ho hn b n e)).2)
                  have HPw : Hid (Calls Try.prog 51 #[.pointer (some ⟨r, 0, none⟩), .int .i64 a.n, .int .i64 a.pos, .slice ba bl bc9] w5 fun e w' => e = .returned (.int .i64 (wrE D a.n a.pos a.bs.length)) ∧ ∃ P', DY W0 w' d r X9 O4 P' (wrD D a.n a.pos a.bs) (wrD D a.n a.pos a.bs) (acc a (.slice ba bl bc9) (.slice pa pl pc))) := hpw bl Hbl.out.1 hbw
                  clear hbw ho hpw
                  clear hg5 hy5 HS4 HY4
                  generalize wrE D a.n a.pos a.bs.length = ev at *
                  go_wp2_with (go_at_call 51; refine stop9 ?_)
                  unfold Hold9
                  refine Calls.mono HPw.out ?_
                  rintro e w6 ⟨rfl, P6, h6⟩
                  have H6 : Hid (DX W0 w6 d r O4 P6 (wrD D a.n a.pos a.bs) (wrD D a.n a.pos a.bs)) := h6.dx
                  clear h6 y1 y2 y4 yl HPw
                  go_wp2_with fail
                  go_meet
                  exact ⟨⟨_, _, _, _, _, ev, rfl, rfl, rfl, rfl, H6.out, HFw.out.wrD a.n a.pos a.bs⟩⟩
              · -- 6
                as_aux_lemma =>
                  have HCb : Hid (Calls Try.prog 49 #[.slice ba bl bc9] W fun e w' => ∃ u, e = .returned u ∧ Ow w' W.heap.size u a.bs ∧ Below W.heap.size W w') := copyBytes W _ _ (HBv.out.below HY.out.dx.bel) (Nat.le_trans HW.out.bs (by omega))
                  go_wp2_with (go_at_call 49; refine stop9 ?_)
                  unfold Hold9
                  refine Calls.mono HCb.out ?_
                  rintro e w3 ⟨u3, rfl, ho3, hb3⟩
                  have hy3 := HY.out.below hb3
                  have HY3 : Hid (DY W0 w3 d r X9 O P D D (acc a (.slice ba bl bc9) (.slice pa pl pc))) := hy3
                  have HO3 : Hid (Ow w3 0 u3 a.bs ∧ ∀ b, u3.ownBlock = some b → O b = 0 ∧ P b = 0 ∧ W0.heap.size ≤ b ∧ b ≠ X9) := ⟨ho3.base0, fun b e => ⟨(HY.out.new (ho3.ge e).1).1, (HY.out.new (ho3.ge e).1).2.1, Nat.le_trans HY.out.dx.bel.size (ho3.ge e).1, (HY.out.new (ho3.ge e).1).2.2⟩⟩
                  have y1 := hy3.bx.cell 1
                  have y2 := hy3.bx.cell 2
                  have yl := hy3.bx.lt
                  simp only [List.getElem?_toArray, List.getElem?_cons_zero, List.getElem?_cons_succ] at y1 y2
                  obtain ⟨a3, n3, c3, rfl⟩ := ownsRow_sl ho3
                  clear ho3 hb3 hy3 x0 x1 x2 x3 x4 x5 xl9 HCb
                  go_wp2_with (go_at_call 50; refine stop9 ?_)
                  unfold Hold9
                  refine Calls.mono (xWrite HY3.out HFw.out (by omega) a.n a.pos HO3.out.1 (Nat.le_trans HW.out.bs (by omega)) HO3.out.2) ?_
                  rintro e w4 ⟨rfl, O4, h4, ho4, hd4⟩
                  have HS4 : Hid (Calls Try.prog 35 #[.slice a3 n3 c3] w4 fun e w' => (∃ x, e = .returned x) ∧ w4.grownBy w' (Value.slice a3 n3 c3).ownBlock) := spoil9 w4 _ _ ho4 (Nat.le_trans HW.out.bs (by omega))
                  have HY4 : Hid (DY W0 w4 d r X9 O4 P (wrD D a.n a.pos a.bs) D (acc a (.slice ba bl bc9) (.slice pa pl pc)) ∧ ∀ b, (Value.slice a3 n3 c3).ownBlock = some b → O4 b = 0 ∧ P b = 0 ∧ W0.heap.size ≤ b ∧ b ≠ X9) := ⟨h4, hd4⟩
                  clear h4 ho4 hd4 y1 y2 yl HO3 HY3
                  go_wp2_with (go_at_call 35; refine stop9 ?_)
                  unfold Hold9
                  refine Calls.mono HS4.out ?_
                  rintro e w5 ⟨⟨v5, rfl⟩, hg5⟩
                  have hy5 := HY4.out.1.grown hg5 HY4.out.2
                  have y1 := hy5.bx.cell 1
                  have y2 := hy5.bx.cell 2
                  have y4 := hy5.bx.cell 4
                  have yl := hy5.bx.lt
                  simp only [List.getElem?_toArray, List.getElem?_cons_zero, List.getElem?_cons_succ] at y1 y2 y4
                  have hbw := HBv.out.below hy5.dx.bel
                  have ho := rb_old HBv.out
                  have hpw : ∀ n9, n9 = a.bs.length → Rb w5 (.slice ba n9 bc9) a.bs → Calls Try.prog 51 #[.pointer (some ⟨r, 0, none⟩), .int .i64 a.n, .int .i64 a.pos, .slice ba n9 bc9] w5 fun e w' => e = .returned (.int .i64 (wrE D a.n a.pos a.bs.length)) ∧ ∃ P', DY W0 w' d r X9 O4 P' (wrD D a.n a.pos a.bs) (wrD D a.n a.pos a.bs) (acc a (.slice ba bl bc9) (.slice pa pl pc)) := by
                    intro n9 e9 hb9
                    subst e9
                    exact yWrite hy5 HFw.out (by omega) HY.out.dx.bnd a.n a.pos ba a.bs bc9 hb9 (fun hn b n e => (hy5.old (ho hn b n e)).2)
                  have HPw : Hid (Calls Try.prog 51 #[.pointer (some ⟨r, 0, none⟩), .int .i64 a.n, .int .i64 a.pos, .slice ba bl bc9] w5 fun e w' => e = .returned (.int .i64 (wrE D a.n a.pos a.bs.length)) ∧ ∃ P', DY W0 w' d r X9 O4 P' (wrD D a.n a.pos a.bs) (wrD D a.n a.pos a.bs) (acc a (.slice ba bl bc9) (.slice pa pl pc))) := hpw bl Hbl.out.1 hbw
                  clear hbw ho hpw
                  clear hg5 hy5 HS4 HY4
                  generalize wrE D a.n a.pos a.bs.length = ev at *
                  go_wp2_with (go_at_call 51; refine stop9 ?_)
                  unfold Hold9
                  refine Calls.mono HPw.out ?_
                  rintro e w6 ⟨rfl, P6, h6⟩
                  have H6 : Hid (DX W0 w6 d r O4 P6 (wrD D a.n a.pos a.bs) (wrD D a.n a.pos a.bs)) := h6.dx
                  clear h6 y1 y2 y4 yl HPw
                  go_wp2_with fail
                  go_meet
                  exact ⟨⟨_, _, _, _, _, ev, rfl, rfl, rfl, rfl, H6.out, HFw.out.wrD a.n a.pos a.bs⟩⟩
              · -- 7
                as_aux_lemma =>
                  go_upto_region 34 with fail
                  refine wp_region_noPanic ?_
                  refine wp_region_held_drew (S := fun W' => W'.cell? ⟨X9, 1, none⟩ = some (.int .i64 a.n) ∧ W'.cell? ⟨X9, 3, none⟩ = some (.int .i64 a.k)) (by kernel_rfl) ?_ (fun hHeld => ?_)
                  · ((try dsimp only); exact ⟨x1, x3⟩)
                  (try dsimp only at hHeld)
                  refine wpAnyH_take (i := 0) (oi := ⟨some 157, _, _, _, _, _⟩) (v := ?_) rfl (by kernel_rfl) (by kernel_rfl) (by kernel_rfl) (fun _ _ _ h => h) (Or.inl ⟨by rfl, ?_⟩) (by assumption) ?_
                  rotate_left
                  · (intro w hSw; (try dsimp only at hSw); go_simp; try (with_reducible rfl))
                  (try dsimp only); (try simp only [Act.put, List.setIfInBounds_toArray, List.set_cons_zero, List.set_cons_succ])
                  refine wpAnyH_take (i := 1) (oi := ⟨some 158, _, _, _, _, _⟩) (v := ?_) rfl (by kernel_rfl) (by kernel_rfl) (by kernel_rfl) (fun _ _ _ h => h) (Or.inl ⟨by rfl, ?_⟩) (by assumption) ?_
                  rotate_left
                  · (intro w hSw; (try dsimp only at hSw); go_simp; try (with_reducible rfl))
                  (try dsimp only); (try simp only [Act.put, List.setIfInBounds_toArray, List.set_cons_zero, List.set_cons_succ])
                  refine wpAnyH_take (i := 2) (oi := ⟨some 159, _, _, _, _, _⟩) (v := ?_) rfl (by kernel_rfl) (by kernel_rfl) (by kernel_rfl) (fun _ _ _ h => h) (Or.inl ⟨by rfl, ?_⟩) (by assumption) ?_
                  rotate_left
                  · (intro w hSw; (try dsimp only at hSw); go_simp; try (with_reducible rfl))
                  (try dsimp only); (try simp only [Act.put, List.setIfInBounds_toArray, List.set_cons_zero, List.set_cons_succ])
                  refine wpAnyH_take (i := 3) (oi := ⟨some 160, _, _, _, _, _⟩) (v := ?_) rfl (by kernel_rfl) (by kernel_rfl) (by kernel_rfl) (fun _ _ _ h => h) (Or.inl ⟨by rfl, ?_⟩) (by assumption) ?_
                  rotate_left
                  · (intro w hSw; (try dsimp only at hSw); go_simp; try (with_reducible rfl))
                  (try dsimp only); (try simp only [Act.put, List.setIfInBounds_toArray, List.set_cons_zero, List.set_cons_succ])
                  refine wpAnyH_take (i := 4) (oi := ⟨some 161, _, _, _, _, _⟩) (v := ?_) rfl (by kernel_rfl) (by kernel_rfl) (by kernel_rfl) (fun _ _ _ h => h) (Or.inl ⟨by rfl, ?_⟩) (by assumption) ?_
                  rotate_left
                  · (intro w hSw; (try dsimp only at hSw); go_simp; try (with_reducible rfl))
                  (try dsimp only); (try simp only [Act.put, List.setIfInBounds_toArray, List.set_cons_zero, List.set_cons_succ])
                  refine wpAnyH_take (i := 6) (oi := ⟨some 163, _, _, _, _, _⟩) (v := ?_) rfl (by kernel_rfl) (by kernel_rfl) (by kernel_rfl) (fun _ _ _ h => h) (Or.inl ⟨by rfl, ?_⟩) (by assumption) ?_
                  rotate_left
                  · (intro w hSw; (try dsimp only at hSw); go_simp; try (with_reducible rfl))
                  (try dsimp only); (try simp only [Act.put, List.setIfInBounds_toArray, List.set_cons_zero, List.set_cons_succ])
                  refine wpAnyH_take (i := 7) (oi := ⟨some 164, _, _, _, _, _⟩) (v := ?_) rfl (by kernel_rfl) (by kernel_rfl) (by kernel_rfl) (fun _ _ _ h => h) (Or.inl ⟨by rfl, ?_⟩) (by assumption) ?_
                  rotate_left
                  · (intro w hSw; (try dsimp only at hSw); go_simp; try (with_reducible rfl))
                  (try dsimp only); (try simp only [Act.put, List.setIfInBounds_toArray, List.set_cons_zero, List.set_cons_succ])
                  refine wpAnyH_take (i := 8) (oi := ⟨some 165, _, _, _, _, _⟩) (v := ?_) rfl (by kernel_rfl) (by kernel_rfl) (by kernel_rfl) (fun _ _ _ h => h) (Or.inl ⟨by rfl, ?_⟩) (by assumption) ?_
                  rotate_left
                  · (intro w hSw; (try dsimp only at hSw); go_simp; try (with_reducible rfl))
                  (try dsimp only); (try simp only [Act.put, List.setIfInBounds_toArray, List.set_cons_zero, List.set_cons_succ])
                  refine wpAnyH_take (i := 9) (oi := ⟨some 166, _, _, _, _, _⟩) (v := ?_) rfl (by kernel_rfl) (by kernel_rfl) (by kernel_rfl) (fun _ _ _ h => h) (Or.inl ⟨by rfl, ?_⟩) (by assumption) ?_
                  rotate_left
                  · (intro w hSw; (try dsimp only at hSw); go_simp; try (with_reducible rfl))
                  (try dsimp only); (try simp only [Act.put, List.setIfInBounds_toArray, List.set_cons_zero, List.set_cons_succ])
                  refine wpAnyH_take (i := 10) (oi := ⟨some 167, _, _, _, _, _⟩) (v := ?_) rfl (by kernel_rfl) (by kernel_rfl) (by kernel_rfl) (fun _ _ _ h => h) (Or.inl ⟨by rfl, ?_⟩) (by assumption) ?_
                  rotate_left
                  · (intro w hSw; (try dsimp only at hSw); go_simp; try (with_reducible rfl))
                  (try dsimp only); (try simp only [Act.put, List.setIfInBounds_toArray, List.set_cons_zero, List.set_cons_succ])
                  refine wpAnyH_ready (rs := [5]) (by kernel_rfl) (by simp) ?_
                  refine AllReadyH.cons (o := ⟨some 162, _, _, _, _, _⟩) rfl (fun K hK => ?_) AllReadyH.nil
                  go_simp
                  refine Calls.mono (xCut HY.out.drew HFw.out (by omega) a.n a.k) ?_
                  rintro e w5 ⟨rfl, O5, h5⟩
                  have HY5 : Hid (DY W0 w5 d r X9 O5 P (cutD D a.n a.k) D (acc a (.slice ba bl bc9) (.slice pa pl pc))) := h5
                  have z1 := h5.bx.cell 1
                  have z3 := h5.bx.cell 3
                  simp only [List.getElem?_toArray, List.getElem?_cons_zero, List.getElem?_cons_succ] at z1 z3
                  clear h5
                  refine hK.out _ _ ⟨z1, z3⟩ (fun hHeld => ?_)
                  clear hK K
                  (try dsimp only); (try simp only [Act.put, List.setIfInBounds_toArray, List.set_cons_zero, List.set_cons_succ])
                  refine wpAnyH_ready (rs := [11]) (by kernel_rfl) (by simp) ?_
                  refine AllReadyH.cons (o := ⟨some 168, _, _, _, _, _⟩) rfl (fun K hK => ?_) AllReadyH.nil
                  go_simp
                  refine Calls.mono (yCut HY5.out HFw.out (by omega) HY.out.dx.bnd a.n a.k) ?_
                  rintro e w6 ⟨rfl, P6, h6⟩
                  have H6 : Hid (DX W0 w6 d r O5 P6 (cutD D a.n a.k) (cutD D a.n a.k)) := h6.dx
                  have z1 := h6.bx.cell 1
                  have z3 := h6.bx.cell 3
                  simp only [List.getElem?_toArray, List.getElem?_cons_zero, List.getElem?_cons_succ] at z1 z3
                  clear h6
                  refine hK.out _ _ ⟨z1, z3⟩ (fun hHeld => ?_)
                  clear hK K
                  (try dsimp only); (try simp only [Act.put, List.setIfInBounds_toArray, List.set_cons_zero, List.set_cons_succ])
                  refine wpAnyH_take (i := 12) (oi := ⟨some 8, _, _, _, _, _⟩) (v := ?_) rfl (by kernel_rfl) (by kernel_rfl) (by kernel_rfl) (fun _ _ _ h => h) (Or.inl ⟨by rfl, ?_⟩) (by assumption) ?_
                  rotate_left
                  · (intro w hSw; (try dsimp only at hSw); go_simp; try (with_reducible rfl))
                  (try dsimp only); (try simp only [Act.put, List.setIfInBounds_toArray, List.set_cons_zero, List.set_cons_succ])
                  refine wpAnyH_take (i := 13) (oi := ⟨some 9, _, _, _, _, _⟩) (v := ?_) rfl (by kernel_rfl) (by kernel_rfl) (by kernel_rfl) (fun _ _ _ h => h) (Or.inl ⟨by rfl, ?_⟩) (by assumption) ?_
                  rotate_left
                  · (intro w hSw; (try dsimp only at hSw); go_simp; try (with_reducible rfl))
                  (try dsimp only); (try simp only [Act.put, List.setIfInBounds_toArray, List.set_cons_zero, List.set_cons_succ])
                  refine wpAnyH_done (by kernel_rfl) ?_ _
                  refine NoPanic.normal ?_
                  clear hHeld
                  go_wp2_with fail
                  go_meet
                  exact ⟨⟨_, _, _, _, _, cutE D a.n a.k, rfl, rfl, rfl, rfl, H6.out, HFw.out.cutD a.n a.k⟩⟩
              · -- 8
                as_aux_lemma =>
                  go_upto_region 37 with fail
                  refine wp_region_noPanic ?_
                  refine wp_region_held_drew (S := fun W' => W'.cell? ⟨X9, 1, none⟩ = some (.int .i64 a.n) ∧ W'.cell? ⟨X9, 3, none⟩ = some (.int .i64 a.k)) (by kernel_rfl) ?_ (fun hHeld => ?_)
                  · ((try dsimp only); exact ⟨x1, x3⟩)
                  (try dsimp only at hHeld)
                  refine wpAnyH_take (i := 0) (oi := ⟨some 172, _, _, _, _, _⟩) (v := ?_) rfl (by kernel_rfl) (by kernel_rfl) (by kernel_rfl) (fun _ _ _ h => h) (Or.inl ⟨by rfl, ?_⟩) (by assumption) ?_
                  rotate_left
                  · (intro w hSw; (try dsimp only at hSw); go_simp; try (with_reducible rfl))
                  (try dsimp only); (try simp only [Act.put, List.setIfInBounds_toArray, List.set_cons_zero, List.set_cons_succ])
                  refine wpAnyH_take (i := 1) (oi := ⟨some 173, _, _, _, _, _⟩) (v := ?_) rfl (by kernel_rfl) (by kernel_rfl) (by kernel_rfl) (fun _ _ _ h => h) (Or.inl ⟨by rfl, ?_⟩) (by assumption) ?_
                  rotate_left
                  · (intro w hSw; (try dsimp only at hSw); go_simp; try (with_reducible rfl))
                  (try dsimp only); (try simp only [Act.put, List.setIfInBounds_toArray, List.set_cons_zero, List.set_cons_succ])
                  refine wpAnyH_take (i := 2) (oi := ⟨some 174, _, _, _, _, _⟩) (v := ?_) rfl (by kernel_rfl) (by kernel_rfl) (by kernel_rfl) (fun _ _ _ h => h) (Or.inl ⟨by rfl, ?_⟩) (by assumption) ?_
                  rotate_left
                  · (intro w hSw; (try dsimp only at hSw); go_simp; try (with_reducible rfl))
                  (try dsimp only); (try simp only [Act.put, List.setIfInBounds_toArray, List.set_cons_zero, List.set_cons_succ])
                  refine wpAnyH_take (i := 4) (oi := ⟨some 176, _, _, _, _, _⟩) (v := ?_) rfl (by kernel_rfl) (by kernel_rfl) (by kernel_rfl) (fun _ _ _ h => h) (Or.inl ⟨by rfl, ?_⟩) (by assumption) ?_
                  rotate_left
                  · (intro w hSw; (try dsimp only at hSw); go_simp; try (with_reducible rfl))
                  (try dsimp only); (try simp only [Act.put, List.setIfInBounds_toArray, List.set_cons_zero, List.set_cons_succ])
                  refine wpAnyH_take (i := 5) (oi := ⟨some 177, _, _, _, _, _⟩) (v := ?_) rfl (by kernel_rfl) (by kernel_rfl) (by kernel_rfl) (fun _ _ _ h => h) (Or.inl ⟨by rfl, ?_⟩) (by assumption) ?_
                  rotate_left
                  · (intro w hSw; (try dsimp only at hSw); go_simp; try (with_reducible rfl))
                  (try dsimp only); (try simp only [Act.put, List.setIfInBounds_toArray, List.set_cons_zero, List.set_cons_succ])
                  refine wpAnyH_take (i := 6) (oi := ⟨some 178, _, _, _, _, _⟩) (v := ?_) rfl (by kernel_rfl) (by kernel_rfl) (by kernel_rfl) (fun _ _ _ h => h) (Or.inl ⟨by rfl, ?_⟩) (by assumption) ?_
                  rotate_left
                  · (intro w hSw; (try dsimp only at hSw); go_simp; try (with_reducible rfl))
                  (try dsimp only); (try simp only [Act.put, List.setIfInBounds_toArray, List.set_cons_zero, List.set_cons_succ])
                  refine wpAnyH_ready (rs := [3]) (by kernel_rfl) (by simp) ?_
                  refine AllReadyH.cons (o := ⟨some 175, _, _, _, _, _⟩) rfl (fun K hK => ?_) AllReadyH.nil
                  go_simp
                  refine Calls.mono (xSync HY.out.drew HFw.out (by omega) a.n) ?_
                  rintro e w5 ⟨rfl, O5, h5⟩
                  have HY5 : Hid (DY W0 w5 d r X9 O5 P (psyD D a.n) D (acc a (.slice ba bl bc9) (.slice pa pl pc))) := h5
                  have z1 := h5.bx.cell 1
                  have z3 := h5.bx.cell 3
                  simp only [List.getElem?_toArray, List.getElem?_cons_zero, List.getElem?_cons_succ] at z1 z3
                  clear h5
                  refine hK.out _ _ ⟨z1, z3⟩ (fun hHeld => ?_)
                  clear hK K
                  (try dsimp only); (try simp only [Act.put, List.setIfInBounds_toArray, List.set_cons_zero, List.set_cons_succ])
                  refine wpAnyH_ready (rs := [7]) (by kernel_rfl) (by simp) ?_
                  refine AllReadyH.cons (o := ⟨some 179, _, _, _, _, _⟩) rfl (fun K hK => ?_) AllReadyH.nil
                  go_simp
                  refine Calls.mono (ySync HY5.out HFw.out HY.out.dx.bnd a.n) ?_
                  rintro e w6 ⟨rfl, P6, h6⟩
                  have H6 : Hid (DX W0 w6 d r O5 P6 (psyD D a.n) (psyD D a.n)) := h6.dx
                  have z1 := h6.bx.cell 1
                  have z3 := h6.bx.cell 3
                  simp only [List.getElem?_toArray, List.getElem?_cons_zero, List.getElem?_cons_succ] at z1 z3
                  clear h6
                  refine hK.out _ _ ⟨z1, z3⟩ (fun hHeld => ?_)
                  clear hK K
                  (try dsimp only); (try simp only [Act.put, List.setIfInBounds_toArray, List.set_cons_zero, List.set_cons_succ])
                  refine wpAnyH_take (i := 8) (oi := ⟨some 8, _, _, _, _, _⟩) (v := ?_) rfl (by kernel_rfl) (by kernel_rfl) (by kernel_rfl) (fun _ _ _ h => h) (Or.inl ⟨by rfl, ?_⟩) (by assumption) ?_
                  rotate_left
                  · (intro w hSw; (try dsimp only at hSw); go_simp; try (with_reducible rfl))
                  (try dsimp only); (try simp only [Act.put, List.setIfInBounds_toArray, List.set_cons_zero, List.set_cons_succ])
                  refine wpAnyH_take (i := 9) (oi := ⟨some 9, _, _, _, _, _⟩) (v := ?_) rfl (by kernel_rfl) (by kernel_rfl) (by kernel_rfl) (fun _ _ _ h => h) (Or.inl ⟨by rfl, ?_⟩) (by assumption) ?_
                  rotate_left
                  · (intro w hSw; (try dsimp only at hSw); go_simp; try (with_reducible rfl))
                  (try dsimp only); (try simp only [Act.put, List.setIfInBounds_toArray, List.set_cons_zero, List.set_cons_succ])
                  refine wpAnyH_done (by kernel_rfl) ?_ _
                  refine NoPanic.normal ?_
                  clear hHeld
                  go_wp2_with fail
                  go_meet
                  exact ⟨⟨_, _, _, _, _, cntE D a.n, rfl, rfl, rfl, rfl, H6.out, (HFw.out.psyD a.n).le (by omega)⟩⟩
              · -- 9
                as_aux_lemma =>
                  go_upto_region 37 with fail
                  refine wp_region_noPanic ?_
                  refine wp_region_held_drew (S := fun W' => W'.cell? ⟨X9, 1, none⟩ = some (.int .i64 a.n) ∧ W'.cell? ⟨X9, 3, none⟩ = some (.int .i64 a.k)) (by kernel_rfl) ?_ (fun hHeld => ?_)
                  · ((try dsimp only); exact ⟨x1, x3⟩)
                  (try dsimp only at hHeld)
                  refine wpAnyH_take (i := 0) (oi := ⟨some 172, _, _, _, _, _⟩) (v := ?_) rfl (by kernel_rfl) (by kernel_rfl) (by kernel_rfl) (fun _ _ _ h => h) (Or.inl ⟨by rfl, ?_⟩) (by assumption) ?_
                  rotate_left
                  · (intro w hSw; (try dsimp only at hSw); go_simp; try (with_reducible rfl))
                  (try dsimp only); (try simp only [Act.put, List.setIfInBounds_toArray, List.set_cons_zero, List.set_cons_succ])
                  refine wpAnyH_take (i := 1) (oi := ⟨some 173, _, _, _, _, _⟩) (v := ?_) rfl (by kernel_rfl) (by kernel_rfl) (by kernel_rfl) (fun _ _ _ h => h) (Or.inl ⟨by rfl, ?_⟩) (by assumption) ?_
                  rotate_left
                  · (intro w hSw; (try dsimp only at hSw); go_simp; try (with_reducible rfl))
                  (try dsimp only); (try simp only [Act.put, List.setIfInBounds_toArray, List.set_cons_zero, List.set_cons_succ])
                  refine wpAnyH_take (i := 2) (oi := ⟨some 174, _, _, _, _, _⟩) (v := ?_) rfl (by kernel_rfl) (by kernel_rfl) (by kernel_rfl) (fun _ _ _ h => h) (Or.inl ⟨by rfl, ?_⟩) (by assumption) ?_
                  rotate_left
                  · (intro w hSw; (try dsimp only at hSw); go_simp; try (with_reducible rfl))
                  (try dsimp only); (try simp only [Act.put, List.setIfInBounds_toArray, List.set_cons_zero, List.set_cons_succ])
                  refine wpAnyH_take (i := 4) (oi := ⟨some 176, _, _, _, _, _⟩) (v := ?_) rfl (by kernel_rfl) (by kernel_rfl) (by kernel_rfl) (fun _ _ _ h => h) (Or.inl ⟨by rfl, ?_⟩) (by assumption) ?_
                  rotate_left
                  · (intro w hSw; (try dsimp only at hSw); go_simp; try (with_reducible rfl))
                  (try dsimp only); (try simp only [Act.put, List.setIfInBounds_toArray, List.set_cons_zero, List.set_cons_succ])
                  refine wpAnyH_take (i := 5) (oi := ⟨some 177, _, _, _, _, _⟩) (v := ?_) rfl (by kernel_rfl) (by kernel_rfl) (by kernel_rfl) (fun _ _ _ h => h) (Or.inl ⟨by rfl, ?_⟩) (by assumption) ?_
                  rotate_left
                  · (intro w hSw; (try dsimp only at hSw); go_simp; try (with_reducible rfl))
                  (try dsimp only); (try simp only [Act.put, List.setIfInBounds_toArray, List.set_cons_zero, List.set_cons_succ])
                  refine wpAnyH_take (i := 6) (oi := ⟨some 178, _, _, _, _, _⟩) (v := ?_) rfl (by kernel_rfl) (by kernel_rfl) (by kernel_rfl) (fun _ _ _ h => h) (Or.inl ⟨by rfl, ?_⟩) (by assumption) ?_
                  rotate_left
                  · (intro w hSw; (try dsimp only at hSw); go_simp; try (with_reducible rfl))
                  (try dsimp only); (try simp only [Act.put, List.setIfInBounds_toArray, List.set_cons_zero, List.set_cons_succ])
                  refine wpAnyH_ready (rs := [3]) (by kernel_rfl) (by simp) ?_
                  refine AllReadyH.cons (o := ⟨some 175, _, _, _, _, _⟩) rfl (fun K hK => ?_) AllReadyH.nil
                  go_simp
                  refine Calls.mono (xSync HY.out.drew HFw.out (by omega) a.n) ?_
                  rintro e w5 ⟨rfl, O5, h5⟩
                  have HY5 : Hid (DY W0 w5 d r X9 O5 P (psyD D a.n) D (acc a (.slice ba bl bc9) (.slice pa pl pc))) := h5
                  have z1 := h5.bx.cell 1
                  have z3 := h5.bx.cell 3
                  simp only [List.getElem?_toArray, List.getElem?_cons_zero, List.getElem?_cons_succ] at z1 z3
                  clear h5
                  refine hK.out _ _ ⟨z1, z3⟩ (fun hHeld => ?_)
                  clear hK K
                  (try dsimp only); (try simp only [Act.put, List.setIfInBounds_toArray, List.set_cons_zero, List.set_cons_succ])
                  refine wpAnyH_ready (rs := [7]) (by kernel_rfl) (by simp) ?_
                  refine AllReadyH.cons (o := ⟨some 179, _, _, _, _, _⟩) rfl (fun K hK => ?_) AllReadyH.nil
                  go_simp
                  refine Calls.mono (ySync HY5.out HFw.out HY.out.dx.bnd a.n) ?_
                  rintro e w6 ⟨rfl, P6, h6⟩
                  have H6 : Hid (DX W0 w6 d r O5 P6 (psyD D a.n) (psyD D a.n)) := h6.dx
                  have z1 := h6.bx.cell 1
                  have z3 := h6.bx.cell 3
                  simp only [List.getElem?_toArray, List.getElem?_cons_zero, List.getElem?_cons_succ] at z1 z3
                  clear h6
                  refine hK.out _ _ ⟨z1, z3⟩ (fun hHeld => ?_)
                  clear hK K
                  (try dsimp only); (try simp only [Act.put, List.setIfInBounds_toArray, List.set_cons_zero, List.set_cons_succ])
                  refine wpAnyH_take (i := 8) (oi := ⟨some 8, _, _, _, _, _⟩) (v := ?_) rfl (by kernel_rfl) (by kernel_rfl) (by kernel_rfl) (fun _ _ _ h => h) (Or.inl ⟨by rfl, ?_⟩) (by assumption) ?_
                  rotate_left
                  · (intro w hSw; (try dsimp only at hSw); go_simp; try (with_reducible rfl))
                  (try dsimp only); (try simp only [Act.put, List.setIfInBounds_toArray, List.set_cons_zero, List.set_cons_succ])
                  refine wpAnyH_take (i := 9) (oi := ⟨some 9, _, _, _, _, _⟩) (v := ?_) rfl (by kernel_rfl) (by kernel_rfl) (by kernel_rfl) (fun _ _ _ h => h) (Or.inl ⟨by rfl, ?_⟩) (by assumption) ?_
                  rotate_left
                  · (intro w hSw; (try dsimp only at hSw); go_simp; try (with_reducible rfl))
                  (try dsimp only); (try simp only [Act.put, List.setIfInBounds_toArray, List.set_cons_zero, List.set_cons_succ])
                  refine wpAnyH_done (by kernel_rfl) ?_ _
                  refine NoPanic.normal ?_
                  clear hHeld
                  go_wp2_with fail
                  go_meet
                  exact ⟨⟨_, _, _, _, _, cntE D a.n, rfl, rfl, rfl, rfl, H6.out, (HFw.out.psyD a.n).le (by omega)⟩⟩
              · -- 10
                as_aux_lemma =>
                  go_wp2_with (first | (go_at_call 40; refine Calls.mono (xOff HY.out a.n HW.out.n.2) ?_; rintro e w5 ⟨⟨v5, rfl⟩, h5⟩; have HY5 : Hid (DY W0 w5 d r X9 O P (offD D a.n) D (acc a (.slice ba bl bc9) (.slice pa pl pc))) := h5; have y1 := h5.bx.cell 1; simp only [List.getElem?_toArray, List.getElem?_cons_zero, List.getElem?_cons_succ] at y1; have yl := h5.bx.lt; clear h5) | (go_at_call 41; refine Calls.mono (yArm HY5.out a.n) ?_; rintro e w6 ⟨⟨v6, rfl⟩, h6⟩; have HY6 : Hid (DY W0 w6 d r X9 O P (offD D a.n) (offD D a.n) (acc a (.slice ba bl bc9) (.slice pa pl pc))) := h6; clear h6))
                  go_meet
                  exact ⟨⟨_, _, _, _, _, 0, rfl, rfl, rfl, rfl, HY6.out.dx, (HFw.out.offD a.n).le (by omega)⟩⟩
              · -- 11
                as_aux_lemma =>
                  go_wp2_with (first | (go_at_call 42; refine Calls.mono (xFail HY.out a.n HW.out.n.2) ?_; rintro e w5 ⟨⟨v5, rfl⟩, h5⟩; have HY5 : Hid (DY W0 w5 d r X9 O P (failD D a.n) D (acc a (.slice ba bl bc9) (.slice pa pl pc))) := h5; have y1 := h5.bx.cell 1; simp only [List.getElem?_toArray, List.getElem?_cons_zero, List.getElem?_cons_succ] at y1; have yl := h5.bx.lt; clear h5) | (go_at_call 43; refine Calls.mono (yFail HY5.out a.n) ?_; rintro e w6 ⟨⟨v6, rfl⟩, h6⟩; have HY6 : Hid (DY W0 w6 d r X9 O P (failD D a.n) (failD D a.n) (acc a (.slice ba bl bc9) (.slice pa pl pc))) := h6; clear h6))
                  go_meet
                  exact ⟨⟨_, _, _, _, _, 0, rfl, rfl, rfl, rfl, HY6.out.dx, (HFw.out.failD a.n).le (by omega)⟩⟩
              · -- 12
                as_aux_lemma =>
                  have HCn : Hid (Calls Try.prog 45 #[.slice pa pl pc] W fun e w' => ∃ u, e = .returned u ∧ Oi w' W.heap.size u a.ps ∧ Below W.heap.size W w') := copyNums W _ _ (HPv.out.below HY.out.dx.bel) (Nat.le_trans HW.out.ps (by omega))
                  have HPr : Hid (∀ p ∈ a.ps, -9223372036854775808 ≤ p ∧ p ≤ 9223372036854775807) := by
                    obtain ⟨_, _, _, _, _, h9, _⟩ := HPv.out
                    exact h9
                  have HPo : Hid (∀ O' : Nat → Nat, (∀ b, O' b ≠ 0 → W0.heap.size ≤ b) → a.ps.length ≠ 0 → ∀ b n c, Value.slice pa pl pc = .slice (some ⟨b, n, none⟩) a.ps.length c → O' b = 0) := fun O' hO hn b n c e => Classical.byContradiction fun h9 => by have := rp_old HPv.out hn b n c e; have := hO b h9; omega
                  go_wp2_with (go_at_call 45; refine stop9 ?_)
                  unfold Hold9
                  refine Calls.mono HCn.out ?_
                  rintro e w3 ⟨u3, rfl, ho3, hb3⟩
                  have hrp3 : Rp w3 u3 a.ps := ho3.rp (Nat.le_trans HW.out.ps (by omega)) HPr.out
                  have hpo3 : a.ps.length ≠ 0 → ∀ b n c, u3 = .slice (some ⟨b, n, none⟩) a.ps.length c → O b = 0 := fun _ b n c e => (HY.out.new (b := b) (by subst e; exact (ho3.lt b rfl).1)).1
                  have HY3 : Hid (DY W0 w3 d r X9 O P D D (acc a (.slice ba bl bc9) (.slice pa pl pc))) := HY.out.below hb3
                  have HCr := zCrash HY3.out HFw.out (by omega) u3 a.ps hrp3 hpo3
                  have HCr : Hid (Calls Try.prog 44 #[.pointer (some ⟨d, 0, none⟩), u3] w3 fun e w' => ∃ T rb, e = .returned (.slice (some ⟨rb, 0, none⟩) 8 8) ∧ DZ W0 w' d r X9 O P { D with off := true } D (acc a (.slice ba bl bc9) (.slice pa pl pc)) T rb (crash D a.ps)) := HCr
                  obtain ⟨a3, n3, c3, rfl⟩ := ownsRow_sl ho3
                  clear ho3 hb3 hrp3 hpo3 HCn x0 x1 x2 x3 x4 x5 xl9
                  go_wp2_with (go_at_call 44; refine stop9 ?_)
                  unfold Hold9
                  refine Calls.mono HCr.out ?_
                  rintro e w4 ⟨T, rb, rfl, hz4⟩
                  have y5 := hz4.dy.bx.cell 5
                  simp only [List.getElem?_toArray, List.getElem?_cons_zero, List.getElem?_cons_succ] at y5
                  have yl := hz4.dy.bx.lt
                  have HPc : Hid (Calls Try.prog 46 #[.pointer (some ⟨r, 0, none⟩), .slice pa pl pc] w4 fun e w' => ∃ u, e = .returned u ∧ DU W0 w' d r X9 O P { D with off := true } { D with off := true } (acc a (.slice ba bl bc9) (.slice pa pl pc)) T rb (crash D a.ps) w4.heap.size u) := zPage hz4 HFw.out (by omega) _ a.ps (HPv.out.below hz4.dy.dx.bel) rfl
                  clear hz4 HCr HY3
                  go_wp2_with (go_at_call 46; refine stop9 ?_)
                  unfold Hold9
                  refine Calls.mono HPc.out ?_
                  rintro e w5 ⟨u4, rfl, hu5⟩
                  generalize w4.heap.size = B at hu5
                  have HEq : Hid (Calls Try.prog 47 #[.slice (some ⟨rb, 0, none⟩) 8 8, u4] w5 fun e w' => e = .returned (.bool true) ∧ Below w5.heap.size w5 w') := by
                    have h9 := eqCells w5 _ _ _ _ hu5.dz.rl hu5.rlu
                    rw [decide_eq_true rfl] at h9
                    exact h9
                  have HU5 : Hid (DU W0 w5 d r X9 O P { D with off := true } { D with off := true } (acc a (.slice ba bl bc9) (.slice pa pl pc)) T rb (crash D a.ps) B u4) := hu5
                  obtain ⟨a4, n4, c4, rfl⟩ := lc_sl hu5.lu
                  clear hu5 HPc y5 yl
                  go_wp2_with (go_at_call 47; refine stop9 ?_)
                  unfold Hold9
                  refine Calls.mono HEq.out ?_
                  rintro e w6 ⟨rfl, hb6⟩
                  have hu6 := HU5.out.below hb6
                  have y5 := hu6.dz.dy.bx.cell 5
                  simp only [List.getElem?_toArray, List.getElem?_cons_zero, List.getElem?_cons_succ] at y5
                  have yl := hu6.dz.dy.bx.lt
                  have HAg : Hid (Calls Try.prog 44 #[.pointer (some ⟨d, 0, none⟩), .slice pa pl pc] w6 fun e w' => ∃ rb2, e = .returned (.slice (some ⟨rb2, 0, none⟩) 8 8) ∧ Rl w' (.slice (some ⟨rb2, 0, none⟩) 8 8) (r9 (crash D a.ps)) ∧ DU W0 w' d r X9 O P { D with off := true } { D with off := true } (acc a (.slice ba bl bc9) (.slice pa pl pc)) T rb (crash D a.ps) B (.slice a4 n4 c4)) := zAgain hu6 (HFw.out.off true) (by omega) _ a.ps (HPv.out.below hu6.dz.dy.dx.bel) (HPo.out O hu6.dz.dy.dx.lo) rfl
                  clear hu6 hb6 HU5 HEq
                  go_wp2_with (go_at_call 44; refine stop9 ?_)
                  unfold Hold9
                  refine Calls.mono HAg.out ?_
                  rintro e w7 ⟨rb2, rfl, hrl7, hu7⟩
                  have HEq : Hid (Calls Try.prog 47 #[.slice (some ⟨rb2, 0, none⟩) 8 8, .slice a4 n4 c4] w7 fun e w' => e = .returned (.bool true) ∧ Below w7.heap.size w7 w') := by
                    have h9 := eqCells w7 _ _ _ _ hrl7 hu7.rlu
                    rw [decide_eq_true rfl] at h9
                    exact h9
                  have HU7 : Hid (DU W0 w7 d r X9 O P { D with off := true } { D with off := true } (acc a (.slice ba bl bc9) (.slice pa pl pc)) T rb (crash D a.ps) B (.slice a4 n4 c4)) := hu7
                  clear hu7 hrl7 HAg y5 yl
                  go_wp2_with (go_at_call 47; refine stop9 ?_)
                  unfold Hold9
                  refine Calls.mono HEq.out ?_
                  rintro e w8 ⟨rfl, hb8⟩
                  have HNw : Hid (Calls Try.prog 23 #[.slice (some ⟨rb, 0, none⟩) 8 8] w8 fun e w' => ∃ d2 O2, e = .returned (.tuple #[.pointer (some ⟨d2, 0, none⟩), .int .i64 0]) ∧ DN W0 w' d2 O2 (dsN (r9 (crash D a.ps)) 8) T rb (crash D a.ps) B (.slice a4 n4 c4)) := zNew (HU7.out.below hb8)
                  have HSm : Hid (∀ i, i < 8 → (crash D a.ps i).length ≤ 131072) := HU7.out.dz.sm
                  clear hb8 HU7 HEq
                  go_wp2_with (go_at_call 23; refine stop9 ?_)
                  unfold Hold9
                  refine Calls.mono HNw.out ?_
                  rintro e w10 ⟨d2, O2, rfl, hn10⟩
                  have HSp : Hid (Calls Try.prog 48 #[.slice (some ⟨rb, 0, none⟩) 8 8] w10 fun e w' => (∃ v, e = .returned v) ∧ D1 W0 w' d2 O2 (dsN (r9 (crash D a.ps)) 8) ∧ Lc w' B (.slice a4 n4 c4) (r9 (crash D a.ps))) := zSpoil hn10
                  clear hn10 HNw
                  go_wp2_with (go_at_call 48; refine stop9 ?_)
                  unfold Hold9
                  refine Calls.mono HSp.out ?_
                  rintro e w11 ⟨⟨v11, rfl⟩, hd11, hl11⟩
                  have HPn : Hid (Calls Try.prog 28 #[.slice a4 n4 c4] w11 fun e w' => ∃ r2 P2, e = .returned (.pointer (some ⟨r2, 0, none⟩)) ∧ DX W0 w' d2 r2 O2 P2 (dsN (r9 (crash D a.ps)) 8) (dsN (r9 (crash D a.ps)) 8)) := zPnew hd11 hl11 HSm.out
                  clear hd11 hl11 HSp
                  go_wp2_with (go_at_call 28; refine stop9 ?_)
                  unfold Hold9
                  refine Calls.mono HPn.out ?_
                  rintro e w12 ⟨r2, P2, rfl, h12⟩
                  have H12 : Hid (DX W0 w12 d2 r2 O2 P2 (dsN (r9 (crash D a.ps)) 8) (dsN (r9 (crash D a.ps)) 8)) := h12
                  clear h12 HPn
                  go_wp2_with fail
                  go_meet
                  exact ⟨⟨_, _, _, _, _, 0, rfl, rfl, rfl, rfl, H12.out, Few.new (r9_sml HSm.out) 8 _⟩⟩
            case rest =>
              obtain ⟨d', r', O', P', D', x, e1, e2, e3, e4, hdx, hfew⟩ := hcut.ex
              subst e1
              subst e2
              subst e3
              subst e4
              have H6 : Hid (DX W0 wc d' r' O' P' D' D' ∧ Few D' (k + 1)) := ⟨hdx, hfew⟩
              clear hdx hfew hcut x0 x1 x2 x3 x4 x5 xl9 HY HWi
              go_wp2_with (go_at_call 26; refine Calls.mono (HNum.out _ _) ?_; rintro e w9 ⟨rfl, e9⟩; have e9 := e9.symm; subst e9)
              go_roundw
              case rel => exact ⟨k + 1, d', r', O', P', D', by omega, by omega, by go_num, rfl, rfl, H6.out.1, H6.out.2⟩
              case measure => simp [intOf]; omega
          · have h40' : ¬ (k : Int) < 40 := by omega
            have hm0 : 0 < m := by omega
            · have hm1 : 0 < (m : Int) := by omega
              have hix : 0 < xs.length := by have := Hm.out; omega
              obtain ⟨b, off, bv, pv, e3, hr, hbv, hpv, hw⟩ := la_at (HL.out W0 (Below.refl _ _)) 0 hix
              subst e3
              have k5 := (HDX.out.bel.cell (World.block_lt_of_cell? W0 _ (hr 5 _ rfl))).trans (hr 5 _ rfl)
              have HPv : Hid (Rp W0 pv (xs[0]'hix).ps) := hpv
              obtain ⟨pa, pc, epv, hp9⟩ := hpv
              subst epv
              clear hr hbv hp9 hw
              generalize (xs[0]'hix).ps = ps at *
              rw [Nat.zero_mul, Nat.add_zero] at k5
              have HCr : Hid (Calls Try.prog 44 #[.pointer (some ⟨d, 0, none⟩), .slice pa ps.length pc] wr fun e w' => ∃ T rb, e = .returned (.slice (some ⟨rb, 0, none⟩) 8 8) ∧ DR W0 w' d r O P { D with off := true } D T rb (crash D ps)) := eCrash HDX.out HFw.out (by omega) _ ps (HPv.out.below HDX.out.bel) (fun hn b n c e => Classical.byContradiction fun h9 => by have := rp_old HPv.out hn b n c e; have := HDX.out.lo b h9; omega)
              have HPc : Hid (∀ W T rb, DR W0 W d r O P { D with off := true } D T rb (crash D ps) → Calls Try.prog 46 #[.pointer (some ⟨r, 0, none⟩), .slice pa ps.length pc] W fun e w' => ∃ u, e = .returned u ∧ Rl w' (.slice (some ⟨rb, 0, none⟩) 8 8) (r9 (crash D ps)) ∧ Rl w' u (r9 (crash D ps)) ∧ (∃ a n c, u = .slice a n c) ∧ Below W0.heap.size W0 w') := fun W T rb h => ePage h HFw.out (by omega) _ ps (HPv.out.below h.dx.bel) rfl
              generalize ps.length = pn at *
              clear HDX HFw HX1
              go_wp2_with (go_at_call 44; refine stop9 ?_)
              unfold Hold9
              refine Calls.mono HCr.out ?_
              rintro e w4 ⟨T, rb, rfl, hz4⟩
              have HPc' : Hid _ := HPc.out _ _ _ hz4
              clear hz4 HCr
              go_wp2_with (go_at_call 46; refine stop9 ?_)
              unfold Hold9
              refine Calls.mono HPc'.out ?_
              rintro e w5 ⟨u, rfl, hr5, hu5, ⟨a5, n5, c5, rfl⟩, hb5⟩
              have HEq := eqCells w5 _ _ _ _ hr5 hu5
              rw [decide_eq_true rfl] at HEq
              have HEq : Hid _ := HEq
              have HB5 : Hid (Below W0.heap.size W0 w5) := hb5
              clear hr5 hu5 hb5 HPc HPc'
              go_wp2_with (go_at_call 47; refine stop9 ?_)
              unfold Hold9
              refine Calls.mono HEq.out ?_
              rintro e w6 ⟨rfl, hb6⟩
              have HB6 : Hid (Below W0.heap.size W0 w6) := HB5.out.trans (hb6.mono HB5.out.size)
              clear hb6 HEq
              go_wp2_with (go_at_call 27; refine stop9 ?_)
              unfold Hold9
              refine (wakes9 _).mono ?_
              rintro e w7 ⟨rfl, hb7⟩
              have HB7 : Hid (Below W0.heap.size W0 w7) := HB6.out.trans (hb7.mono HB6.out.size)
              clear hb7
              go_wp2_with fail
              go_ret
              exact ⟨rfl, HB0.out.trans (HB7.out.mono HB0.out.size)⟩
        · have hlt' : ¬ (k : Int) < (m : Int) := by omega
          rcases (show m = 0 ∨ 0 < m by omega) with hm0 | hm0
          · subst hm0
            have hm1 : ¬ 0 < ((0 : Nat) : Int) := by omega
            have HCr : Hid (Calls Try.prog 44 #[.pointer (some ⟨d, 0, none⟩), .slice none 0 0] wr fun e w' => ∃ T rb, e = .returned (.slice (some ⟨rb, 0, none⟩) 8 8) ∧ DR W0 w' d r O P { D with off := true } D T rb (crash D [])) := eCrash HDX.out HFw.out (by omega) _ [] (Rp.nil9 _) (fun h => absurd rfl h)
            have HPc : Hid (∀ W T rb, DR W0 W d r O P { D with off := true } D T rb (crash D []) → Calls Try.prog 46 #[.pointer (some ⟨r, 0, none⟩), .slice none 0 0] W fun e w' => ∃ u, e = .returned u ∧ Rl w' (.slice (some ⟨rb, 0, none⟩) 8 8) (r9 (crash D [])) ∧ Rl w' u (r9 (crash D [])) ∧ (∃ a n c, u = .slice a n c) ∧ Below W0.heap.size W0 w') := fun W T rb h => ePage h HFw.out (by omega) _ [] (Rp.nil9 _) rfl
            clear HDX HFw HX1
            go_wp2_with (go_at_call 44; refine stop9 ?_)
            unfold Hold9
            refine Calls.mono HCr.out ?_
            rintro e w4 ⟨T, rb, rfl, hz4⟩
            have HPc' : Hid _ := HPc.out _ _ _ hz4
            clear hz4 HCr
            go_wp2_with (go_at_call 46; refine stop9 ?_)
            unfold Hold9
            refine Calls.mono HPc'.out ?_
            rintro e w5 ⟨u, rfl, hr5, hu5, ⟨a5, n5, c5, rfl⟩, hb5⟩
            have HEq := eqCells w5 _ _ _ _ hr5 hu5
            rw [decide_eq_true rfl] at HEq
            have HEq : Hid _ := HEq
            have HB5 : Hid (Below W0.heap.size W0 w5) := hb5
            clear hr5 hu5 hb5 HPc HPc'
            go_wp2_with (go_at_call 47; refine stop9 ?_)
            unfold Hold9
            refine Calls.mono HEq.out ?_
            rintro e w6 ⟨rfl, hb6⟩
            have HB6 : Hid (Below W0.heap.size W0 w6) := HB5.out.trans (hb6.mono HB5.out.size)
            clear hb6 HEq
            go_wp2_with (go_at_call 27; refine stop9 ?_)
            unfold Hold9
            refine (wakes9 _).mono ?_
            rintro e w7 ⟨rfl, hb7⟩
            have HB7 : Hid (Below W0.heap.size W0 w7) := HB6.out.trans (hb7.mono HB6.out.size)
            clear hb7
            go_wp2_with fail
            go_ret
            exact ⟨rfl, HB0.out.trans (HB7.out.mono HB0.out.size)⟩
          · have hm1 : 0 < (m : Int) := by omega
            have hix : 0 < xs.length := by have := Hm.out; omega
            obtain ⟨b, off, bv, pv, e3, hr, hbv, hpv, hw⟩ := la_at (HL.out W0 (Below.refl _ _)) 0 hix
            subst e3
            have k5 := (HDX.out.bel.cell (World.block_lt_of_cell? W0 _ (hr 5 _ rfl))).trans (hr 5 _ rfl)
            have HPv : Hid (Rp W0 pv (xs[0]'hix).ps) := hpv
            obtain ⟨pa, pc, epv, hp9⟩ := hpv
            subst epv
            clear hr hbv hp9 hw
            generalize (xs[0]'hix).ps = ps at *
            rw [Nat.zero_mul, Nat.add_zero] at k5
            have HCr : Hid (Calls Try.prog 44 #[.pointer (some ⟨d, 0, none⟩), .slice pa ps.length pc] wr fun e w' => ∃ T rb, e = .returned (.slice (some ⟨rb, 0, none⟩) 8 8) ∧ DR W0 w' d r O P { D with off := true } D T rb (crash D ps)) := eCrash HDX.out HFw.out (by omega) _ ps (HPv.out.below HDX.out.bel) (fun hn b n c e => Classical.byContradiction fun h9 => by have := rp_old HPv.out hn b n c e; have := HDX.out.lo b h9; omega)
            have HPc : Hid (∀ W T rb, DR W0 W d r O P { D with off := true } D T rb (crash D ps) → Calls Try.prog 46 #[.pointer (some ⟨r, 0, none⟩), .slice pa ps.length pc] W fun e w' => ∃ u, e = .returned u ∧ Rl w' (.slice (some ⟨rb, 0, none⟩) 8 8) (r9 (crash D ps)) ∧ Rl w' u (r9 (crash D ps)) ∧ (∃ a n c, u = .slice a n c) ∧ Below W0.heap.size W0 w') := fun W T rb h => ePage h HFw.out (by omega) _ ps (HPv.out.below h.dx.bel) rfl
            generalize ps.length = pn at *
            clear HDX HFw HX1
            go_wp2_with (go_at_call 44; refine stop9 ?_)
            unfold Hold9
            refine Calls.mono HCr.out ?_
            rintro e w4 ⟨T, rb, rfl, hz4⟩
            have HPc' : Hid _ := HPc.out _ _ _ hz4
            clear hz4 HCr
            go_wp2_with (go_at_call 46; refine stop9 ?_)
            unfold Hold9
            refine Calls.mono HPc'.out ?_
            rintro e w5 ⟨u, rfl, hr5, hu5, ⟨a5, n5, c5, rfl⟩, hb5⟩
            have HEq := eqCells w5 _ _ _ _ hr5 hu5
            rw [decide_eq_true rfl] at HEq
            have HEq : Hid _ := HEq
            have HB5 : Hid (Below W0.heap.size W0 w5) := hb5
            clear hr5 hu5 hb5 HPc HPc'
            go_wp2_with (go_at_call 47; refine stop9 ?_)
            unfold Hold9
            refine Calls.mono HEq.out ?_
            rintro e w6 ⟨rfl, hb6⟩
            have HB6 : Hid (Below W0.heap.size W0 w6) := HB5.out.trans (hb6.mono HB5.out.size)
            clear hb6 HEq
            go_wp2_with (go_at_call 27; refine stop9 ?_)
            unfold Hold9
            refine (wakes9 _).mono ?_
            rintro e w7 ⟨rfl, hb7⟩
            have HB7 : Hid (Below W0.heap.size W0 w7) := HB6.out.trans (hb7.mono HB6.out.size)
            clear hb7
            go_wp2_with fail
            go_ret
            exact ⟨rfl, HB0.out.trans (HB7.out.mono HB0.out.size)⟩
end Go.Proofs.Ytljhhdpeakencaa

import Derived.Test.YtapjonmgjccpbaaJ1
import Derived.Test.YtapjonmgjccpbaaJ21
import Derived.Test.YtapjonmgjccpbaaTkB
import Derived.Test.YtapjonmgjccpbaaSb
import Derived.Deep.DeepCutAuto
set_option linter.unusedSimpArgs false
set_option linter.unusedVariables false
namespace Go.Proofs.Ytapjonmgjccpbaa
open Go.RowKit

/-! tarnlaw7.TxBack, walked. -/
theorem st_cut7 (l : List UInt8) (j : Nat) : (st l).extract 0 j = st (l.take j) := by
  apply ByteArray.ext
  simp [st]
theorem take_any (b : ByteArray) (h : b.size ≤ 1000000) : ∀ w, Calls Try.prog 11 #[.string b] w fun e w' => (∃ a1 b1 c1 d1, e = .returned (.tuple #[.agg (txc (tkT b) (.slice a1 (tkT b).hs.length b1) (.slice c1 (tkT b).bs.length d1)), .int .i64 (tkTE b)]) ∧ OT w' w.heap.size (tkT b) (.slice a1 (tkT b).hs.length b1) (.slice c1 (tkT b).bs.length d1)) ∧ Below w.heap.size w w' := fun w => take7' b w h
theorem bytes_of (t : TX) (h : TxOk t) (hw : TXw t) (aH aB : Option Addr) (cH cB : Nat) (w : World) (hr : RT w t (.slice aH t.hs.length cH) (.slice aB t.bs.length cB)) :
    Calls Try.prog 22 #[.agg (txc t (.slice aH t.hs.length cH) (.slice aB t.bs.length cB))] w fun e w' => e = .returned (.tuple #[.string (itS (txI t)), .int .i64 0]) ∧ Below w.heap.size w w' := by
  have := bytes7 t aH aB cH cB w hw hr
  rw [show bytS t = itS (txI t) from if_pos h, show cosE t = 0 from if_pos h] at this
  exact this
theorem tkTE_cases (b : ByteArray) : (tkTE b = 0 ∧ tkOk b) ∨ tkTE b = 1 := by
  by_cases h : tkOk b
  · exact .inl ⟨if_pos h, h⟩
  · exact .inr (if_neg h)
theorem out_facts (t : TX) (h : TxOk t) (hw : TXw t) : (itS (txI t)).size ≤ 65536 ∧ (∀ j, j < (itS (txI t)).size → tkTE ((itS (txI t)).extract 0 j) = 1) ∧ tkTE (itS (txI t) ++ ⟨#[120]⟩) = 1 := by
  have hio := (txI_ok t h hw).1
  have e : itS (txI t) = st (txI t).raw := if_pos hio
  rw [e, st_size]
  refine ⟨hio.2, fun j hj => ?_, ?_⟩
  · rw [st_cut7]; exact tk_less t h hw j hj
  · rw [show (⟨#[120]⟩ : ByteArray) = st [120] by rfl, st_append]; exact tk_more t h hw 120
set_option maxRecDepth 100000 in
set_option maxHeartbeats 8000000 in
theorem txBack_walk (v : Value) (qs : List Q7) (w : World) (hs : Sq7 w v qs) (hsm : Small7 qs) :
    Calls Try.prog 5 #[v] w fun e w' => e = .returned (.bool true) ∧ Below w.heap.size w w' := by
  obtain ⟨hlen, ad, cap, rfl, hat⟩ := hs
  have HA : Hid _ := hat
  have HM : Hid (Small7 qs) := hsm
  clear hat hsm
  go_enter Try.func5, Try.ntmps5
  go_wp2_with fail
  go_loopw [3] (fun i wr => ∃ k : Nat, k ≤ qs.length ∧ k ≤ 8 ∧ i = .int .i64 k ∧ Below w.heap.size w wr) (fun i _ => qs.length - (intOf i).toNat)
  case atStart => exact ⟨0, by omega, by omega, rfl, Below.refl _ _⟩
  case round =>
    obtain ⟨i, hi, hi20, rfl, hbo⟩ := hrel
    have hszr := hbo.size
    by_cases hlt : i < qs.length
    · have hlt' : (i : Int) < (qs.length : Int) := by omega
      by_cases hlt2 : i < 8
      · have hlt2' : (i : Int) < 8 := by omega
        obtain ⟨b, off, rfl, aH, cH, aB, cB, hR0, hT0, hq⟩ := HA.out i hlt
        obtain ⟨hfin, hsz⟩ := HM.out _ (List.getElem_mem hlt)
        generalize qs[i] = q at *
        have HR0 : Hid (w.rangeAt b (off + i * 26) (askc q.t (.slice aH q.t.hs.length cH) (.slice aB q.t.bs.length cB) q.s q.b).toList) := hR0
        have HT0 : Hid (RT w q.t (.slice aH q.t.hs.length cH) (.slice aB q.t.bs.length cB)) := hT0
        have HQ : Hid (Q7w q) := hq
        have HF : Hid (Fine q.t) := hfin
        have HB : Hid (Below w.heap.size w wr) := hbo
        have hwT := hq.t
        clear hR0 hT0 hq hfin hbo
        go_wp2_with (refine wpList_load_ask rfl _ rfl rfl (range_below HR0.out HB.out) ?_)
        refine (heavy7 q.t aH aB cH cB q.s q.b wr HF.out (HT0.out.below HB.out)).mono ?_
        rintro e w1 ⟨⟨c, rfl, hc⟩, hb1⟩
        have HB1 : Hid (Below w.heap.size w w1) := HB.out.trans (hb1.mono hszr)
        have hszb := HB1.out.size
        clear hb1 HB
        cases c with
        | true =>
          go_wp2_with fail
          go_ret
          exact ⟨rfl, HB1.out⟩
        | false =>
          clear hc
          go_wp2_with (refine wpList_load_txAt rfl _ rfl rfl (ask_tx (range_below HR0.out HB1.out)) ?_)
          by_cases hok : TxOk q.t
          · refine (bytes_of q.t hok hwT aH aB cH cB w1 (HT0.out.below HB1.out)).mono ?_
            rintro e w2 ⟨rfl, hb2⟩
            have HB : Hid (Below w.heap.size w w2) := HB1.out.trans (hb2.mono HB1.out.size)
            clear hb2 HB1
            obtain ⟨hz, hless, hmore⟩ := out_facts q.t hok hwT
            obtain ⟨-, ht1, ht2⟩ := tk_tx q.t hok hwT
            have HTs : Hid (∀ w, Calls Try.prog 11 #[.string (itS (txI q.t))] w fun e w' => (∃ a1 b1 c1 d1, e = .returned (.tuple #[.agg (txc q.t (.slice a1 q.t.hs.length b1) (.slice c1 q.t.bs.length d1)), .int .i64 0]) ∧ OT w' w.heap.size q.t (.slice a1 q.t.hs.length b1) (.slice c1 q.t.bs.length d1)) ∧ Below w.heap.size w w') := fun w => by
              have := take_any (itS (txI q.t)) (by omega) w
              rw [ht1, ht2] at this
              exact this
            have HLess : Hid (∀ j, j < (itS (txI q.t)).size → tkTE ((itS (txI q.t)).extract 0 j) = 1) := hless
            have HMore : Hid (tkTE (itS (txI q.t) ++ ⟨#[120]⟩) = 1) := hmore
            clear hless hmore ht1 ht2
            generalize itS (txI q.t) = s at *
            go_wp2_with (go_at_call 13; refine (num7 _ _).mono ?_; rintro e wN ⟨rfl, rfl⟩)
            refine (HTs.out _).mono ?_
            rintro e wt3 ⟨⟨a3, c3, b3, d3, rfl, hO3⟩, hbt3⟩
            have HNz3 : Hid (Bk (wt3.alloc (.cells z21 30)) wt3.heap.size z21 30) := Bk.new _ _ _
            have hBz3 := HB.out.trans (hbt3.mono HB.out.size)
            have HBz3 : Hid (Below w.heap.size w (wt3.alloc (.cells z21 30))) := hBz3.alloc hBz3.size _
            have HKz3 : Hid (Below wN.heap.size wN (wt3.alloc (.cells z21 30))) := hbt3.alloc hbt3.size _
            have hz3 := hBz3.size
            have hy3 := hbt3.size
            have HOz3 : Hid (OT wt3 wN.heap.size q.t (.slice a3 q.t.hs.length c3) (.slice b3 q.t.bs.length d3)) := hO3
            clear hO3 hbt3 hBz3 HB
            go_upto_region 9 with (refine wpList_store_tx rfl _ _ rfl rfl rfl HNz3.out rfl ?_; intro W3 hS3)
            obtain ⟨N3, hN3⟩ : ∃ N, N = wt3.heap.size := ⟨_, rfl⟩
            rw [← hN3] at hS3 ⊢
            have HN3 : Hid (Bk W3 N3 (txc q.t (.slice a3 q.t.hs.length c3) (.slice b3 q.t.bs.length d3)) 30) := hS3.bR
            have HB : Hid (Below w.heap.size w W3) := hS3.below _ _ (by omega) HBz3.out
            have HK3 : Hid (Below wN.heap.size wN W3) := hS3.below _ _ (by omega) HKz3.out
            have HO3 : Hid (OT W3 wN.heap.size q.t (.slice a3 q.t.hs.length c3) (.slice b3 q.t.bs.length d3)) := ⟨hS3.or (HOz3.out.h.alloc _) (fun e => by have := (HOz3.out.h.ge e).2; omega), hS3.or (HOz3.out.b.alloc _) (fun e => by have := (HOz3.out.b.ge e).2; omega)⟩
            clear hS3 HBz3 HKz3 HNz3 HOz3 hN3
            have HRT3 : Hid (RT W3 q.t (.slice a3 q.t.hs.length c3) (.slice b3 q.t.bs.length d3)) := ⟨HO3.out.h.su hwT.hs, HO3.out.b.ss hwT.bs⟩
            have HEq : Hid (∀ W, Below W3.heap.size W3 W → Below w.heap.size w W → Calls Try.prog 14 #[.agg (txc q.t (.slice a3 q.t.hs.length c3) (.slice b3 q.t.bs.length d3)), .agg (txc q.t (.slice aH q.t.hs.length cH) (.slice aB q.t.bs.length cB))] W fun e w' => (∃ c : Bool, e = .returned (.bool c) ∧ (c = true ↔ q.t = q.t)) ∧ Below W.heap.size W w') := fun W h1 h2 => eqTx q.t q.t a3 b3 aH aB c3 d3 cH cB W hwT hwT (HRT3.out.below h1) (HT0.out.below h2)
            refine wp_region_noPanic ?_
            refine wp_region_held_drew (S := fun w' => Below W3.heap.size W3 w') (by kernel_rfl) ?_ (fun hHeld => ?_)
            · ((try dsimp only); exact (Below.refl _ _).drew)
            (try dsimp only at hHeld)
            refine wpAnyH_take (i := 0) (oi := ⟨some 50, _, _, _, _, _⟩) (v := ?_) rfl (by kernel_rfl) (by kernel_rfl) (by kernel_rfl) (fun _ _ _ h => h) (Or.inl ⟨by rfl, ?_⟩) (by assumption) ?_
            rotate_left
            · (intro w hSw; (try dsimp only at hSw); go_simp; try (with_reducible rfl))
            (try dsimp only); (try simp only [Act.put, List.setIfInBounds_toArray, List.set_cons_zero, List.set_cons_succ])
            refine wpAnyH_ready (rs := [1]) (by kernel_rfl) (by simp) ?_
            refine AllReadyH.cons (o := ⟨some 51, _, _, _, _, _⟩) rfl (fun K hK => ?_) AllReadyH.nil
            go_simp
            go_wp2_with (go_at_call 13; refine (num7 _ _).mono ?_; rintro e wN ⟨rfl, rfl⟩)
            refine hK.out _ _ hHeld (fun hHeld => ?_)
            clear hK K
            (try dsimp only at hHeld)
            (try dsimp only); (try simp only [Act.put, List.setIfInBounds_toArray, List.set_cons_zero, List.set_cons_succ])
            refine wpAnyH_take (i := 2) (oi := ⟨some 52, _, _, _, _, _⟩) (v := ?_) rfl (by kernel_rfl) (by kernel_rfl) (by kernel_rfl) (fun _ _ _ h => h) (Or.inl ⟨by rfl, ?_⟩) (by assumption) ?_
            rotate_left
            · (intro w hSw; (try dsimp only at hSw); go_simp; try (with_reducible rfl))
            (try dsimp only); (try simp only [Act.put, List.setIfInBounds_toArray, List.set_cons_zero, List.set_cons_succ])
            refine wpAnyH_take (i := 3) (oi := ⟨some 53, _, _, _, _, _⟩) (v := ?_) rfl (by kernel_rfl) (by kernel_rfl) (by kernel_rfl) (fun _ _ _ h => h) (Or.inl ⟨by rfl, ?_⟩) (by assumption) ?_
            rotate_left
            · (intro w hSw; (try dsimp only at hSw); go_simp; try (with_reducible rfl))
            (try dsimp only); (try simp only [Act.put, List.setIfInBounds_toArray, List.set_cons_zero, List.set_cons_succ])
            refine wpAnyH_take (i := 4) (oi := ⟨some 54, _, _, _, _, _⟩) rfl (by kernel_rfl) (by kernel_rfl) (by kernel_rfl) (fun _ _ _ h => h) (yl_tx (by rfl) _ rfl rfl (fun w' h => range_below (range_blk HN3.out) h)) (by assumption) ?_
            (try dsimp only); (try simp only [Act.put, List.setIfInBounds_toArray, List.set_cons_zero, List.set_cons_succ])
            refine wpAnyH_take (i := 5) (oi := ⟨some 55, _, _, _, _, _⟩) (v := ?_) rfl (by kernel_rfl) (by kernel_rfl) (by kernel_rfl) (fun _ _ _ h => h) (Or.inl ⟨by rfl, ?_⟩) (by assumption) ?_
            rotate_left
            · (intro w hSw; (try dsimp only at hSw); go_simp; try (with_reducible rfl))
            (try dsimp only); (try simp only [Act.put, List.setIfInBounds_toArray, List.set_cons_zero, List.set_cons_succ])
            refine wpAnyH_take (i := 6) (oi := ⟨some 56, _, _, _, _, _⟩) (v := ?_) rfl (by kernel_rfl) (by kernel_rfl) (by kernel_rfl) (fun _ _ _ h => h) (Or.inl ⟨by rfl, ?_⟩) (by assumption) ?_
            rotate_left
            · (intro w hSw; (try dsimp only at hSw); go_simp; try (with_reducible rfl))
            (try dsimp only); (try simp only [Act.put, List.setIfInBounds_toArray, List.set_cons_zero, List.set_cons_succ])
            refine wpAnyH_take (i := 7) (oi := ⟨some 57, _, _, _, _, _⟩) (v := ?_) rfl (by kernel_rfl) (by kernel_rfl) (by kernel_rfl) (fun _ _ _ h => h) (Or.inl ⟨by rfl, ?_⟩) (by assumption) ?_
            rotate_left
            · (intro w hSw; (try dsimp only at hSw); go_simp; try (with_reducible rfl))
            (try dsimp only); (try simp only [Act.put, List.setIfInBounds_toArray, List.set_cons_zero, List.set_cons_succ])
            refine wpAnyH_take (i := 8) (oi := ⟨some 58, _, _, _, _, _⟩) (v := ?_) rfl (by kernel_rfl) (by kernel_rfl) (by kernel_rfl) (fun _ _ _ h => h) (Or.inl ⟨by rfl, ?_⟩) (by assumption) ?_
            rotate_left
            · (intro w hSw; (try dsimp only at hSw); go_simp; try (with_reducible rfl))
            (try dsimp only); (try simp only [Act.put, List.setIfInBounds_toArray, List.set_cons_zero, List.set_cons_succ])
            refine wpAnyH_take (i := 9) (oi := ⟨some 59, _, _, _, _, _⟩) rfl (by kernel_rfl) (by kernel_rfl) (by kernel_rfl) (fun _ _ _ h => h) (yl_tx (by rfl) _ rfl rfl (fun w' h => ask_tx (range_below HR0.out (HB.out.trans (h.mono HB.out.size))))) (by assumption) ?_
            (try dsimp only); (try simp only [Act.put, List.setIfInBounds_toArray, List.set_cons_zero, List.set_cons_succ])
            refine wpAnyH_ready (rs := [10]) (by kernel_rfl) (by simp) ?_
            refine AllReadyH.cons (o := ⟨some 60, _, _, _, _, _⟩) rfl (fun K hK => ?_) AllReadyH.nil
            go_simp
            go_wp2_with (go_at_call 14; refine (HEq.out _ hHeld (HB.out.trans (hHeld.mono HB.out.size))).mono ?_; rintro e w4 ⟨⟨cc, rfl, hcc⟩, hb4⟩; obtain rfl : cc = true := hcc.2 (by trivial))
            refine hK.out _ _ (hHeld.trans (hb4.mono hHeld.size)) (fun hHeld => ?_)
            clear hK K
            (try dsimp only at hHeld)
            (try dsimp only); (try simp only [Act.put, List.setIfInBounds_toArray, List.set_cons_zero, List.set_cons_succ])
            refine wpAnyH_take (i := 11) (oi := ⟨some 61, _, _, _, _, _⟩) (v := ?_) rfl (by kernel_rfl) (by kernel_rfl) (by kernel_rfl) (fun _ _ _ h => h) (Or.inl ⟨by rfl, ?_⟩) (by assumption) ?_
            rotate_left
            · (intro w hSw; (try dsimp only at hSw); go_simp; try (with_reducible rfl))
            (try dsimp only); (try simp only [Act.put, List.setIfInBounds_toArray, List.set_cons_zero, List.set_cons_succ])
            refine wpAnyH_take (i := 12) (oi := ⟨some 62, _, _, _, _, _⟩) (v := ?_) rfl (by kernel_rfl) (by kernel_rfl) (by kernel_rfl) (fun _ _ _ h => h) (Or.inl ⟨by rfl, ?_⟩) (by assumption) ?_
            rotate_left
            · (intro w hSw; (try dsimp only at hSw); go_simp; try (with_reducible rfl))
            (try dsimp only); (try simp only [Act.put, List.setIfInBounds_toArray, List.set_cons_zero, List.set_cons_succ])
            refine wpAnyH_done (by kernel_rfl) ?_ _
            refine NoPanic.normal ?_
            have HBf : Hid (Below w.heap.size w w4) := HB.out.trans (hHeld.mono HB.out.size)
            clear hHeld HEq HRT3 HO3 HK3 HN3 HB HTs hz3 hy3
            go_wp2_with fail
            go_loopw [8] (fun k wq => ∃ m : Nat, m ≤ 1000000 ∧ k = .int .i64 m ∧ Below w.heap.size w wq) (fun k _ => s.size - (intOf k).toNat)
            case atStart => exact ⟨0, by omega, rfl, HBf.out⟩
            case round =>
              clear HBf
              obtain ⟨m, hm, rfl, hBq⟩ := hrel
              have HB : Hid (Below w.heap.size w wr) := hBq
              clear hBq
              by_cases hlm : m < s.size
              · have hlm' : (m : Int) < (s.size : Int) := by omega
                have hless := HLess.out m hlm
                obtain ⟨W, bc, hcv, hsb, hbW, hWz, hbc⟩ := sb_new s wr
                have HSb : Hid (Sb W wr.heap.size s.data.toList) := hsb
                have hlenS : s.data.toList.length = s.size := data_len s
                have HBW : Hid (Below w.heap.size w W) := HB.out.trans (hbW.mono HB.out.size)
                have hwg := HB.out.size
                obtain ⟨c, hcx, hcx2⟩ := xor_other s[m] (1 + (i + m) % 255) (by omega) (by omega)
                have hkc := HSb.out.cell m (by omega)
                have hkf := HSb.out.frozen m (by omega)
                have e9 : s.data.toList[m]'(by omega) = s[m] := rfl
                rw [e9] at hkc
                have e8 : ((1 + (i + m) % 255 : Nat) : Int) = 1 + ((i : Int) + (m : Int)) % 255 := by omega
                rw [e8] at hcx2
                clear e9 e8 hsb hbW HB
                go_upto_region 16 with fail
                have hsb2 := HSb.out.set m c
                have hBU : Below w.heap.size w (W.setCell ⟨wr.heap.size, m, none⟩ (.int .u8 (c.toNat : Int))) := HBW.out.setCell (p := ⟨wr.heap.size, m, none⟩) hwg _
                generalize W.setCell ⟨wr.heap.size, m, none⟩ (.int .u8 (c.toNat : Int)) = U at *
                obtain ⟨g, hg⟩ : ∃ g, g = wr.heap.size := ⟨_, rfl⟩
                rw [← hg] at hsb2 ⊢
                have hl2 : s.size = (s.data.toList.set m c).length := by rw [List.length_set, hlenS]
                obtain ⟨sc, hsc⟩ : ∃ sc : ByteArray, sc = ⟨(s.data.toList.set m c).toArray⟩ := ⟨_, rfl⟩
                have hscz : sc.size = s.size := by rw [hsc, hl2]; show (s.data.toList.set m c).toArray.size = _; simp
                have hst := hsb2.string s.size bc hl2
                rw [← hsc] at hst
                have HSb2 : Hid (Sb U g (s.data.toList.set m c)) := hsb2
                have HSc : Hid (s.size = (s.data.toList.set m c).length ∧ (⟨(s.data.toList.set m c).toArray⟩ : ByteArray) = sc) := ⟨hl2, hsc.symm⟩
                generalize s.data.toList.set m c = l2 at HSb2 HSc
                have HBU : Hid (Below w.heap.size w U) := hBU
                have HT5 := take_any sc (by omega)
                clear hsb2 hl2 hsc hBU HSb HBW hkc hkf hcv hg hcx hcx2 hlenS hWz hbc
                rcases tkTE_cases sc with ⟨he, hk⟩ | he
                · rw [he] at HT5
                  obtain ⟨k1, k2, k3⟩ := tk_bk sc hk
                  obtain ⟨u5, hu5⟩ : ∃ u, u = tkT sc := ⟨_, rfl⟩
                  rw [← hu5] at k1 k2 k3 HT5
                  have HT5 : Hid _ := HT5
                  have HBy : Hid (∀ (aH aB : Option Addr) (cH cB : Nat) (w : World), RT w u5 (.slice aH u5.hs.length cH) (.slice aB u5.bs.length cB) → Calls Try.prog 22 #[.agg (txc u5 (.slice aH u5.hs.length cH) (.slice aB u5.bs.length cB))] w fun e w' => e = .returned (.tuple #[.string sc, .int .i64 0]) ∧ Below w.heap.size w w') := fun aH aB cH cB w hr => by
                    have := bytes_of u5 k2 k3 aH aB cH cB w hr
                    rw [k1] at this
                    exact this
                  have HW5 : Hid (TXw u5) := k3
                  clear he hk k1 k2 k3 hu5
                  go_wp2_with fail
                  refine (HT5.out _).mono ?_
                  rintro e wt5 ⟨⟨a5, c5, b5, d5, rfl, hO5⟩, hbt5⟩
                  have HNz5 : Hid (Bk (wt5.alloc (.cells z21 30)) wt5.heap.size z21 30) := Bk.new _ _ _
                  have hBz5 := HBU.out.trans (hbt5.mono HBU.out.size)
                  have HBz5 : Hid (Below w.heap.size w (wt5.alloc (.cells z21 30))) := hBz5.alloc hBz5.size _
                  have HKz5 : Hid (Below U.heap.size U (wt5.alloc (.cells z21 30))) := hbt5.alloc hbt5.size _
                  have hz5 := hBz5.size
                  have hy5 := hbt5.size
                  have HOz5 : Hid (OT wt5 U.heap.size u5 (.slice a5 u5.hs.length c5) (.slice b5 u5.bs.length d5)) := hO5
                  clear hO5 hbt5 hBz5 HBU
                  go_upto_region 17 with (refine wpList_store_tx rfl _ _ rfl rfl rfl HNz5.out rfl ?_; intro W5 hS5)
                  obtain ⟨N5, hN5⟩ : ∃ N, N = wt5.heap.size := ⟨_, rfl⟩
                  rw [← hN5] at hS5 ⊢
                  have HN5 : Hid (Bk W5 N5 (txc u5 (.slice a5 u5.hs.length c5) (.slice b5 u5.bs.length d5)) 30) := hS5.bR
                  have HB : Hid (Below w.heap.size w W5) := hS5.below _ _ (by omega) HBz5.out
                  have HK5 : Hid (Below U.heap.size U W5) := hS5.below _ _ (by omega) HKz5.out
                  have HO5 : Hid (OT W5 U.heap.size u5 (.slice a5 u5.hs.length c5) (.slice b5 u5.bs.length d5)) := ⟨hS5.or (HOz5.out.h.alloc _) (fun e => by have := (HOz5.out.h.ge e).2; omega), hS5.or (HOz5.out.b.alloc _) (fun e => by have := (HOz5.out.b.ge e).2; omega)⟩
                  clear hS5 HBz5 HKz5 HNz5 HOz5 hN5
                  have HRT5 : Hid (RT W5 u5 (.slice a5 u5.hs.length c5) (.slice b5 u5.bs.length d5)) := ⟨HO5.out.h.su HW5.out.hs, HO5.out.b.ss HW5.out.bs⟩
                  go_wp2_with (first | (go_at_call 13; refine (num7 _ _).mono ?_; rintro e wN ⟨rfl, hwN⟩; have hwN := hwN.symm; subst hwN) | (refine wpList_load_tx rfl _ rfl rfl HN5.out ?_))
                  refine (HBy.out _ _ _ _ _ HRT5.out).mono ?_
                  rintro e w6 ⟨rfl, hb6⟩
                  have HB5 : Hid (Below w.heap.size w w6) := HB.out.trans (hb6.mono HB.out.size)
                  have hsb6 : Sb w6 g l2 := HSb2.out.below (HK5.out.trans (hb6.mono HK5.out.size)) HSb2.out.lt
                  have hst6 := hsb6.string s.size bc HSc.out.1
                  rw [HSc.out.2] at hst6
                  clear hb6 hst HN5 HK5 HO5 HRT5 HB hsb6
                  have HB : Hid (Below w.heap.size w w6) := HB5.out
                  clear HB5
                  obtain ⟨u6, hu6⟩ : ∃ u, u = tkT (s.extract 0 m) := ⟨_, rfl⟩
                  have HTl : Hid (∀ w, Calls Try.prog 11 #[.string (s.extract 0 m)] w fun e w' => (∃ a1 b1 c1 d1, e = .returned (.tuple #[.agg (txc u6 (.slice a1 u6.hs.length b1) (.slice c1 u6.bs.length d1)), .int .i64 1]) ∧ OT w' w.heap.size u6 (.slice a1 u6.hs.length b1) (.slice c1 u6.bs.length d1)) ∧ Below w.heap.size w w') := fun w => by
                    have := take_any (s.extract 0 m) (by rw [ByteArray.size_extract]; omega) w
                    rw [hless, ← hu6] at this
                    exact this
                  clear hu6
                  have hmn : (0 : Int) ≤ (m : Int) := by omega
                  have hmle : (m : Int) ≤ (s.size : Int) := by omega
                  go_wp2_with (first | (go_at_call 13; refine (num7 _ _).mono ?_; rintro e wN ⟨rfl, hwN⟩; have hwN := hwN.symm; subst hwN) | fail)
                  refine (HTl.out _).mono ?_
                  rintro e wt6 ⟨⟨a6, c6, b6, d6, rfl, hO6⟩, hbt6⟩
                  have HNz6 : Hid (Bk (wt6.alloc (.cells z21 30)) wt6.heap.size z21 30) := Bk.new _ _ _
                  have hBz6 := HB.out.trans (hbt6.mono HB.out.size)
                  have HBz6 : Hid (Below w.heap.size w (wt6.alloc (.cells z21 30))) := hBz6.alloc hBz6.size _
                  have HKz6 : Hid (Below w6.heap.size w6 (wt6.alloc (.cells z21 30))) := hbt6.alloc hbt6.size _
                  have hz6 := hBz6.size
                  have hy6 := hbt6.size
                  have HOz6 : Hid (OT wt6 w6.heap.size u6 (.slice a6 u6.hs.length c6) (.slice b6 u6.bs.length d6)) := hO6
                  clear hO6 hbt6 hBz6 HB
                  go_upto_region 22 with (refine wpList_store_tx rfl _ _ rfl rfl rfl HNz6.out rfl ?_; intro W6 hS6)
                  obtain ⟨N6, hN6⟩ : ∃ N, N = wt6.heap.size := ⟨_, rfl⟩
                  rw [← hN6] at hS6 ⊢
                  have HN6 : Hid (Bk W6 N6 (txc u6 (.slice a6 u6.hs.length c6) (.slice b6 u6.bs.length d6)) 30) := hS6.bR
                  have HB : Hid (Below w.heap.size w W6) := hS6.below _ _ (by omega) HBz6.out
                  have HK6 : Hid (Below w6.heap.size w6 W6) := hS6.below _ _ (by omega) HKz6.out
                  have HO6 : Hid (OT W6 w6.heap.size u6 (.slice a6 u6.hs.length c6) (.slice b6 u6.bs.length d6)) := ⟨hS6.or (HOz6.out.h.alloc _) (fun e => by have := (HOz6.out.h.ge e).2; omega), hS6.or (HOz6.out.b.alloc _) (fun e => by have := (HOz6.out.b.ge e).2; omega)⟩
                  clear hS6 HBz6 HKz6 HNz6 HOz6 hN6
                  go_wp2_with (go_at_call 13; refine (num7 _ _).mono ?_; rintro e wN ⟨rfl, hwN⟩; have hwN := hwN.symm; subst hwN)
                  go_roundw
                  case rel => exact ⟨m + 1 + s.size / 40, by omega, by go_num, HB.out⟩
                  case measure => simp [intOf]; omega
                · rw [he] at HT5
                  obtain ⟨u5, hu5⟩ : ∃ u, u = tkT sc := ⟨_, rfl⟩
                  rw [← hu5] at HT5
                  have HT5 : Hid _ := HT5
                  clear he hu5
                  go_wp2_with fail
                  refine (HT5.out _).mono ?_
                  rintro e wt5 ⟨⟨a5, c5, b5, d5, rfl, hO5⟩, hbt5⟩
                  have HNz5 : Hid (Bk (wt5.alloc (.cells z21 30)) wt5.heap.size z21 30) := Bk.new _ _ _
                  have hBz5 := HBU.out.trans (hbt5.mono HBU.out.size)
                  have HBz5 : Hid (Below w.heap.size w (wt5.alloc (.cells z21 30))) := hBz5.alloc hBz5.size _
                  have HKz5 : Hid (Below U.heap.size U (wt5.alloc (.cells z21 30))) := hbt5.alloc hbt5.size _
                  have hz5 := hBz5.size
                  have hy5 := hbt5.size
                  have HOz5 : Hid (OT wt5 U.heap.size u5 (.slice a5 u5.hs.length c5) (.slice b5 u5.bs.length d5)) := hO5
                  clear hO5 hbt5 hBz5 HBU
                  go_upto_region 17 with (refine wpList_store_tx rfl _ _ rfl rfl rfl HNz5.out rfl ?_; intro W5 hS5)
                  obtain ⟨N5, hN5⟩ : ∃ N, N = wt5.heap.size := ⟨_, rfl⟩
                  rw [← hN5] at hS5 ⊢
                  have HN5 : Hid (Bk W5 N5 (txc u5 (.slice a5 u5.hs.length c5) (.slice b5 u5.bs.length d5)) 30) := hS5.bR
                  have HB : Hid (Below w.heap.size w W5) := hS5.below _ _ (by omega) HBz5.out
                  have HK5 : Hid (Below U.heap.size U W5) := hS5.below _ _ (by omega) HKz5.out
                  have HO5 : Hid (OT W5 U.heap.size u5 (.slice a5 u5.hs.length c5) (.slice b5 u5.bs.length d5)) := ⟨hS5.or (HOz5.out.h.alloc _) (fun e => by have := (HOz5.out.h.ge e).2; omega), hS5.or (HOz5.out.b.alloc _) (fun e => by have := (HOz5.out.b.ge e).2; omega)⟩
                  clear hS5 HBz5 HKz5 HNz5 HOz5 hN5
                  clear HN5 HK5 HO5 hst
                  obtain ⟨u6, hu6⟩ : ∃ u, u = tkT (s.extract 0 m) := ⟨_, rfl⟩
                  have HTl : Hid (∀ w, Calls Try.prog 11 #[.string (s.extract 0 m)] w fun e w' => (∃ a1 b1 c1 d1, e = .returned (.tuple #[.agg (txc u6 (.slice a1 u6.hs.length b1) (.slice c1 u6.bs.length d1)), .int .i64 1]) ∧ OT w' w.heap.size u6 (.slice a1 u6.hs.length b1) (.slice c1 u6.bs.length d1)) ∧ Below w.heap.size w w') := fun w => by
                    have := take_any (s.extract 0 m) (by rw [ByteArray.size_extract]; omega) w
                    rw [hless, ← hu6] at this
                    exact this
                  clear hu6
                  have hmn : (0 : Int) ≤ (m : Int) := by omega
                  have hmle : (m : Int) ≤ (s.size : Int) := by omega
                  go_wp2_with (first | (go_at_call 13; refine (num7 _ _).mono ?_; rintro e wN ⟨rfl, hwN⟩; have hwN := hwN.symm; subst hwN) | fail)
                  refine (HTl.out _).mono ?_
                  rintro e wt6 ⟨⟨a6, c6, b6, d6, rfl, hO6⟩, hbt6⟩
                  have HNz6 : Hid (Bk (wt6.alloc (.cells z21 30)) wt6.heap.size z21 30) := Bk.new _ _ _
                  have hBz6 := HB.out.trans (hbt6.mono HB.out.size)
                  have HBz6 : Hid (Below w.heap.size w (wt6.alloc (.cells z21 30))) := hBz6.alloc hBz6.size _
                  have HKz6 : Hid (Below W5.heap.size W5 (wt6.alloc (.cells z21 30))) := hbt6.alloc hbt6.size _
                  have hz6 := hBz6.size
                  have hy6 := hbt6.size
                  have HOz6 : Hid (OT wt6 W5.heap.size u6 (.slice a6 u6.hs.length c6) (.slice b6 u6.bs.length d6)) := hO6
                  clear hO6 hbt6 hBz6 HB
                  go_upto_region 22 with (refine wpList_store_tx rfl _ _ rfl rfl rfl HNz6.out rfl ?_; intro W6 hS6)
                  obtain ⟨N6, hN6⟩ : ∃ N, N = wt6.heap.size := ⟨_, rfl⟩
                  rw [← hN6] at hS6 ⊢
                  have HN6 : Hid (Bk W6 N6 (txc u6 (.slice a6 u6.hs.length c6) (.slice b6 u6.bs.length d6)) 30) := hS6.bR
                  have HB : Hid (Below w.heap.size w W6) := hS6.below _ _ (by omega) HBz6.out
                  have HK6 : Hid (Below W5.heap.size W5 W6) := hS6.below _ _ (by omega) HKz6.out
                  have HO6 : Hid (OT W6 W5.heap.size u6 (.slice a6 u6.hs.length c6) (.slice b6 u6.bs.length d6)) := ⟨hS6.or (HOz6.out.h.alloc _) (fun e => by have := (HOz6.out.h.ge e).2; omega), hS6.or (HOz6.out.b.alloc _) (fun e => by have := (HOz6.out.b.ge e).2; omega)⟩
                  clear hS6 HBz6 HKz6 HNz6 HOz6 hN6
                  go_wp2_with (go_at_call 13; refine (num7 _ _).mono ?_; rintro e wN ⟨rfl, hwN⟩; have hwN := hwN.symm; subst hwN)
                  go_roundw
                  case rel => exact ⟨m + 1 + s.size / 40, by omega, by go_num, HB.out⟩
                  case measure => simp [intOf]; omega
              · obtain ⟨u7, hu7⟩ : ∃ u, u = tkT (s ++ ⟨#[120]⟩) := ⟨_, rfl⟩
                have HTm : Hid (∀ w, Calls Try.prog 11 #[.string (s ++ ⟨#[120]⟩)] w fun e w' => (∃ a1 b1 c1 d1, e = .returned (.tuple #[.agg (txc u7 (.slice a1 u7.hs.length b1) (.slice c1 u7.bs.length d1)), .int .i64 1]) ∧ OT w' w.heap.size u7 (.slice a1 u7.hs.length b1) (.slice c1 u7.bs.length d1)) ∧ Below w.heap.size w w') := fun w => by
                  have := take_any (s ++ ⟨#[120]⟩) (by rw [ByteArray.size_append, show (⟨#[120]⟩ : ByteArray).size = 1 by rfl]; omega) w
                  rw [HMore.out, ← hu7] at this
                  exact this
                have hge : ¬ (m : Int) < (s.size : Int) := by omega
                clear hu7
                go_wp2_with fail
                refine (HTm.out _).mono ?_
                rintro e wt7 ⟨⟨a7, c7, b7, d7, rfl, hO7⟩, hbt7⟩
                have HNz7 : Hid (Bk (wt7.alloc (.cells z21 30)) wt7.heap.size z21 30) := Bk.new _ _ _
                have hBz7 := HB.out.trans (hbt7.mono HB.out.size)
                have HBz7 : Hid (Below w.heap.size w (wt7.alloc (.cells z21 30))) := hBz7.alloc hBz7.size _
                have HKz7 : Hid (Below wr.heap.size wr (wt7.alloc (.cells z21 30))) := hbt7.alloc hbt7.size _
                have hz7 := hBz7.size
                have hy7 := hbt7.size
                have HOz7 : Hid (OT wt7 wr.heap.size u7 (.slice a7 u7.hs.length c7) (.slice b7 u7.bs.length d7)) := hO7
                clear hO7 hbt7 hBz7 HB
                go_upto_region 25 with (refine wpList_store_tx rfl _ _ rfl rfl rfl HNz7.out rfl ?_; intro W7 hS7)
                obtain ⟨N7, hN7⟩ : ∃ N, N = wt7.heap.size := ⟨_, rfl⟩
                rw [← hN7] at hS7 ⊢
                have HN7 : Hid (Bk W7 N7 (txc u7 (.slice a7 u7.hs.length c7) (.slice b7 u7.bs.length d7)) 30) := hS7.bR
                have HB : Hid (Below w.heap.size w W7) := hS7.below _ _ (by omega) HBz7.out
                have HK7 : Hid (Below wr.heap.size wr W7) := hS7.below _ _ (by omega) HKz7.out
                have HO7 : Hid (OT W7 wr.heap.size u7 (.slice a7 u7.hs.length c7) (.slice b7 u7.bs.length d7)) := ⟨hS7.or (HOz7.out.h.alloc _) (fun e => by have := (HOz7.out.h.ge e).2; omega), hS7.or (HOz7.out.b.alloc _) (fun e => by have := (HOz7.out.b.ge e).2; omega)⟩
                clear hS7 HBz7 HKz7 HNz7 HOz7 hN7
                go_wp2_with (go_at_call 13; refine (num7 _ _).mono ?_; rintro e wN ⟨rfl, hwN⟩; have hwN := hwN.symm; subst hwN)
                go_roundw
                case rel => exact ⟨i + 1, by omega, by omega, by go_num, HB.out⟩
                case measure => simp [intOf]; omega
          · have he : cosE q.t = 1 := if_neg hok
            have hby := bytes7 q.t aH aB cH cB w1 hwT (HT0.out.below HB1.out)
            rw [he] at hby
            clear he
            generalize bytS q.t = s at hby
            refine hby.mono ?_
            rintro e w2 ⟨rfl, hb2⟩
            clear hby
            have HB : Hid (Below w.heap.size w w2) := HB1.out.trans (hb2.mono HB1.out.size)
            clear hb2 HB1
            go_wp2_with (go_at_call 13; refine (num7 _ _).mono ?_; rintro e wN ⟨rfl, rfl⟩)
            go_roundw
            case rel => exact ⟨i + 1, by omega, by omega, by go_num, HB.out⟩
            case measure => simp [intOf]; omega
      · have hlt2' : ¬ (i : Int) < 8 := by omega
        go_wp2_with (go_at_call 16; refine (wakes7 _).mono ?_; rintro e w1 ⟨rfl, hb1⟩)
        go_ret
        exact ⟨rfl, hbo.trans (hb1.mono hszr)⟩
    · have hlt' : ¬ (i : Int) < (qs.length : Int) := by omega
      go_wp2_with (go_at_call 16; refine (wakes7 _).mono ?_; rintro e w1 ⟨rfl, hb1⟩)
      go_ret
      exact ⟨rfl, hbo.trans (hb1.mono hszr)⟩
end Go.Proofs.Ytapjonmgjccpbaa

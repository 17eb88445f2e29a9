import Derived.Test.YtapjonmgjccpbaaJ1
import Derived.Test.YtapjonmgjccpbaaJ21
import Derived.Test.YtapjonmgjccpbaaTkB
import Derived.Test.YtapjonmgjccpbaaRTk7
import Derived.Test.YtapjonmgjccpbaaSp7
import Derived.Deep.DeepCutAuto
set_option linter.unusedSimpArgs false
set_option linter.unusedVariables false
namespace Go.Proofs.Ytapjonmgjccpbaa
open Go.RowKit

/-! tarnlaw7.TxTakes, walked. -/
theorem zTX_w : TXw zTX := ⟨by show 0 < M256; decide +kernel, by show 0 < M256; decide +kernel, by show 0 < M256; decide +kernel, by show 0 < M256; decide +kernel, (show (-9223372036854775808 : Int) ≤ 0 ∧ (0 : Int) ≤ 9223372036854775807 by omega), (show (-9223372036854775808 : Int) ≤ 0 ∧ (0 : Int) ≤ 9223372036854775807 by omega), (show (-9223372036854775808 : Int) ≤ 0 ∧ (0 : Int) ≤ 9223372036854775807 by omega), (fun x hx => by cases hx), (fun x hx => by cases hx)⟩
theorem tkT_w (s : ByteArray) : TXw (tkT s) ∧ (tkT s).hs.length ≤ 1000000 ∧ (tkT s).bs.length ≤ 1000000 := by
  by_cases h : tkOk s
  · obtain ⟨-, h2, h3⟩ := tk_bk s h
    obtain ⟨f1, f2, f3, -⟩ := fit_facts _ h2.2.2.2.2.1
    exact ⟨h3, by omega, by omega⟩
  · rw [show tkT s = zTX from if_neg h]
    exact ⟨zTX_w, by show 0 ≤ 1000000; omega, by show 0 ≤ 1000000; omega⟩
set_option maxRecDepth 100000 in
set_option maxHeartbeats 8000000 in
theorem txTakes_walk (v : Value) (qs : List Q7) (w : World) (hs : Sq7 w v qs) (hsm : Small7 qs) :
    Calls Try.prog 3 #[v] w fun e w' => e = .returned (.bool true) ∧ Below w.heap.size w w' := by
  obtain ⟨hlen, ad, cap, rfl, hat⟩ := hs
  have HA : Hid _ := hat
  have HM : Hid (Small7 qs) := hsm
  clear hat hsm
  go_enter Try.func3, Try.ntmps3
  go_wp2_with fail
  go_loopw [3] (fun i wr => ∃ k : Nat, k ≤ qs.length ∧ k ≤ 8 ∧ i = .int .i64 k ∧ Below w.heap.size w wr) (fun i _ => qs.length - (intOf i).toNat)
  case atStart => exact ⟨0, by omega, by omega, rfl, Below.refl _ _⟩
  case round =>
    obtain ⟨i, hi, hi20, rfl, hbo⟩ := hrel
    have hszr := hbo.size
    by_cases hlt : i < qs.length
    · have hlt' : (i : Int) < (qs.length : Int) := by omega
      by_cases hlt2 : i < 8
      · have hlt2' : (i : Int) < 8 := by omega
        obtain ⟨b, off, rfl, aH, cH, aB, cB, hR0, hT0, hq⟩ := HA.out i hlt
        obtain ⟨hfin, hsz⟩ := HM.out _ (List.getElem_mem hlt)
        generalize qs[i] = q at *
        have HR0 : Hid (w.rangeAt b (off + i * 26) (askc q.t (.slice aH q.t.hs.length cH) (.slice aB q.t.bs.length cB) q.s q.b).toList) := hR0
        have HT0 : Hid (RT w q.t (.slice aH q.t.hs.length cH) (.slice aB q.t.bs.length cB)) := hT0
        have HQ : Hid (Q7w q) := hq
        have HF : Hid (Fine q.t) := hfin
        have HB : Hid (Below w.heap.size w wr) := hbo
        have hwT := hq.t
        clear hR0 hT0 hq hfin hbo
        go_wp2_with (refine wpList_load_ask rfl _ rfl rfl (range_below HR0.out HB.out) ?_)
        refine (heavy7 q.t aH aB cH cB q.s q.b wr HF.out (HT0.out.below HB.out)).mono ?_
        rintro e w1 ⟨⟨c, rfl, hc⟩, hb1⟩
        have HB1 : Hid (Below w.heap.size w w1) := HB.out.trans (hb1.mono hszr)
        have hszb := HB1.out.size
        clear hb1 HB
        cases c with
        | true =>
          go_wp2_with fail
          go_ret
          exact ⟨rfl, HB1.out⟩
        | false =>
          have hs5 := (hc rfl).2
          clear hc
          obtain ⟨hwu, hu1, hu2⟩ := tkT_w q.s
          have HT1 := fun w => take7' q.s w (by omega)
          have HT2 := fun w => rtake7 q.s w (by omega)
          obtain ⟨u, hu⟩ : ∃ u, u = tkT q.s := ⟨_, rfl⟩
          rw [← hu] at hwu hu1 hu2 HT1 HT2
          have HT1 : Hid (∀ w, Calls Try.prog 11 #[.string q.s] w fun e w' => (∃ a1 b1 c1 d1, e = .returned (.tuple #[.agg (txc u (.slice a1 u.hs.length b1) (.slice c1 u.bs.length d1)), .int .i64 (tkTE q.s)]) ∧ OT w' w.heap.size u (.slice a1 u.hs.length b1) (.slice c1 u.bs.length d1)) ∧ Below w.heap.size w w') := HT1
          have HT2 : Hid (∀ w, Calls Try.prog 12 #[.string q.s] w fun e w' => (∃ a1 b1 c1 d1, e = .returned (.tuple #[.agg (txc u (.slice a1 u.hs.length b1) (.slice c1 u.bs.length d1)), .bool (decide (tkOk q.s))]) ∧ OT w' w.heap.size u (.slice a1 u.hs.length b1) (.slice c1 u.bs.length d1)) ∧ Below w.heap.size w w') := HT2
          clear hu
          have hst := ask_str (range_below HR0.out HB1.out)
          go_wp2_with fail
          refine (HT1.out _).mono ?_
          rintro e wt3 ⟨⟨a3, c3, b3, d3, rfl, hO3⟩, hbt3⟩
          have HNz3 : Hid (Bk (wt3.alloc (.cells z21 30)) wt3.heap.size z21 30) := Bk.new _ _ _
          have hBz3 := HB1.out.trans (hbt3.mono HB1.out.size)
          have HBz3 : Hid (Below w.heap.size w (wt3.alloc (.cells z21 30))) := hBz3.alloc hBz3.size _
          have HKz3 : Hid (Below w1.heap.size w1 (wt3.alloc (.cells z21 30))) := hbt3.alloc hbt3.size _
          have hz3 := hBz3.size
          have hy3 := hbt3.size
          have HOz3 : Hid (OT wt3 w1.heap.size u (.slice a3 u.hs.length c3) (.slice b3 u.bs.length d3)) := hO3
          clear hO3 hbt3 hBz3 HB1
          go_upto_region 7 with (refine wpList_store_tx rfl _ _ rfl rfl rfl HNz3.out rfl ?_; intro W3 hS3)
          obtain ⟨N3, hN3⟩ : ∃ N, N = wt3.heap.size := ⟨_, rfl⟩
          rw [← hN3] at hS3 ⊢
          have HN3 : Hid (Bk W3 N3 (txc u (.slice a3 u.hs.length c3) (.slice b3 u.bs.length d3)) 30) := hS3.bR
          have HB : Hid (Below w.heap.size w W3) := hS3.below _ _ (by omega) HBz3.out
          have HK3 : Hid (Below w1.heap.size w1 W3) := hS3.below _ _ (by omega) HKz3.out
          have HO3 : Hid (OT W3 w1.heap.size u (.slice a3 u.hs.length c3) (.slice b3 u.bs.length d3)) := ⟨hS3.or (HOz3.out.h.alloc _) (fun e => by have := (HOz3.out.h.ge e).2; omega), hS3.or (HOz3.out.b.alloc _) (fun e => by have := (HOz3.out.b.ge e).2; omega)⟩
          clear hS3 HBz3 HKz3 HNz3 HOz3 hN3
          clear hst
          have hst := ask_str (range_below HR0.out HB.out)
          go_wp2_with fail
          refine (HT2.out _).mono ?_
          rintro e wt5 ⟨⟨a5, c5, b5, d5, rfl, hO5⟩, hbt5⟩
          have HNz5 : Hid (Bk (wt5.alloc (.cells z21 30)) wt5.heap.size z21 30) := Bk.new _ _ _
          have hBz5 := HB.out.trans (hbt5.mono HB.out.size)
          have HBz5 : Hid (Below w.heap.size w (wt5.alloc (.cells z21 30))) := hBz5.alloc hBz5.size _
          have HKz5 : Hid (Below W3.heap.size W3 (wt5.alloc (.cells z21 30))) := hbt5.alloc hbt5.size _
          have hz5 := hBz5.size
          have hy5 := hbt5.size
          have HOz5 : Hid (OT wt5 W3.heap.size u (.slice a5 u.hs.length c5) (.slice b5 u.bs.length d5)) := hO5
          clear hO5 hbt5 hBz5 HB
          go_upto_region 8 with (refine wpList_store_tx rfl _ _ rfl rfl rfl HNz5.out rfl ?_; intro W5 hS5)
          obtain ⟨N5, hN5⟩ : ∃ N, N = wt5.heap.size := ⟨_, rfl⟩
          rw [← hN5] at hS5 ⊢
          have HN5 : Hid (Bk W5 N5 (txc u (.slice a5 u.hs.length c5) (.slice b5 u.bs.length d5)) 30) := hS5.bR
          have HB : Hid (Below w.heap.size w W5) := hS5.below _ _ (by omega) HBz5.out
          have HK5 : Hid (Below W3.heap.size W3 W5) := hS5.below _ _ (by omega) HKz5.out
          have HO5 : Hid (OT W5 W3.heap.size u (.slice a5 u.hs.length c5) (.slice b5 u.bs.length d5)) := ⟨hS5.or (HOz5.out.h.alloc _) (fun e => by have := (HOz5.out.h.ge e).2; omega), hS5.or (HOz5.out.b.alloc _) (fun e => by have := (HOz5.out.b.ge e).2; omega)⟩
          clear hS5 HBz5 HKz5 HNz5 HOz5 hN5
          clear hst
          have HN3b : Hid (Bk W5 N3 (txc u (.slice a3 u.hs.length c3) (.slice b3 u.bs.length d3)) 30) := HN3.out.below HK5.out HN3.out.lt
          have HO3b : Hid (OT W5 w1.heap.size u (.slice a3 u.hs.length c3) (.slice b3 u.bs.length d3)) := ⟨HO3.out.h.below' HK5.out, HO3.out.b.below' HK5.out⟩
          have HEq : Hid (Calls Try.prog 14 #[.agg (txc u (.slice a3 u.hs.length c3) (.slice b3 u.bs.length d3)), .agg (txc u (.slice a5 u.hs.length c5) (.slice b5 u.bs.length d5))] W5 fun e w' => (∃ c : Bool, e = .returned (.bool c) ∧ (c = true ↔ u = u)) ∧ Below W5.heap.size W5 w') := eqTx u u a3 b3 a5 b5 c3 d3 c5 d5 W5 hwu hwu ⟨HO3b.out.h.su hwu.hs, HO3b.out.b.ss hwu.bs⟩ ⟨HO5.out.h.su hwu.hs, HO5.out.b.ss hwu.bs⟩
          have hcase : (tkTE q.s = 0 ∧ decide (tkOk q.s) = true) ∨ (tkTE q.s = 1 ∧ decide (tkOk q.s) = false) := by
            by_cases h : tkOk q.s
            · exact .inl ⟨if_pos h, decide_eq_true h⟩
            · exact .inr ⟨if_neg h, decide_eq_false h⟩
          have hz5 := Nat.le_trans HK3.out.size HK5.out.size
          clear HT1 HT2 HN3 HO3 HK3 HO5 HK5
          rcases hcase with ⟨h1, h2⟩ | ⟨h1, h2⟩
          all_goals
            rw [h1, h2]
            clear h1 h2
            go_wp2_with (first | (go_at_call 13; refine (num7 _ _).mono ?_; rintro e wN ⟨rfl, hwN⟩; have hwN := hwN.symm; subst hwN) | (refine wpList_load_txG rfl _ rfl rfl HN3b.out ?_) | (refine wpList_load_txG rfl _ rfl rfl HN5.out ?_))
            refine HEq.out.mono ?_
            rintro e w6 ⟨⟨cc, rfl, hcc⟩, hb6⟩
            obtain rfl : cc = true := hcc.2 (by trivial)
            have HN6 : Hid (Bk w6 N3 (txc u (.slice a3 u.hs.length c3) (.slice b3 u.bs.length d3)) 30) := HN3b.out.below hb6 HN3b.out.lt
            have HO6 : Hid (OT w6 w1.heap.size u (.slice a3 u.hs.length c3) (.slice b3 u.bs.length d3)) := ⟨HO3b.out.h.below' hb6, HO3b.out.b.below' hb6⟩
            have HB6 : Hid (Below w.heap.size w w6) := HB.out.trans (hb6.mono HB.out.size)
            have HZ6 : Hid (w1.heap.size ≤ w6.heap.size) := by show _ ≤ _; have := hb6.size; omega
            clear hb6 hcc HEq HN3b HN5 HO3b HB
            go_wp2_with (first | (refine wpList_load_tx rfl _ rfl rfl HN6.out ?_))
            refine (spoilTx u a3 b3 c3 d3 w1.heap.size w6 HO6.out HZ6.out hu1 hu2).mono ?_
            rintro e w7 ⟨⟨vv, rfl⟩, hb7⟩
            have HB7 : Hid (Below w.heap.size w w7) := HB6.out.trans (hb7.mono hszb)
            clear hb7
            go_wp2_with fail
            go_roundw
            case rel => exact ⟨i + 1, by omega, by omega, by go_num, HB7.out⟩
            case measure => simp [intOf]; omega
      · have hlt2' : ¬ (i : Int) < 8 := by omega
        go_wp2_with (go_at_call 16; refine (wakes7 _).mono ?_; rintro e w1 ⟨rfl, hb1⟩)
        go_ret
        exact ⟨rfl, hbo.trans (hb1.mono hszr)⟩
    · have hlt' : ¬ (i : Int) < (qs.length : Int) := by omega
      go_wp2_with (go_at_call 16; refine (wakes7 _).mono ?_; rintro e w1 ⟨rfl, hb1⟩)
      go_ret
      exact ⟨rfl, hbo.trans (hb1.mono hszr)⟩
end Go.Proofs.Ytapjonmgjccpbaa

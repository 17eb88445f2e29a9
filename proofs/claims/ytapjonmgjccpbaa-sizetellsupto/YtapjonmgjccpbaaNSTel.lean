import Derived.Test.YtapjonmgjccpbaaJ1
import Derived.Test.YtapjonmgjccpbaaJ21
import Derived.Test.YtapjonmgjccpbaaOf8
import Derived.Deep.DeepCutAuto
set_option linter.unusedSimpArgs false
set_option linter.unusedVariables false
namespace Go.Proofs.Ytapjonmgjccpbaa
open Go.RowKit

/-! tarnlaw8.SizeTells, walked. -/
theorem range_at {w : World} {b o : Nat} {cs : List Value} (h : w.rangeAt b o cs) (k : Nat) (v : Value) (e : cs[k]? = some v) : w.cell? ⟨b, o + k, none⟩ = some v := h k v e
set_option maxRecDepth 100000 in
set_option maxHeartbeats 8000000 in
theorem sizeTells_walk (v : Value) (qs : List Q7) (w : World) (hs : Sq7 w v qs) (hsm : Small7 qs) :
    Calls Try.prog 7 #[v] w fun e w' => e = .returned (.bool true) ∧ Below w.heap.size w w' := by
  obtain ⟨hlen, ad, cap, rfl, hat⟩ := hs
  have HA : Hid _ := hat
  have HM : Hid (Small7 qs) := hsm
  clear hat hsm
  go_enter Try.func7, Try.ntmps7
  go_wp2_with fail
  go_loopw [3] (fun i wr => ∃ k : Nat, k ≤ qs.length ∧ k ≤ 10 ∧ i = .int .i64 k ∧ Below w.heap.size w wr) (fun i _ => qs.length - (intOf i).toNat)
  case atStart => exact ⟨0, by omega, by omega, rfl, Below.refl _ _⟩
  case round =>
    obtain ⟨i, hi, hi20, rfl, hbo⟩ := hrel
    have hszr := hbo.size
    by_cases hlt : i < qs.length
    · have hlt' : (i : Int) < (qs.length : Int) := by omega
      by_cases hlt2 : i < 10
      · have hlt2' : (i : Int) < 10 := by omega
        obtain ⟨b, off, rfl, aH, cH, aB, cB, hR0, hT0, hq⟩ := HA.out i hlt
        obtain ⟨hfin, hsz⟩ := HM.out _ (List.getElem_mem hlt)
        generalize qs[i] = q at *
        have HR0 : Hid (w.rangeAt b (off + i * 26) (askc q.t (.slice aH q.t.hs.length cH) (.slice aB q.t.bs.length cB) q.s q.b).toList) := hR0
        have HT0 : Hid (RT w q.t (.slice aH q.t.hs.length cH) (.slice aB q.t.bs.length cB)) := hT0
        have HQ : Hid (Q7w q) := hq
        have HF : Hid (Fine q.t) := hfin
        have HB : Hid (Below w.heap.size w wr) := hbo
        have hwT := hq.t
        clear hR0 hT0 hq hfin hbo
        go_upto_region 4 with fail
        go_cut [36] (fun c wx => (∃ c' : Bool, c = .bool c') ∧ Below wr.heap.size wr wx)
        case first =>
          go_wp2_with (refine wpList_load_txAt rfl _ rfl rfl (ask_tx (range_below HR0.out HB.out)) ?_)
          refine (txWeight q.t aH aB cH cB wr HF.out (HT0.out.below HB.out)).mono ?_
          rintro e w1 ⟨⟨r, rfl, hr⟩, hb1⟩
          have hst := ask_str (range_below HR0.out (HB.out.trans (hb1.mono HB.out.size)))
          have HB1 : Hid (Below wr.heap.size wr w1) := hb1
          clear hr hb1
          by_cases h2 : 2000 < r
          · go_wp2_with fail
            go_meet
            exact ⟨⟨_, rfl⟩, HB1.out⟩
          · go_wp2_with fail
            go_meet
            exact ⟨⟨_, rfl⟩, HB1.out⟩
        case rest =>
          obtain ⟨⟨c, rfl⟩, hb1⟩ := hcut
          replace HB : Hid (Below w.heap.size w wc) := HB.out.trans (hb1.mono HB.out.size)
          clear hb1
          cases c with
          | true =>
            go_wp2_with fail
            go_ret
            exact ⟨rfl, HB.out⟩
          | false =>
            have HOf : Hid (∀ W, Below w.heap.size w W → Calls Try.prog 27 #[.agg (txc q.t (.slice aH q.t.hs.length cH) (.slice aB q.t.bs.length cB))] W fun e w' => e = .returned (.tuple #[.int .i64 (ofN q.t), .int .i64 (ofK q.t), .int .i64 (ofS q.t), .int .i64 (cosE q.t)]) ∧ Below W.heap.size W w') := fun W h => of8 q.t aH aB cH cB W hwT (HT0.out.below h)
            have HTx : Hid (∀ W, Below w.heap.size w W → Calls Try.prog 18 #[.agg (txc q.t (.slice aH q.t.hs.length cH) (.slice aB q.t.bs.length cB))] W fun e w' => e = .returned (.bool (decide (TxOk q.t))) ∧ Below W.heap.size W w') := fun W h => rtx q.t aH aB cH cB W hwT (HT0.out.below h)
            go_wp2_with (refine wpList_load_txAt rfl _ rfl rfl (ask_tx (range_below HR0.out HB.out)) ?_)
            refine (HOf.out _ HB.out).mono ?_
            rintro e w2 ⟨rfl, hb2⟩
            replace HB : Hid (Below w.heap.size w w2) := HB.out.trans (hb2.mono HB.out.size)
            clear hb2
            go_wp2_with (refine wpList_load_txAt rfl _ rfl rfl (ask_tx (range_below HR0.out HB.out)) ?_)
            refine (HTx.out _ HB.out).mono ?_
            rintro e w3 ⟨rfl, hb3⟩
            replace HB : Hid (Below w.heap.size w w3) := HB.out.trans (hb3.mono HB.out.size)
            clear hb3 HOf HTx
            by_cases hok : TxOk q.t
            · have hz := size_small q.t hok hwT
              obtain ⟨g1, g2⟩ := fit_facts q.t hok.2.2.2.2.1
              have HRB : Hid (∀ W, Below w.heap.size w W → Calls Try.prog 29 #[.agg (txc q.t (.slice aH q.t.hs.length cH) (.slice aB q.t.bs.length cB))] W fun e w' => e = .returned (.string (itS (txI q.t))) ∧ Below W.heap.size W w') := fun W h => rbytes q.t aH aB cH cB W hwT (HT0.out.below h) (by omega) (by omega) hok.1.1 hok.2.1.1 hok.2.2.1.1 (Nat.le_trans (txI_ok q.t hok hwT).2 (by omega))
              have HRS : Hid (∀ w, Calls Try.prog 30 #[.int .i64 ((itS (txI q.t)).size : Int)] w fun e w' => e = .returned (.tuple #[.int .i64 (shV ((itS (txI q.t)).size : Int)), .bool true]) ∧ w' = w) := fun w => rshelf _ ⟨by omega, by omega⟩ w
              have HRL : Hid (∀ w, Calls Try.prog 31 #[.int .i64 (shV ((itS (txI q.t)).size : Int))] w fun e w' => e = .returned (.int .i64 (slV (shV ((itS (txI q.t)).size : Int)))) ∧ w' = w) := fun w => rslot _ (sh_facts _ ⟨by omega, by omega⟩).2.1 w
              rw [decide_eq_true hok, show ofN q.t = ((itS (txI q.t)).size : Int) from if_pos hok, show ofK q.t = shV ((itS (txI q.t)).size : Int) from if_pos hok, show ofS q.t = slV (shV ((itS (txI q.t)).size : Int)) from if_pos hok, show cosE q.t = 0 from if_pos hok]
              generalize slV (shV ((itS (txI q.t)).size : Int)) = sl at *
              generalize shV ((itS (txI q.t)).size : Int) = sh at *
              generalize itS (txI q.t) = out at *
              clear hz g1 g2
              go_wp2_with (refine wpList_load_txAt rfl _ rfl rfl (ask_tx (range_below HR0.out HB.out)) ?_)
              refine (HRB.out _ HB.out).mono ?_
              rintro e w4 ⟨rfl, hb4⟩
              replace HB : Hid (Below w.heap.size w w4) := HB.out.trans (hb4.mono HB.out.size)
              clear hb4
              go_wp2_with (first | (go_at_call 28; refine (num8 _ _).mono ?_; rintro e wN ⟨rfl, rfl⟩) | (go_at_call 30; refine (HRS.out _).mono ?_; rintro e wS ⟨rfl, rfl⟩) | (go_at_call 31; refine (HRL.out _).mono ?_; rintro e wL ⟨rfl, rfl⟩))
              go_roundw
              case rel => exact ⟨i + 1, by omega, by omega, by go_num, HB.out⟩
              case measure => simp [intOf]; omega
            · rw [decide_eq_false hok, show ofN q.t = 0 from if_neg hok, show ofK q.t = 0 from if_neg hok, show ofS q.t = 0 from if_neg hok, show cosE q.t = 1 from if_neg hok]
              go_wp2_with (go_at_call 28; refine (num8 _ _).mono ?_; rintro e wN ⟨rfl, rfl⟩)
              go_roundw
              case rel => exact ⟨i + 1, by omega, by omega, by go_num, HB.out⟩
              case measure => simp [intOf]; omega
      · have hlt2' : ¬ (i : Int) < 10 := by omega
        go_wp2_with (go_at_call 32; refine (wakes8 _).mono ?_; rintro e w1 ⟨rfl, hb1⟩)
        go_ret
        exact ⟨rfl, hbo.trans (hb1.mono hszr)⟩
    · have hlt' : ¬ (i : Int) < (qs.length : Int) := by omega
      go_wp2_with (go_at_call 32; refine (wakes8 _).mono ?_; rintro e w1 ⟨rfl, hb1⟩)
      go_ret
      exact ⟨rfl, hbo.trans (hb1.mono hszr)⟩
end Go.Proofs.Ytapjonmgjccpbaa

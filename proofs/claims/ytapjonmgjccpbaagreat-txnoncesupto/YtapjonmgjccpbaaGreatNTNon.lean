import Derived.Test.YtapjonmgjccpbaaGreatFld
set_option linter.unusedSimpArgs false
set_option linter.unusedVariables false
namespace Go.Proofs.YtapjonmgjccpbaaGreat
open Go.RowKit

/-! tarnlaw7.TxNonces, walked. -/
set_option maxRecDepth 100000 in
set_option maxHeartbeats 8000000 in
theorem txNonces_walk (v : Value) (qs : List Q7) (w : World) (hs : Sq7 w v qs) (hsm : Small7 qs) :
    Calls Tryz.prog 5 #[v] w fun e w' => e = .returned (.bool true) ∧ Below w.heap.size w w' := by
  obtain ⟨hlen, ad, cap, rfl, hat⟩ := hs
  have HA : Hid _ := hat
  have HM : Hid (Small7 qs) := hsm
  clear hat hsm
  go_enter Tryz.func5, Tryz.ntmps5
  go_wp2_with fail
  go_loopw [3] (fun i wr => ∃ k : Nat, k ≤ qs.length ∧ k ≤ 8 ∧ i = .int .i64 k ∧ Below w.heap.size w wr) (fun i _ => qs.length - (intOf i).toNat)
  case atStart => exact ⟨0, by omega, by omega, rfl, Below.refl _ _⟩
  case round =>
    obtain ⟨i, hi, hi20, rfl, hbo⟩ := hrel
    have hszr := hbo.size
    by_cases hlt : i < qs.length
    · have hlt' : (i : Int) < (qs.length : Int) := by omega
      by_cases hlt2 : i < 8
      · have hlt2' : (i : Int) < 8 := by omega
        obtain ⟨b, off, rfl, aH, cH, aB, cB, hR0, hT0, hq⟩ := HA.out i hlt
        obtain ⟨hfin, hsz⟩ := HM.out _ (List.getElem_mem hlt)
        generalize qs[i] = q at *
        have HR0 : Hid (w.rangeAt b (off + i * 26) (askc q.t (.slice aH q.t.hs.length cH) (.slice aB q.t.bs.length cB) q.s q.b).toList) := hR0
        have HT0 : Hid (RT w q.t (.slice aH q.t.hs.length cH) (.slice aB q.t.bs.length cB)) := hT0
        have HQ : Hid (Q7w q) := hq
        have HF : Hid (Fine q.t) := hfin
        have HB : Hid (Below w.heap.size w wr) := hbo
        have hwT := hq.t
        have HCp : Hid (∀ W, Below w.heap.size w W → Calls Tryz.prog 12 #[.agg (txc q.t (.slice aH q.t.hs.length cH) (.slice aB q.t.bs.length cB))] W fun e w' => (∃ a' b' c' d', e = .returned (.agg (txc q.t (.slice a' q.t.hs.length c') (.slice b' q.t.bs.length d'))) ∧ OT w' W.heap.size q.t (.slice a' q.t.hs.length c') (.slice b' q.t.bs.length d')) ∧ Below W.heap.size W w') := fun W h => copyTx q.t aH aB cH cB W (hT0.below h) (by have := hfin.hs; omega) (by have := hfin.bs; omega)
        clear hR0 hT0 hq hfin hbo
        go_wp2_with (refine wpList_load_ask rfl _ rfl rfl (range_below HR0.out HB.out) ?_)
        refine (heavy7 q.t aH aB cH cB q.s q.b wr HF.out (HT0.out.below HB.out)).mono ?_
        rintro e w1 ⟨⟨c, rfl, hc⟩, hb1⟩
        have HB1 : Hid (Below w.heap.size w w1) := HB.out.trans (hb1.mono hszr)
        have hszb := HB1.out.size
        clear hb1 HB
        cases c with
        | true =>
          go_wp2_with fail
          go_ret
          exact ⟨rfl, HB1.out⟩
        | false =>
          clear hc
          have hst := ask_str (range_below HR0.out HB1.out)
          have hss := HQ.out.s
          unfold maxLen at hss
          go_upto_region 7 with fail
          obtain ⟨E, hE⟩ : ∃ E, E = w1.heap.size := ⟨_, rfl⟩
          obtain ⟨W2, hW2⟩ : ∃ W, W = w1.alloc (.cells #[.int .i64 (-1), .int .i64 0, .int .i64 1, .int .i64 7, .int .i64 8, .int .i64 1099511627776, .int .i64 1099511627777, .int .i64 1073741824, .int .i64 1073741825, .int .i64 (q.s.size : Int)] 3) := ⟨_, rfl⟩
          rw [← hW2, ← hE]
          have HB2 : Hid (Below w.heap.size w W2) := by show Below _ _ _; rw [hW2]; exact HB1.out.alloc HB1.out.size _
          have HTen : Hid (Ten W2 E (fun m => if m = 0 then -1 else if m = 1 then 0 else if m = 2 then 1 else if m = 3 then 7 else if m = 4 then 8 else if m = 5 then 1099511627776 else if m = 6 then 1099511627777 else if m = 7 then 1073741824 else if m = 8 then 1073741825 else (q.s.size : Int))) := by
            have hb : Bk W2 E #[.int .i64 (-1), .int .i64 0, .int .i64 1, .int .i64 7, .int .i64 8, .int .i64 1099511627776, .int .i64 1099511627777, .int .i64 1073741824, .int .i64 1073741825, .int .i64 (q.s.size : Int)] 3 := by rw [hW2, hE]; exact Bk.new _ _ _
            refine ⟨fun m hm => ?_, fun m hm => ?_⟩
            · rw [hb.cell m]
              have : m = 0 ∨ m = 1 ∨ m = 2 ∨ m = 3 ∨ m = 4 ∨ m = 5 ∨ m = 6 ∨ m = 7 ∨ m = 8 ∨ m = 9 := by omega
              rcases this with rfl | rfl | rfl | rfl | rfl | rfl | rfl | rfl | rfl | rfl <;> rfl
            · have : m = 0 ∨ m = 1 ∨ m = 2 ∨ m = 3 ∨ m = 4 ∨ m = 5 ∨ m = 6 ∨ m = 7 ∨ m = 8 ∨ m = 9 := by omega
              rcases this with rfl | rfl | rfl | rfl | rfl | rfl | rfl | rfl | rfl | rfl <;> simp <;> omega
          generalize (fun m => if m = 0 then -1 else if m = 1 then 0 else if m = 2 then 1 else if m = 3 then 7 else if m = 4 then 8 else if m = 5 then 1099511627776 else if m = 6 then 1099511627777 else if m = 7 then 1073741824 else if m = 8 then 1073741825 else (q.s.size : Int)) = f at HTen
          clear hW2 hE HB1 hst
          go_wp2_with fail
          go_loopw [5] (fun k wq => ∃ m : Nat, m ≤ 10 ∧ k = .int .i64 m ∧ Ten wq E f ∧ Below w.heap.size w wq) (fun k _ => 10 - (intOf k).toNat)
          case atStart => exact ⟨0, by omega, rfl, HTen.out, HB2.out⟩
          case round =>
            clear HTen HB2
            obtain ⟨m, hm, rfl, hTen, hBq⟩ := hrel
            have HTen : Hid (Ten wr E f) := hTen
            have HBq : Hid (Below w.heap.size w wr) := hBq
            clear hTen hBq
            by_cases hlm : m < 10
            · have hlm' : (m : Int) < 10 := by omega
              have hc := HTen.out.at_ m hlm
              have hbd := HTen.out.bd m hlm
              generalize hfm : f m = n at *
              clear hfm
              go_wp2_with (refine wpList_load_txAt rfl _ rfl rfl (ask_tx (range_below HR0.out HBq.out)) ?_)
              refine (HCp.out _ HBq.out).mono ?_
              rintro e wB ⟨⟨a3, b3, c3, d3, rfl, hO3⟩, hbB⟩
              have HN3 : Hid (Bk (wB.alloc (.cells z21 30)) wB.heap.size z21 30) := Bk.new _ _ _
              have hB3 := HBq.out.trans (hbB.mono HBq.out.size)
              have HB3 : Hid (Below w.heap.size w (wB.alloc (.cells z21 30))) := hB3.alloc hB3.size _
              have hbk : Below wr.heap.size wr (wB.alloc (.cells z21 30)) := hbB.alloc hbB.size _
              have hz3 := hB3.size
              have hzq := hbB.size
              have HO3 : Hid (OT wB wr.heap.size q.t (.slice a3 q.t.hs.length c3) (.slice b3 q.t.bs.length d3)) := hO3
              have HBk : Hid (Below wr.heap.size wr (wB.alloc (.cells z21 30))) := hbk
              clear hO3 hbB hB3 hbk
              go_upto_region 12 with (refine wpList_store_tx rfl _ _ rfl rfl rfl HN3.out rfl ?_; intro W4 hS4)
              obtain ⟨N, hN⟩ : ∃ N, N = wB.heap.size := ⟨_, rfl⟩
              rw [← hN] at hS4 ⊢
              have hNw : w.heap.size ≤ N := by omega
              have hNk : wr.heap.size ≤ N := by omega
              have HN : Hid (Bk W4 N (txc q.t (.slice a3 q.t.hs.length c3) (.slice b3 q.t.bs.length d3)) 30) := hS4.bR
              have HB4 : Hid (Below w.heap.size w W4) := hS4.below _ _ hNw HB3.out
              have HK4 : Hid (Below wr.heap.size wr W4) := hS4.below _ _ (by omega) HBk.out
              have HO4 : Hid (OT W4 wr.heap.size q.t (.slice a3 q.t.hs.length c3) (.slice b3 q.t.bs.length d3)) := ⟨hS4.or (HO3.out.h.alloc _) (fun e => by have := (HO3.out.h.ge e).2; omega), hS4.or (HO3.out.b.alloc _) (fun e => by have := (HO3.out.b.ge e).2; omega)⟩
              have HON : Hid ((Value.slice a3 q.t.hs.length c3).ownBlock ≠ some N ∧ (Value.slice b3 q.t.bs.length d3).ownBlock ≠ some N) := ⟨fun e => by have := (HO3.out.h.ge e).2; omega, fun e => by have := (HO3.out.b.ge e).2; omega⟩
              clear hS4 HB3 HN3 HO3 HBk hN
              have n0 := HN.out.cell 1
              have nf0 := HN.out.frozen 1
              simp only [List.getElem?_toArray, List.getElem?_cons_zero, List.getElem?_cons_succ] at n0
              go_upto_region 13 with fail
              have HN5 : Hid (Bk (W4.setCell ⟨N, 1, none⟩ (.int .i64 n)) N (txc { q.t with no := n } (.slice a3 q.t.hs.length c3) (.slice b3 q.t.bs.length d3)) 30) := HN.out.set 1 _ rfl
              have HB5 : Hid (Below w.heap.size w (W4.setCell ⟨N, 1, none⟩ (.int .i64 n))) := HB4.out.setCell (p := ⟨N, 1, none⟩) hNw _
              have HK5 : Hid (Below wr.heap.size wr (W4.setCell ⟨N, 1, none⟩ (.int .i64 n))) := HK4.out.setCell (p := ⟨N, 1, none⟩) hNk _
              have HOne : Hid (Calls Tryz.prog 24 #[.agg (txc { q.t with no := n } (.slice a3 q.t.hs.length c3) (.slice b3 q.t.bs.length d3))] (W4.setCell ⟨N, 1, none⟩ (.int .i64 n)) fun e w' => e = .returned (.bool true) ∧ Below (W4.setCell ⟨N, 1, none⟩ (.int .i64 n)).heap.size (W4.setCell ⟨N, 1, none⟩ (.int .i64 n)) w') :=
                one7 { q.t with no := n } a3 b3 c3 d3 _ ⟨hwT.ti, hwT.ca, hwT.bc, hwT.va, hwT.fr, hbd, hwT.ga, hwT.hs, hwT.bs⟩ ⟨(HO4.out.h.other ⟨N, 1, none⟩ _ (.inr HON.out.1)).su hwT.hs, (HO4.out.b.other ⟨N, 1, none⟩ _ (.inr HON.out.2)).ss hwT.bs⟩
              clear HN HB4 HK4 HO4 HON n0 nf0 hc
              go_wp2_with (refine wpList_load_tx rfl _ rfl rfl HN5.out ?_)
              refine HOne.out.mono ?_
              rintro e w6 ⟨rfl, hb6⟩
              go_wp2_with fail
              go_roundw
              case rel => exact ⟨m + 1, by omega, by go_num, HTen.out.below (HK5.out.trans (hb6.mono HK5.out.size)), HB5.out.trans (hb6.mono HB5.out.size)⟩
              case measure => simp [intOf]; omega
            · obtain rfl : m = 10 := by omega
              go_wp2_with fail
              go_roundw
              case rel => exact ⟨i + 1, by omega, by omega, by go_num, HBq.out⟩
              case measure => simp [intOf]; omega
      · have hlt2' : ¬ (i : Int) < 8 := by omega
        go_wp2_with (go_at_call 23; refine (wakes7 _).mono ?_; rintro e w1 ⟨rfl, hb1⟩)
        go_ret
        exact ⟨rfl, hbo.trans (hb1.mono hszr)⟩
    · have hlt' : ¬ (i : Int) < (qs.length : Int) := by omega
      go_wp2_with (go_at_call 23; refine (wakes7 _).mono ?_; rintro e w1 ⟨rfl, hb1⟩)
      go_ret
      exact ⟨rfl, hbo.trans (hb1.mono hszr)⟩
end Go.Proofs.YtapjonmgjccpbaaGreat

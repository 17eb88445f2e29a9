import Derived.Test.YtapjonmgjccpbaaGreatFld
set_option linter.unusedSimpArgs false
set_option linter.unusedVariables false
namespace Go.Proofs.YtapjonmgjccpbaaGreat
open Go.RowKit

/-! tarnlaw7.TxValues, walked. -/
set_option maxRecDepth 100000 in
set_option maxHeartbeats 8000000 in
theorem txValues_walk (v : Value) (qs : List Q7) (w : World) (hs : Sq7 w v qs) (hsm : Small7 qs) :
    Calls Tryz.prog 10 #[v] w fun e w' => e = .returned (.bool true) ∧ Below w.heap.size w w' := by
  obtain ⟨hlen, ad, cap, rfl, hat⟩ := hs
  have HA : Hid _ := hat
  have HM : Hid (Small7 qs) := hsm
  clear hat hsm
  go_enter Tryz.func10, Tryz.ntmps10
  go_wp2_with fail
  go_loopw [3] (fun i wr => ∃ k : Nat, k ≤ qs.length ∧ k ≤ 8 ∧ i = .int .i64 k ∧ Below w.heap.size w wr) (fun i _ => qs.length - (intOf i).toNat)
  case atStart => exact ⟨0, by omega, by omega, rfl, Below.refl _ _⟩
  case round =>
    obtain ⟨i, hi, hi20, rfl, hbo⟩ := hrel
    have hszr := hbo.size
    by_cases hlt : i < qs.length
    · have hlt' : (i : Int) < (qs.length : Int) := by omega
      by_cases hlt2 : i < 8
      · have hlt2' : (i : Int) < 8 := by omega
        obtain ⟨b, off, rfl, aH, cH, aB, cB, hR0, hT0, hq⟩ := HA.out i hlt
        obtain ⟨hfin, hsz⟩ := HM.out _ (List.getElem_mem hlt)
        generalize qs[i] = q at *
        have HR0 : Hid (w.rangeAt b (off + i * 26) (askc q.t (.slice aH q.t.hs.length cH) (.slice aB q.t.bs.length cB) q.s q.b).toList) := hR0
        have HT0 : Hid (RT w q.t (.slice aH q.t.hs.length cH) (.slice aB q.t.bs.length cB)) := hT0
        have HQ : Hid (Q7w q) := hq
        have HF : Hid (Fine q.t) := hfin
        have HB : Hid (Below w.heap.size w wr) := hbo
        have hwT := hq.t
        have HCp : Hid (∀ W, Below w.heap.size w W → Calls Tryz.prog 12 #[.agg (txc q.t (.slice aH q.t.hs.length cH) (.slice aB q.t.bs.length cB))] W fun e w' => (∃ a' b' c' d', e = .returned (.agg (txc q.t (.slice a' q.t.hs.length c') (.slice b' q.t.bs.length d'))) ∧ OT w' W.heap.size q.t (.slice a' q.t.hs.length c') (.slice b' q.t.bs.length d')) ∧ Below W.heap.size W w') := fun W h => copyTx q.t aH aB cH cB W (hT0.below h) (by have := hfin.hs; omega) (by have := hfin.bs; omega)
        clear hR0 hT0 hq hfin hbo
        go_wp2_with (refine wpList_load_ask rfl _ rfl rfl (range_below HR0.out HB.out) ?_)
        refine (heavy7 q.t aH aB cH cB q.s q.b wr HF.out (HT0.out.below HB.out)).mono ?_
        rintro e w1 ⟨⟨c, rfl, hc⟩, hb1⟩
        have HB1 : Hid (Below w.heap.size w w1) := HB.out.trans (hb1.mono hszr)
        have hszb := HB1.out.size
        clear hb1 HB
        cases c with
        | true =>
          go_wp2_with fail
          go_ret
          exact ⟨rfl, HB1.out⟩
        | false =>
          clear hc
          go_wp2_with fail
          go_loopw [4] (fun k wq => ∃ m : Nat, m ≤ 3 ∧ k = .int .i64 m ∧ Below w.heap.size w wq) (fun k _ => 3 - (intOf k).toNat)
          case atStart => exact ⟨0, by omega, rfl, HB1.out⟩
          case round =>
            clear HB1
            obtain ⟨m, hm, rfl, hBq⟩ := hrel
            have HBq : Hid (Below w.heap.size w wr) := hBq
            clear hBq
            have hcase : m = 0 ∨ m = 1 ∨ m = 2 ∨ m = 3 := by omega
            rcases hcase with h | h | h | h
            · obtain rfl : m = 0 := by omega
              have hm3 : ((0 : Nat) : Int) < 3 := by omega
              go_wp2_with (refine wpList_load_txAt rfl _ rfl rfl (ask_tx (range_below HR0.out HBq.out)) ?_)
              refine (HCp.out _ HBq.out).mono ?_
              rintro e wB ⟨⟨a3, b3, c3, d3, rfl, hO3⟩, hbB⟩
              have HN3 : Hid (Bk (wB.alloc (.cells z21 30)) wB.heap.size z21 30) := Bk.new _ _ _
              have hB3 := HBq.out.trans (hbB.mono HBq.out.size)
              have HB3 : Hid (Below w.heap.size w (wB.alloc (.cells z21 30))) := hB3.alloc hB3.size _
              have hbk : Below wr.heap.size wr (wB.alloc (.cells z21 30)) := hbB.alloc hbB.size _
              have hz3 := hB3.size
              have hzq := hbB.size
              have HO3 : Hid (OT wB wr.heap.size q.t (.slice a3 q.t.hs.length c3) (.slice b3 q.t.bs.length d3)) := hO3
              have HBk : Hid (Below wr.heap.size wr (wB.alloc (.cells z21 30))) := hbk
              clear hO3 hbB hB3 hbk
              go_upto_region 10 with (refine wpList_store_tx rfl _ _ rfl rfl rfl HN3.out rfl ?_; intro W4 hS4)
              obtain ⟨N, hN⟩ : ∃ N, N = wB.heap.size := ⟨_, rfl⟩
              rw [← hN] at hS4 ⊢
              have hNw : w.heap.size ≤ N := by omega
              have hNk : wr.heap.size ≤ N := by omega
              have HN : Hid (Bk W4 N (txc q.t (.slice a3 q.t.hs.length c3) (.slice b3 q.t.bs.length d3)) 30) := hS4.bR
              have HB4 : Hid (Below w.heap.size w W4) := hS4.below _ _ hNw HB3.out
              have HK4 : Hid (Below wr.heap.size wr W4) := hS4.below _ _ (by omega) HBk.out
              have HO4 : Hid (OT W4 wr.heap.size q.t (.slice a3 q.t.hs.length c3) (.slice b3 q.t.bs.length d3)) := ⟨hS4.or (HO3.out.h.alloc _) (fun e => by have := (HO3.out.h.ge e).2; omega), hS4.or (HO3.out.b.alloc _) (fun e => by have := (HO3.out.b.ge e).2; omega)⟩
              have HON : Hid ((Value.slice a3 q.t.hs.length c3).ownBlock ≠ some N ∧ (Value.slice b3 q.t.bs.length d3).ownBlock ≠ some N) := ⟨fun e => by have := (HO3.out.h.ge e).2; omega, fun e => by have := (HO3.out.b.ge e).2; omega⟩
              clear hS4 HB3 HN3 HO3 HBk hN
              have hnewB : (((((txc q.t (.slice a3 q.t.hs.length c3) (.slice b3 q.t.bs.length d3)).setIfInBounds 14 (.int .u64 (lb q.b 0))).setIfInBounds (14 + 1) (.int .u64 (lb q.b 1))).setIfInBounds (14 + 1 + 1) (.int .u64 (lb q.b 2))).setIfInBounds (14 + 1 + 1 + 1) (.int .u64 (lb q.b 3))) = txc { q.t with va := q.b } (.slice a3 q.t.hs.length c3) (.slice b3 q.t.bs.length d3) := rfl
              go_upto_region 11 with (first | (refine wpList_load_u rfl _ rfl rfl (ask_base (range_below HR0.out HB4.out)) ?_) | (refine wpList_store_fld (o := 14) rfl _ _ rfl rfl rfl HN.out (by show _ ≤ 21; omega) (new := txc { q.t with va := q.b } (.slice a3 q.t.hs.length c3) (.slice b3 q.t.bs.length d3)) hnewB ?_; intro W5 hS5))
              replace HN : Hid (Bk W5 N (txc { q.t with va := q.b } (.slice a3 q.t.hs.length c3) (.slice b3 q.t.bs.length d3)) 30) := hS5.bR
              replace HB4 : Hid (Below w.heap.size w W5) := hS5.below _ _ hNw HB4.out
              replace HK4 : Hid (Below wr.heap.size wr W5) := hS5.below _ _ hNk HK4.out
              replace HO4 : Hid (OT W5 wr.heap.size q.t (.slice a3 q.t.hs.length c3) (.slice b3 q.t.bs.length d3)) := ⟨hS5.or HO4.out.h HON.out.1, hS5.or HO4.out.b HON.out.2⟩
              clear hS5
              have HOne : Hid (Calls Tryz.prog 24 #[.agg (txc { q.t with va := q.b } (.slice a3 q.t.hs.length c3) (.slice b3 q.t.bs.length d3))] W5 fun e w' => e = .returned (.bool true) ∧ Below W5.heap.size W5 w') :=
                one7 { q.t with va := q.b } a3 b3 c3 d3 _ ⟨hwT.ti, hwT.ca, hwT.bc, HQ.out.b, hwT.fr, hwT.no, hwT.ga, hwT.hs, hwT.bs⟩ ⟨HO4.out.h.su hwT.hs, HO4.out.b.ss hwT.bs⟩
              go_wp2_with (refine wpList_load_tx rfl _ rfl rfl HN.out ?_)
              refine HOne.out.mono ?_
              rintro e w6 ⟨rfl, hb6⟩
              go_wp2_with fail
              go_roundw
              case rel => exact ⟨1, by omega, by first | rfl | go_num, HB4.out.trans (hb6.mono HB4.out.size)⟩
              case measure => simp [intOf]
            · obtain rfl : m = 1 := by omega
              have hm3 : ((1 : Nat) : Int) < 3 := by omega
              go_wp2_with (refine wpList_load_txAt rfl _ rfl rfl (ask_tx (range_below HR0.out HBq.out)) ?_)
              refine (HCp.out _ HBq.out).mono ?_
              rintro e wB ⟨⟨a3, b3, c3, d3, rfl, hO3⟩, hbB⟩
              have HN3 : Hid (Bk (wB.alloc (.cells z21 30)) wB.heap.size z21 30) := Bk.new _ _ _
              have hB3 := HBq.out.trans (hbB.mono HBq.out.size)
              have HB3 : Hid (Below w.heap.size w (wB.alloc (.cells z21 30))) := hB3.alloc hB3.size _
              have hbk : Below wr.heap.size wr (wB.alloc (.cells z21 30)) := hbB.alloc hbB.size _
              have hz3 := hB3.size
              have hzq := hbB.size
              have HO3 : Hid (OT wB wr.heap.size q.t (.slice a3 q.t.hs.length c3) (.slice b3 q.t.bs.length d3)) := hO3
              have HBk : Hid (Below wr.heap.size wr (wB.alloc (.cells z21 30))) := hbk
              clear hO3 hbB hB3 hbk
              go_upto_region 10 with (refine wpList_store_tx rfl _ _ rfl rfl rfl HN3.out rfl ?_; intro W4 hS4)
              obtain ⟨N, hN⟩ : ∃ N, N = wB.heap.size := ⟨_, rfl⟩
              rw [← hN] at hS4 ⊢
              have hNw : w.heap.size ≤ N := by omega
              have hNk : wr.heap.size ≤ N := by omega
              have HN : Hid (Bk W4 N (txc q.t (.slice a3 q.t.hs.length c3) (.slice b3 q.t.bs.length d3)) 30) := hS4.bR
              have HB4 : Hid (Below w.heap.size w W4) := hS4.below _ _ hNw HB3.out
              have HK4 : Hid (Below wr.heap.size wr W4) := hS4.below _ _ (by omega) HBk.out
              have HO4 : Hid (OT W4 wr.heap.size q.t (.slice a3 q.t.hs.length c3) (.slice b3 q.t.bs.length d3)) := ⟨hS4.or (HO3.out.h.alloc _) (fun e => by have := (HO3.out.h.ge e).2; omega), hS4.or (HO3.out.b.alloc _) (fun e => by have := (HO3.out.b.ge e).2; omega)⟩
              have HON : Hid ((Value.slice a3 q.t.hs.length c3).ownBlock ≠ some N ∧ (Value.slice b3 q.t.bs.length d3).ownBlock ≠ some N) := ⟨fun e => by have := (HO3.out.h.ge e).2; omega, fun e => by have := (HO3.out.b.ge e).2; omega⟩
              clear hS4 HB3 HN3 HO3 HBk hN
              have hnewB : (((((txc q.t (.slice a3 q.t.hs.length c3) (.slice b3 q.t.bs.length d3)).setIfInBounds 14 (.int .u64 (lb q.b 0))).setIfInBounds (14 + 1) (.int .u64 (lb q.b 1))).setIfInBounds (14 + 1 + 1) (.int .u64 (lb q.b 2))).setIfInBounds (14 + 1 + 1 + 1) (.int .u64 (lb q.b 3))) = txc { q.t with va := q.b } (.slice a3 q.t.hs.length c3) (.slice b3 q.t.bs.length d3) := rfl
              go_upto_region 11 with (first | (refine wpList_load_u rfl _ rfl rfl (ask_base (range_below HR0.out HB4.out)) ?_) | (refine wpList_store_fld (o := 14) rfl _ _ rfl rfl rfl HN.out (by show _ ≤ 21; omega) (new := txc { q.t with va := q.b } (.slice a3 q.t.hs.length c3) (.slice b3 q.t.bs.length d3)) hnewB ?_; intro W5 hS5))
              replace HN : Hid (Bk W5 N (txc { q.t with va := q.b } (.slice a3 q.t.hs.length c3) (.slice b3 q.t.bs.length d3)) 30) := hS5.bR
              replace HB4 : Hid (Below w.heap.size w W5) := hS5.below _ _ hNw HB4.out
              replace HK4 : Hid (Below wr.heap.size wr W5) := hS5.below _ _ hNk HK4.out
              replace HO4 : Hid (OT W5 wr.heap.size q.t (.slice a3 q.t.hs.length c3) (.slice b3 q.t.bs.length d3)) := ⟨hS5.or HO4.out.h HON.out.1, hS5.or HO4.out.b HON.out.2⟩
              clear hS5
              have hnew : (((((txc { q.t with va := q.b } (.slice a3 q.t.hs.length c3) (.slice b3 q.t.bs.length d3)).setIfInBounds 14 (.int .u64 0)).setIfInBounds (14 + 1) (.int .u64 0)).setIfInBounds (14 + 1 + 1) (.int .u64 0)).setIfInBounds (14 + 1 + 1 + 1) (.int .u64 0)) = txc { q.t with va := 0 } (.slice a3 q.t.hs.length c3) (.slice b3 q.t.bs.length d3) := by
                have e0 : lb 0 0 = 0 := by decide +kernel
                have e1 : lb 0 1 = 0 := by decide +kernel
                have e2 : lb 0 2 = 0 := by decide +kernel
                have e3 : lb 0 3 = 0 := by decide +kernel
                unfold txc
                rw [e0, e1, e2, e3]
                rfl
              go_upto_region 13 with (first | (refine wpList_store_fld (o := 14) rfl _ _ rfl rfl rfl HN.out (by show _ ≤ 21; omega) (new := txc { q.t with va := 0 } (.slice a3 q.t.hs.length c3) (.slice b3 q.t.bs.length d3)) hnew ?_; intro W7 hS5))
              replace HN : Hid (Bk W7 N (txc { q.t with va := 0 } (.slice a3 q.t.hs.length c3) (.slice b3 q.t.bs.length d3)) 30) := hS5.bR
              replace HB4 : Hid (Below w.heap.size w W7) := hS5.below _ _ hNw HB4.out
              replace HK4 : Hid (Below wr.heap.size wr W7) := hS5.below _ _ hNk HK4.out
              replace HO4 : Hid (OT W7 wr.heap.size q.t (.slice a3 q.t.hs.length c3) (.slice b3 q.t.bs.length d3)) := ⟨hS5.or HO4.out.h HON.out.1, hS5.or HO4.out.b HON.out.2⟩
              clear hS5
              have HOne : Hid (Calls Tryz.prog 24 #[.agg (txc { q.t with va := 0 } (.slice a3 q.t.hs.length c3) (.slice b3 q.t.bs.length d3))] W7 fun e w' => e = .returned (.bool true) ∧ Below W7.heap.size W7 w') :=
                one7 { q.t with va := 0 } a3 b3 c3 d3 _ ⟨hwT.ti, hwT.ca, hwT.bc, (by show 0 < M256; decide +kernel), hwT.fr, hwT.no, hwT.ga, hwT.hs, hwT.bs⟩ ⟨HO4.out.h.su hwT.hs, HO4.out.b.ss hwT.bs⟩
              go_wp2_with (refine wpList_load_tx rfl _ rfl rfl HN.out ?_)
              refine HOne.out.mono ?_
              rintro e w6 ⟨rfl, hb6⟩
              go_wp2_with fail
              go_roundw
              case rel => exact ⟨2, by omega, by first | rfl | go_num, HB4.out.trans (hb6.mono HB4.out.size)⟩
              case measure => simp [intOf]
            · obtain rfl : m = 2 := by omega
              have hm3 : ((2 : Nat) : Int) < 3 := by omega
              go_wp2_with (refine wpList_load_txAt rfl _ rfl rfl (ask_tx (range_below HR0.out HBq.out)) ?_)
              refine (HCp.out _ HBq.out).mono ?_
              rintro e wB ⟨⟨a3, b3, c3, d3, rfl, hO3⟩, hbB⟩
              have HN3 : Hid (Bk (wB.alloc (.cells z21 30)) wB.heap.size z21 30) := Bk.new _ _ _
              have hB3 := HBq.out.trans (hbB.mono HBq.out.size)
              have HB3 : Hid (Below w.heap.size w (wB.alloc (.cells z21 30))) := hB3.alloc hB3.size _
              have hbk : Below wr.heap.size wr (wB.alloc (.cells z21 30)) := hbB.alloc hbB.size _
              have hz3 := hB3.size
              have hzq := hbB.size
              have HO3 : Hid (OT wB wr.heap.size q.t (.slice a3 q.t.hs.length c3) (.slice b3 q.t.bs.length d3)) := hO3
              have HBk : Hid (Below wr.heap.size wr (wB.alloc (.cells z21 30))) := hbk
              clear hO3 hbB hB3 hbk
              go_upto_region 10 with (refine wpList_store_tx rfl _ _ rfl rfl rfl HN3.out rfl ?_; intro W4 hS4)
              obtain ⟨N, hN⟩ : ∃ N, N = wB.heap.size := ⟨_, rfl⟩
              rw [← hN] at hS4 ⊢
              have hNw : w.heap.size ≤ N := by omega
              have hNk : wr.heap.size ≤ N := by omega
              have HN : Hid (Bk W4 N (txc q.t (.slice a3 q.t.hs.length c3) (.slice b3 q.t.bs.length d3)) 30) := hS4.bR
              have HB4 : Hid (Below w.heap.size w W4) := hS4.below _ _ hNw HB3.out
              have HK4 : Hid (Below wr.heap.size wr W4) := hS4.below _ _ (by omega) HBk.out
              have HO4 : Hid (OT W4 wr.heap.size q.t (.slice a3 q.t.hs.length c3) (.slice b3 q.t.bs.length d3)) := ⟨hS4.or (HO3.out.h.alloc _) (fun e => by have := (HO3.out.h.ge e).2; omega), hS4.or (HO3.out.b.alloc _) (fun e => by have := (HO3.out.b.ge e).2; omega)⟩
              have HON : Hid ((Value.slice a3 q.t.hs.length c3).ownBlock ≠ some N ∧ (Value.slice b3 q.t.bs.length d3).ownBlock ≠ some N) := ⟨fun e => by have := (HO3.out.h.ge e).2; omega, fun e => by have := (HO3.out.b.ge e).2; omega⟩
              clear hS4 HB3 HN3 HO3 HBk hN
              have hnewB : (((((txc q.t (.slice a3 q.t.hs.length c3) (.slice b3 q.t.bs.length d3)).setIfInBounds 14 (.int .u64 (lb q.b 0))).setIfInBounds (14 + 1) (.int .u64 (lb q.b 1))).setIfInBounds (14 + 1 + 1) (.int .u64 (lb q.b 2))).setIfInBounds (14 + 1 + 1 + 1) (.int .u64 (lb q.b 3))) = txc { q.t with va := q.b } (.slice a3 q.t.hs.length c3) (.slice b3 q.t.bs.length d3) := rfl
              go_upto_region 11 with (first | (refine wpList_load_u rfl _ rfl rfl (ask_base (range_below HR0.out HB4.out)) ?_) | (refine wpList_store_fld (o := 14) rfl _ _ rfl rfl rfl HN.out (by show _ ≤ 21; omega) (new := txc { q.t with va := q.b } (.slice a3 q.t.hs.length c3) (.slice b3 q.t.bs.length d3)) hnewB ?_; intro W5 hS5))
              replace HN : Hid (Bk W5 N (txc { q.t with va := q.b } (.slice a3 q.t.hs.length c3) (.slice b3 q.t.bs.length d3)) 30) := hS5.bR
              replace HB4 : Hid (Below w.heap.size w W5) := hS5.below _ _ hNw HB4.out
              replace HK4 : Hid (Below wr.heap.size wr W5) := hS5.below _ _ hNk HK4.out
              replace HO4 : Hid (OT W5 wr.heap.size q.t (.slice a3 q.t.hs.length c3) (.slice b3 q.t.bs.length d3)) := ⟨hS5.or HO4.out.h HON.out.1, hS5.or HO4.out.b HON.out.2⟩
              clear hS5
              have hnew : (((((txc { q.t with va := q.b } (.slice a3 q.t.hs.length c3) (.slice b3 q.t.bs.length d3)).setIfInBounds 14 (.int .u64 1)).setIfInBounds (14 + 1) (.int .u64 0)).setIfInBounds (14 + 1 + 1) (.int .u64 0)).setIfInBounds (14 + 1 + 1 + 1) (.int .u64 0)) = txc { q.t with va := 1 } (.slice a3 q.t.hs.length c3) (.slice b3 q.t.bs.length d3) := by
                have e0 : lb 1 0 = 1 := by decide +kernel
                have e1 : lb 1 1 = 0 := by decide +kernel
                have e2 : lb 1 2 = 0 := by decide +kernel
                have e3 : lb 1 3 = 0 := by decide +kernel
                unfold txc
                rw [e0, e1, e2, e3]
                rfl
              go_upto_region 13 with (first | (refine wpList_store_fld (o := 14) rfl _ _ rfl rfl rfl HN.out (by show _ ≤ 21; omega) (new := txc { q.t with va := 1 } (.slice a3 q.t.hs.length c3) (.slice b3 q.t.bs.length d3)) hnew ?_; intro W7 hS5))
              replace HN : Hid (Bk W7 N (txc { q.t with va := 1 } (.slice a3 q.t.hs.length c3) (.slice b3 q.t.bs.length d3)) 30) := hS5.bR
              replace HB4 : Hid (Below w.heap.size w W7) := hS5.below _ _ hNw HB4.out
              replace HK4 : Hid (Below wr.heap.size wr W7) := hS5.below _ _ hNk HK4.out
              replace HO4 : Hid (OT W7 wr.heap.size q.t (.slice a3 q.t.hs.length c3) (.slice b3 q.t.bs.length d3)) := ⟨hS5.or HO4.out.h HON.out.1, hS5.or HO4.out.b HON.out.2⟩
              clear hS5
              have HOne : Hid (Calls Tryz.prog 24 #[.agg (txc { q.t with va := 1 } (.slice a3 q.t.hs.length c3) (.slice b3 q.t.bs.length d3))] W7 fun e w' => e = .returned (.bool true) ∧ Below W7.heap.size W7 w') :=
                one7 { q.t with va := 1 } a3 b3 c3 d3 _ ⟨hwT.ti, hwT.ca, hwT.bc, (by show 1 < M256; decide +kernel), hwT.fr, hwT.no, hwT.ga, hwT.hs, hwT.bs⟩ ⟨HO4.out.h.su hwT.hs, HO4.out.b.ss hwT.bs⟩
              go_wp2_with (refine wpList_load_tx rfl _ rfl rfl HN.out ?_)
              refine HOne.out.mono ?_
              rintro e w6 ⟨rfl, hb6⟩
              go_wp2_with fail
              go_roundw
              case rel => exact ⟨3, by omega, by first | rfl | go_num, HB4.out.trans (hb6.mono HB4.out.size)⟩
              case measure => simp [intOf]
            · obtain rfl : m = 3 := by omega
              go_wp2_with fail
              go_roundw
              case rel => exact ⟨i + 1, by omega, by omega, by go_num, HBq.out⟩
              case measure => simp [intOf]; omega
      · have hlt2' : ¬ (i : Int) < 8 := by omega
        go_wp2_with (go_at_call 23; refine (wakes7 _).mono ?_; rintro e w1 ⟨rfl, hb1⟩)
        go_ret
        exact ⟨rfl, hbo.trans (hb1.mono hszr)⟩
    · have hlt' : ¬ (i : Int) < (qs.length : Int) := by omega
      go_wp2_with (go_at_call 23; refine (wakes7 _).mono ?_; rintro e w1 ⟨rfl, hb1⟩)
      go_ret
      exact ⟨rfl, hbo.trans (hb1.mono hszr)⟩
end Go.Proofs.YtapjonmgjccpbaaGreat

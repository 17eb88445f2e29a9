import Derived.Test.YtapjonmgjccpbaaNWr0
import Derived.Test.YtapjonmgjccpbaaJ21
import Derived.Test.YtapjonmgjccpbaaZb
set_option linter.unusedSimpArgs false
set_option linter.unusedVariables false
set_option maxRecDepth 100000
namespace Go.Proofs.Ytapjonmgjccpbaa
open Go.RowKit

/-! tarnlaw7.TxWrongs, walked. -/
theorem wpList_store_fld {ops : Array Oper} {rest : List Oper} {op : Oper} {a : Act} {w : World} {Q : Exit → Act → World → Prop} (hgd : op.guard = none) (x y : Operand) (ho : op.op = .store 26 x y)
    {R o : Nat} (hx : a.eval x = .pointer (some ⟨R, o, none⟩)) {x0 x1 x2 x3 : Int} (hy : a.eval y = .agg (A4 x0 x1 x2 x3)) {old new : Array Value} (h : Bk w R old 30) (hs : o + 4 ≤ old.size)
    (hn : (((old.setIfInBounds o (.int .u64 x0)).setIfInBounds (o + 1) (.int .u64 x1)).setIfInBounds (o + 1 + 1) (.int .u64 x2)).setIfInBounds (o + 1 + 1 + 1) (.int .u64 x3) = new)
    (hk : ∀ W, Stored w W R new 30 → wpList Try.prog ops Q rest (a.put op.dst undef) W) : wpList Try.prog ops Q (op :: rest) a w := by
  refine wpList_store_mid hgd 26 x y ho R o (A4 x0 x1 x2 x3) hx hy (fun j hj => ?_) infoU7 (by simp [Value.oneCell']) (hk _ ⟨?_, fun c hc => setCells_block hc _ _ _, fun B w0 hB hb => setCells_below hB _ _ _ hb, setCells_size _ _ _⟩)
  · have hj : j < 4 := hj
    have := h.there (o + j) (by omega)
    rwa [Nat.zero_add] at this
  · rw [← hn]
    exact (((h.set o _ rfl).set (o + 1) _ rfl).set (o + 1 + 1) _ rfl).set (o + 1 + 1 + 1) _ rfl

theorem check_bad (t : TX) {lh lb : Nat} (hlh : t.hs.length = lh) (hlb : t.bs.length = lb) (hno : ¬ TxOk t) (hw : TXw t) (aH aB : Option Addr) (cH cB : Nat) (W : World) (hr : RT W t (.slice aH lh cH) (.slice aB lb cB)) :
    Calls Try.prog 23 #[.agg (txc t (.slice aH lh cH) (.slice aB lb cB))] W fun e w' => e = .returned (.int .i64 1) ∧ Below W.heap.size W w' := by
  subst hlh
  subst hlb
  have := check7 t aH aB cH cB W hw hr
  rw [show cosE t = 1 from if_neg hno] at this
  exact this
/-- With one thing that is not its own it may not be. -/
structure AllBad (p : TX) : Prop where
  hl : p.hs.length = 1
  bl : p.bs.length = 1
  w : TXw p
  b0 : ¬ TxOk { p with fr := -1 }
  b1 : ¬ TxOk { p with fr := 8 }
  b2 : ¬ TxOk { p with no := -1 }
  b3 : ¬ TxOk { p with no := 1099511627777 }
  b4 : ¬ TxOk { p with ga := -1 }
  b5 : ¬ TxOk { p with ga := 1073741825 }
  b6 : ¬ TxOk { p with ti := 11 }
  b7 : ¬ TxOk { p with hs := [] }
  b8 : ¬ TxOk { p with bs := [] }
  b9 : ¬ TxOk { p with hs := [5] }
  b10 : ¬ TxOk { p with bs := [zb 65] }
  b11 : ¬ TxOk { p with va := MX }
  b12 : ¬ TxOk { p with ga := 2, ca := MX }
  b13 : ¬ TxOk { p with bc := MX }
theorem fit_len2 {t : TX} (h : fitT t = 0) : t.hs.length = t.bs.length ∧ 1 ≤ t.bs.length ∧ ∀ x ∈ t.bs, x.size ≤ 64 := by
  obtain ⟨h1, h2, h3, h4⟩ := fit_facts t h
  exact ⟨h3, h1, h4⟩
theorem allBad : AllBad (plain 3 4 5) := by
  refine ⟨rfl, rfl, plainW 3 4 5 (by omega) (by omega) (by omega), fun h => ?_, fun h => ?_, fun h => ?_, fun h => ?_, fun h => ?_, fun h => ?_, fun h => ?_, fun h => ?_, fun h => ?_, fun h => ?_, fun h => ?_, fun h => ?_, fun h => ?_, fun h => ?_⟩
  · have := h.1.1; revert this; decide
  · have := h.1.2; revert this; decide
  · have := h.2.1.1; revert this; decide
  · have := h.2.1.2; revert this; decide
  · have := h.2.2.1.1; revert this; decide
  · have := h.2.2.1.2; revert this; decide
  · have := h.2.2.2.1; revert this; decide
  · have := (fit_len2 h.2.2.2.2.1).1; exact absurd (show (0 : Nat) = 1 from this) (by decide)
  · have := (fit_len2 h.2.2.2.2.1).2.1; exact absurd (show (1 : Nat) ≤ 0 from this) (by decide)
  · exact bad9 h.2.2.2.2.1
  · have := (fit_len2 h.2.2.2.2.1).2.2 (zb 65) (List.mem_singleton.2 rfl); rw [zb_size] at this; omega
  · have := h.2.2.2.2.2; revert this; decide +kernel
  · have := h.2.2.2.2.2; revert this; decide +kernel
  · have := h.2.2.2.2.2; revert this; decide +kernel
set_option maxHeartbeats 40000000 in
theorem txWrongs_walk (ad : Option Addr) (len cap : Nat) (w : World) :
    Calls Try.prog 6 #[.slice ad len cap] w fun e w' => e = .returned (.bool true) ∧ Below w.heap.size w w' := by
  have HT0 : Hid (∀ w, Calls Try.prog 24 #[.int .i64 0, .int .i64 0, .int .u64 0] w fun e w' => (∃ a' b' c' d', e = .returned (.agg (txc (plain 0 0 0) (.slice a' 1 c') (.slice b' 1 d'))) ∧ OT w' w.heap.size (plain 0 0 0) (.slice a' 1 c') (.slice b' 1 d')) ∧ Below w.heap.size w w') := fun w => mkT 0 0 0 (by omega) w
  have HT7 : Hid (∀ w, Calls Try.prog 24 #[.int .i64 7, .int .i64 1099511627776, .int .u64 5] w fun e w' => (∃ a' b' c' d', e = .returned (.agg (txc (plain 7 1099511627776 5) (.slice a' 1 c') (.slice b' 1 d'))) ∧ OT w' w.heap.size (plain 7 1099511627776 5) (.slice a' 1 c') (.slice b' 1 d')) ∧ Below w.heap.size w w') := fun w => mkT 7 1099511627776 5 (by omega) w
  have HT3 : Hid (∀ w, Calls Try.prog 24 #[.int .i64 3, .int .i64 4, .int .u64 5] w fun e w' => (∃ a' b' c' d', e = .returned (.agg (txc (plain 3 4 5) (.slice a' 1 c') (.slice b' 1 d'))) ∧ OT w' w.heap.size (plain 3 4 5) (.slice a' 1 c') (.slice b' 1 d')) ∧ Below w.heap.size w w') := fun w => mkT 3 4 5 (by omega) w
  have HK0 : Hid (∀ w a b c d base, OT w base (plain 0 0 0) (.slice a 1 c) (.slice b 1 d) → Calls Try.prog 23 #[.agg (txc (plain 0 0 0) (.slice a 1 c) (.slice b 1 d))] w fun e w' => e = .returned (.int .i64 0) ∧ Below w.heap.size w w') := fun w a b c d base h => by
    have hw := plainW 0 0 0 (by omega) (by omega) (by omega)
    have := check7 (plain 0 0 0) a b c d w hw ⟨h.h.su hw.hs, h.b.ss hw.bs⟩
    rw [plain_cos0] at this
    exact this
  have HK7 : Hid (∀ w a b c d base, OT w base (plain 7 1099511627776 5) (.slice a 1 c) (.slice b 1 d) → Calls Try.prog 23 #[.agg (txc (plain 7 1099511627776 5) (.slice a 1 c) (.slice b 1 d))] w fun e w' => e = .returned (.int .i64 0) ∧ Below w.heap.size w w') := fun w a b c d base h => by
    have hw := plainW 7 1099511627776 5 (by omega) (by omega) (by omega)
    have := check7 (plain 7 1099511627776 5) a b c d w hw ⟨h.h.su hw.hs, h.b.ss hw.bs⟩
    rw [plain_cos7] at this
    exact this
  have HP : Hid (AllBad (plain 3 4 5)) := allBad
  have HMs : Hid (∀ w, Calls Try.prog 25 #[] w fun e w' => e = .returned (.agg (A4 18446744073709551615 18446744073709551615 18446744073709551615 18446744073709551615)) ∧ Below w.heap.size w w') := rmost
  generalize plain 3 4 5 = p at HT3 HP
  generalize plain 0 0 0 = p0 at HT0 HK0
  generalize plain 7 1099511627776 5 = p7 at HT7 HK7
  go_enter Try.func6, Try.ntmps6
  go_wp2_with fail
  refine (HT0.out _).mono ?_
  rintro e w1 ⟨⟨a1, b1, c1, d1, rfl, hO1⟩, hb1⟩
  go_wp2_with fail
  refine (HK0.out _ _ _ _ _ _ hO1).mono ?_
  rintro e w2 ⟨rfl, hb2⟩
  have hbA := hb1.trans (hb2.mono hb1.size)
  clear hO1 hb1 hb2
  go_wp2_with (go_at_call 13; refine (num7 _ _).mono ?_; rintro e w9 ⟨rfl, rfl⟩)
  refine (HT7.out _).mono ?_
  rintro e w1 ⟨⟨a1, b1, c1, d1, rfl, hO1⟩, hb1⟩
  have hbB := hbA.trans (hb1.mono hbA.size)
  go_wp2_with fail
  refine (HK7.out _ _ _ _ _ _ hO1).mono ?_
  rintro e w4 ⟨rfl, hb4⟩
  have hbC := hbB.trans (hb4.mono hbB.size)
  clear hO1 hb1 hb4 hbA hbB HK0 HK7 HT0 HT7
  go_wp2_with (go_at_call 13; refine (num7 _ _).mono ?_; rintro e w9 ⟨rfl, rfl⟩)
  go_loopw [3] (fun i wr => ∃ k : Int, 0 ≤ k ∧ k ≤ 14 ∧ i = .int .i64 k ∧ Below w.heap.size w wr) (fun i _ => (14 - intOf i).toNat)
  case atStart => exact ⟨0, by omega, by omega, rfl, hbC⟩
  case round =>
    clear hbC
    obtain ⟨k, hk0, hk1, rfl, hbo⟩ := hrel
    have HbO : Hid (Below w.heap.size w wr) := hbo
    clear hbo
    by_cases hlt : k < 14
    case neg =>
      obtain rfl : k = 14 := by omega
      go_wp2_with (go_at_call 16; refine (wakes7 _).mono ?_; rintro e w1 ⟨rfl, hb1⟩)
      go_ret
      exact ⟨rfl, HbO.out.trans (hb1.mono HbO.out.size)⟩
    go_wp2_with fail
    refine (HT3.out _).mono ?_
    rintro e w3 ⟨⟨a3, b3, c3, d3, rfl, hO3⟩, hb3⟩
    have HN3 : Hid (Bk (w3.alloc (.cells z21 30)) w3.heap.size z21 30) := Bk.new _ _ _
    have HB3 : Hid (Below w.heap.size w w3) := HbO.out.trans (hb3.mono HbO.out.size)
    have HR3 : Hid (RT w3 p (.slice a3 1 c3) (.slice b3 1 d3)) := ⟨hO3.h.su HP.out.w.hs, hO3.b.ss HP.out.w.bs⟩
    clear hO3 hb3 HbO HT3
    go_upto_region 7 with (refine wpList_store_tx rfl _ _ rfl rfl rfl HN3.out rfl ?_; intro W4 hS4)
    obtain ⟨N, hN⟩ : ∃ N, N = w3.heap.size := ⟨_, rfl⟩
    rw [← hN] at hS4 ⊢
    have hNw : w.heap.size ≤ N := by have := HB3.out.size; omega
    have hNk : w3.heap.size ≤ N := by omega
    have HN : Hid (Bk W4 N (txc p (.slice a3 1 c3) (.slice b3 1 d3)) 30) := hS4.bR
    have HK : Hid (Below w3.heap.size w3 W4) := hS4.below _ _ hNk ((Below.refl _ _).alloc (Nat.le_refl _) _)
    have HB : Hid (Below w.heap.size w W4) := HB3.out.trans (HK.out.mono HB3.out.size)
    clear HN3 hS4 hN HB3
    have hks : k = 0 ∨ k = 1 ∨ k = 2 ∨ k = 3 ∨ k = 4 ∨ k = 5 ∨ k = 6 ∨ k = 7 ∨ k = 8 ∨ k = 9 ∨ k = 10 ∨ k = 11 ∨ k = 12 ∨ k = 13 := by omega
    rcases hks with rfl | rfl | rfl | rfl | rfl | rfl | rfl | rfl | rfl | rfl | rfl | rfl | rfl | rfl
    · have n0 := HN.out.cell 0
      have nf0 := HN.out.frozen 0
      simp only [List.getElem?_toArray, List.getElem?_cons_zero, List.getElem?_cons_succ] at n0
      go_upto_region 36 with fail
      replace HN : Hid (Bk (W4.setCell ⟨N, 0, none⟩ (.int .i64 (-1))) N (txc ({ p with fr := (-1) }) (.slice a3 1 c3) (.slice b3 1 d3)) 30) := HN.out.set 0 _ rfl
      replace HB : Hid (Below w.heap.size w (W4.setCell ⟨N, 0, none⟩ (.int .i64 (-1)))) := HB.out.setCell (p := ⟨N, 0, none⟩) hNw _
      replace HR3 : Hid (RT (W4.setCell ⟨N, 0, none⟩ (.int .i64 (-1))) p (.slice a3 1 c3) (.slice b3 1 d3)) := HR3.out.below (HK.out.setCell (p := ⟨N, 0, none⟩) hNk _)
      clear n0 nf0 HK
      have HCk : Hid (Calls Try.prog 23 #[.agg (txc ({ p with fr := (-1) }) (.slice a3 1 c3) (.slice b3 1 d3))] (W4.setCell ⟨N, 0, none⟩ (.int .i64 (-1))) fun e w' => e = .returned (.int .i64 1) ∧ Below (W4.setCell ⟨N, 0, none⟩ (.int .i64 (-1))).heap.size (W4.setCell ⟨N, 0, none⟩ (.int .i64 (-1))) w') :=
        check_bad ({ p with fr := (-1) }) HP.out.hl HP.out.bl HP.out.b0 ⟨HP.out.w.ti, HP.out.w.ca, HP.out.w.bc, HP.out.w.va, (show (-9223372036854775808 : Int) ≤ (-1) ∧ ((-1) : Int) ≤ 9223372036854775807 by omega), HP.out.w.no, HP.out.w.ga, HP.out.w.hs, HP.out.w.bs⟩ _ _ _ _ _ HR3.out
      clear HR3 HP
      go_wp2_with (first | (refine wpList_load_tx rfl _ rfl rfl HN.out ?_))
      refine HCk.out.mono ?_
      rintro e w6 ⟨rfl, hb6⟩
      have hbE := HB.out.trans (hb6.mono HB.out.size)
      clear hb6 HB HN HCk
      go_wp2_with (go_at_call 13; refine (num7 _ _).mono ?_; rintro e w9 ⟨rfl, rfl⟩)
      go_roundw
      case rel => exact ⟨1, by omega, by omega, by first | rfl | go_num, hbE⟩
      case measure => simp [intOf]
    · have n0 := HN.out.cell 0
      have nf0 := HN.out.frozen 0
      simp only [List.getElem?_toArray, List.getElem?_cons_zero, List.getElem?_cons_succ] at n0
      go_upto_region 36 with fail
      replace HN : Hid (Bk (W4.setCell ⟨N, 0, none⟩ (.int .i64 (8))) N (txc ({ p with fr := (8) }) (.slice a3 1 c3) (.slice b3 1 d3)) 30) := HN.out.set 0 _ rfl
      replace HB : Hid (Below w.heap.size w (W4.setCell ⟨N, 0, none⟩ (.int .i64 (8)))) := HB.out.setCell (p := ⟨N, 0, none⟩) hNw _
      replace HR3 : Hid (RT (W4.setCell ⟨N, 0, none⟩ (.int .i64 (8))) p (.slice a3 1 c3) (.slice b3 1 d3)) := HR3.out.below (HK.out.setCell (p := ⟨N, 0, none⟩) hNk _)
      clear n0 nf0 HK
      have HCk : Hid (Calls Try.prog 23 #[.agg (txc ({ p with fr := (8) }) (.slice a3 1 c3) (.slice b3 1 d3))] (W4.setCell ⟨N, 0, none⟩ (.int .i64 (8))) fun e w' => e = .returned (.int .i64 1) ∧ Below (W4.setCell ⟨N, 0, none⟩ (.int .i64 (8))).heap.size (W4.setCell ⟨N, 0, none⟩ (.int .i64 (8))) w') :=
        check_bad ({ p with fr := (8) }) HP.out.hl HP.out.bl HP.out.b1 ⟨HP.out.w.ti, HP.out.w.ca, HP.out.w.bc, HP.out.w.va, (show (-9223372036854775808 : Int) ≤ (8) ∧ ((8) : Int) ≤ 9223372036854775807 by omega), HP.out.w.no, HP.out.w.ga, HP.out.w.hs, HP.out.w.bs⟩ _ _ _ _ _ HR3.out
      clear HR3 HP
      go_wp2_with (first | (refine wpList_load_tx rfl _ rfl rfl HN.out ?_))
      refine HCk.out.mono ?_
      rintro e w6 ⟨rfl, hb6⟩
      have hbE := HB.out.trans (hb6.mono HB.out.size)
      clear hb6 HB HN HCk
      go_wp2_with (go_at_call 13; refine (num7 _ _).mono ?_; rintro e w9 ⟨rfl, rfl⟩)
      go_roundw
      case rel => exact ⟨2, by omega, by omega, by first | rfl | go_num, hbE⟩
      case measure => simp [intOf]
    · have n0 := HN.out.cell 1
      have nf0 := HN.out.frozen 1
      simp only [List.getElem?_toArray, List.getElem?_cons_zero, List.getElem?_cons_succ] at n0
      go_upto_region 36 with fail
      replace HN : Hid (Bk (W4.setCell ⟨N, 1, none⟩ (.int .i64 (-1))) N (txc ({ p with no := (-1) }) (.slice a3 1 c3) (.slice b3 1 d3)) 30) := HN.out.set 1 _ rfl
      replace HB : Hid (Below w.heap.size w (W4.setCell ⟨N, 1, none⟩ (.int .i64 (-1)))) := HB.out.setCell (p := ⟨N, 1, none⟩) hNw _
      replace HR3 : Hid (RT (W4.setCell ⟨N, 1, none⟩ (.int .i64 (-1))) p (.slice a3 1 c3) (.slice b3 1 d3)) := HR3.out.below (HK.out.setCell (p := ⟨N, 1, none⟩) hNk _)
      clear n0 nf0 HK
      have HCk : Hid (Calls Try.prog 23 #[.agg (txc ({ p with no := (-1) }) (.slice a3 1 c3) (.slice b3 1 d3))] (W4.setCell ⟨N, 1, none⟩ (.int .i64 (-1))) fun e w' => e = .returned (.int .i64 1) ∧ Below (W4.setCell ⟨N, 1, none⟩ (.int .i64 (-1))).heap.size (W4.setCell ⟨N, 1, none⟩ (.int .i64 (-1))) w') :=
        check_bad ({ p with no := (-1) }) HP.out.hl HP.out.bl HP.out.b2 ⟨HP.out.w.ti, HP.out.w.ca, HP.out.w.bc, HP.out.w.va, HP.out.w.fr, (show (-9223372036854775808 : Int) ≤ (-1) ∧ ((-1) : Int) ≤ 9223372036854775807 by omega), HP.out.w.ga, HP.out.w.hs, HP.out.w.bs⟩ _ _ _ _ _ HR3.out
      clear HR3 HP
      go_wp2_with (first | (refine wpList_load_tx rfl _ rfl rfl HN.out ?_))
      refine HCk.out.mono ?_
      rintro e w6 ⟨rfl, hb6⟩
      have hbE := HB.out.trans (hb6.mono HB.out.size)
      clear hb6 HB HN HCk
      go_wp2_with (go_at_call 13; refine (num7 _ _).mono ?_; rintro e w9 ⟨rfl, rfl⟩)
      go_roundw
      case rel => exact ⟨3, by omega, by omega, by first | rfl | go_num, hbE⟩
      case measure => simp [intOf]
    · have n0 := HN.out.cell 1
      have nf0 := HN.out.frozen 1
      simp only [List.getElem?_toArray, List.getElem?_cons_zero, List.getElem?_cons_succ] at n0
      go_upto_region 36 with fail
      replace HN : Hid (Bk (W4.setCell ⟨N, 1, none⟩ (.int .i64 (1099511627777))) N (txc ({ p with no := (1099511627777) }) (.slice a3 1 c3) (.slice b3 1 d3)) 30) := HN.out.set 1 _ rfl
      replace HB : Hid (Below w.heap.size w (W4.setCell ⟨N, 1, none⟩ (.int .i64 (1099511627777)))) := HB.out.setCell (p := ⟨N, 1, none⟩) hNw _
      replace HR3 : Hid (RT (W4.setCell ⟨N, 1, none⟩ (.int .i64 (1099511627777))) p (.slice a3 1 c3) (.slice b3 1 d3)) := HR3.out.below (HK.out.setCell (p := ⟨N, 1, none⟩) hNk _)
      clear n0 nf0 HK
      have HCk : Hid (Calls Try.prog 23 #[.agg (txc ({ p with no := (1099511627777) }) (.slice a3 1 c3) (.slice b3 1 d3))] (W4.setCell ⟨N, 1, none⟩ (.int .i64 (1099511627777))) fun e w' => e = .returned (.int .i64 1) ∧ Below (W4.setCell ⟨N, 1, none⟩ (.int .i64 (1099511627777))).heap.size (W4.setCell ⟨N, 1, none⟩ (.int .i64 (1099511627777))) w') :=
        check_bad ({ p with no := (1099511627777) }) HP.out.hl HP.out.bl HP.out.b3 ⟨HP.out.w.ti, HP.out.w.ca, HP.out.w.bc, HP.out.w.va, HP.out.w.fr, (show (-9223372036854775808 : Int) ≤ (1099511627777) ∧ ((1099511627777) : Int) ≤ 9223372036854775807 by omega), HP.out.w.ga, HP.out.w.hs, HP.out.w.bs⟩ _ _ _ _ _ HR3.out
      clear HR3 HP
      go_wp2_with (first | (refine wpList_load_tx rfl _ rfl rfl HN.out ?_))
      refine HCk.out.mono ?_
      rintro e w6 ⟨rfl, hb6⟩
      have hbE := HB.out.trans (hb6.mono HB.out.size)
      clear hb6 HB HN HCk
      go_wp2_with (go_at_call 13; refine (num7 _ _).mono ?_; rintro e w9 ⟨rfl, rfl⟩)
      go_roundw
      case rel => exact ⟨4, by omega, by omega, by first | rfl | go_num, hbE⟩
      case measure => simp [intOf]
    · have n0 := HN.out.cell 18
      have nf0 := HN.out.frozen 18
      simp only [List.getElem?_toArray, List.getElem?_cons_zero, List.getElem?_cons_succ] at n0
      go_upto_region 36 with fail
      replace HN : Hid (Bk (W4.setCell ⟨N, 18, none⟩ (.int .i64 (-1))) N (txc ({ p with ga := (-1) }) (.slice a3 1 c3) (.slice b3 1 d3)) 30) := HN.out.set 18 _ rfl
      replace HB : Hid (Below w.heap.size w (W4.setCell ⟨N, 18, none⟩ (.int .i64 (-1)))) := HB.out.setCell (p := ⟨N, 18, none⟩) hNw _
      replace HR3 : Hid (RT (W4.setCell ⟨N, 18, none⟩ (.int .i64 (-1))) p (.slice a3 1 c3) (.slice b3 1 d3)) := HR3.out.below (HK.out.setCell (p := ⟨N, 18, none⟩) hNk _)
      clear n0 nf0 HK
      have HCk : Hid (Calls Try.prog 23 #[.agg (txc ({ p with ga := (-1) }) (.slice a3 1 c3) (.slice b3 1 d3))] (W4.setCell ⟨N, 18, none⟩ (.int .i64 (-1))) fun e w' => e = .returned (.int .i64 1) ∧ Below (W4.setCell ⟨N, 18, none⟩ (.int .i64 (-1))).heap.size (W4.setCell ⟨N, 18, none⟩ (.int .i64 (-1))) w') :=
        check_bad ({ p with ga := (-1) }) HP.out.hl HP.out.bl HP.out.b4 ⟨HP.out.w.ti, HP.out.w.ca, HP.out.w.bc, HP.out.w.va, HP.out.w.fr, HP.out.w.no, (show (-9223372036854775808 : Int) ≤ (-1) ∧ ((-1) : Int) ≤ 9223372036854775807 by omega), HP.out.w.hs, HP.out.w.bs⟩ _ _ _ _ _ HR3.out
      clear HR3 HP
      go_wp2_with (first | (refine wpList_load_tx rfl _ rfl rfl HN.out ?_))
      refine HCk.out.mono ?_
      rintro e w6 ⟨rfl, hb6⟩
      have hbE := HB.out.trans (hb6.mono HB.out.size)
      clear hb6 HB HN HCk
      go_wp2_with (go_at_call 13; refine (num7 _ _).mono ?_; rintro e w9 ⟨rfl, rfl⟩)
      go_roundw
      case rel => exact ⟨5, by omega, by omega, by first | rfl | go_num, hbE⟩
      case measure => simp [intOf]
    · have n0 := HN.out.cell 18
      have nf0 := HN.out.frozen 18
      simp only [List.getElem?_toArray, List.getElem?_cons_zero, List.getElem?_cons_succ] at n0
      go_upto_region 36 with fail
      replace HN : Hid (Bk (W4.setCell ⟨N, 18, none⟩ (.int .i64 (1073741825))) N (txc ({ p with ga := (1073741825) }) (.slice a3 1 c3) (.slice b3 1 d3)) 30) := HN.out.set 18 _ rfl
      replace HB : Hid (Below w.heap.size w (W4.setCell ⟨N, 18, none⟩ (.int .i64 (1073741825)))) := HB.out.setCell (p := ⟨N, 18, none⟩) hNw _
      replace HR3 : Hid (RT (W4.setCell ⟨N, 18, none⟩ (.int .i64 (1073741825))) p (.slice a3 1 c3) (.slice b3 1 d3)) := HR3.out.below (HK.out.setCell (p := ⟨N, 18, none⟩) hNk _)
      clear n0 nf0 HK
      have HCk : Hid (Calls Try.prog 23 #[.agg (txc ({ p with ga := (1073741825) }) (.slice a3 1 c3) (.slice b3 1 d3))] (W4.setCell ⟨N, 18, none⟩ (.int .i64 (1073741825))) fun e w' => e = .returned (.int .i64 1) ∧ Below (W4.setCell ⟨N, 18, none⟩ (.int .i64 (1073741825))).heap.size (W4.setCell ⟨N, 18, none⟩ (.int .i64 (1073741825))) w') :=
        check_bad ({ p with ga := (1073741825) }) HP.out.hl HP.out.bl HP.out.b5 ⟨HP.out.w.ti, HP.out.w.ca, HP.out.w.bc, HP.out.w.va, HP.out.w.fr, HP.out.w.no, (show (-9223372036854775808 : Int) ≤ (1073741825) ∧ ((1073741825) : Int) ≤ 9223372036854775807 by omega), HP.out.w.hs, HP.out.w.bs⟩ _ _ _ _ _ HR3.out
      clear HR3 HP
      go_wp2_with (first | (refine wpList_load_tx rfl _ rfl rfl HN.out ?_))
      refine HCk.out.mono ?_
      rintro e w6 ⟨rfl, hb6⟩
      have hbE := HB.out.trans (hb6.mono HB.out.size)
      clear hb6 HB HN HCk
      go_wp2_with (go_at_call 13; refine (num7 _ _).mono ?_; rintro e w9 ⟨rfl, rfl⟩)
      go_roundw
      case rel => exact ⟨6, by omega, by omega, by first | rfl | go_num, hbE⟩
      case measure => simp [intOf]
    · have hnew : ((((txc p (.slice a3 1 c3) (.slice b3 1 d3)).setIfInBounds 2 (.int .u64 11)).setIfInBounds (2 + 1) (.int .u64 0)).setIfInBounds (2 + 1 + 1) (.int .u64 0)).setIfInBounds (2 + 1 + 1 + 1) (.int .u64 0) = txc ({ p with ti := 11 }) (.slice a3 1 c3) (.slice b3 1 d3) := by
        obtain ⟨e0, e1, e2, e3⟩ : lb 11 0 = 11 ∧ lb 11 1 = 0 ∧ lb 11 2 = 0 ∧ lb 11 3 = 0 := ⟨by decide +kernel, by decide +kernel, by decide +kernel, by decide +kernel⟩
        unfold txc
        rw [e0, e1, e2, e3]
        rfl
      go_upto_region 36 with (first | (refine wpList_store_fld (o := 2) rfl _ _ rfl rfl rfl HN.out (by show _ ≤ 21; omega) hnew ?_; intro W7 hS7))
      replace HN : Hid (Bk W7 N (txc ({ p with ti := 11 }) (.slice a3 1 c3) (.slice b3 1 d3)) 30) := hS7.bR
      replace HB : Hid (Below w.heap.size w W7) := hS7.below _ _ hNw HB.out
      replace HR3 : Hid (RT W7 p (.slice a3 1 c3) (.slice b3 1 d3)) := HR3.out.below (hS7.below _ _ hNk HK.out)
      clear hS7 hnew HK
      have HCk : Hid (Calls Try.prog 23 #[.agg (txc ({ p with ti := 11 }) (.slice a3 1 c3) (.slice b3 1 d3))] (W7) fun e w' => e = .returned (.int .i64 1) ∧ Below (W7).heap.size (W7) w') :=
        check_bad ({ p with ti := 11 }) HP.out.hl HP.out.bl HP.out.b6 ⟨(by show 11 < M256; decide +kernel), HP.out.w.ca, HP.out.w.bc, HP.out.w.va, HP.out.w.fr, HP.out.w.no, HP.out.w.ga, HP.out.w.hs, HP.out.w.bs⟩ _ _ _ _ _ HR3.out
      clear HR3 HP
      go_wp2_with (first | (refine wpList_load_tx rfl _ rfl rfl HN.out ?_))
      refine HCk.out.mono ?_
      rintro e w6 ⟨rfl, hb6⟩
      have hbE := HB.out.trans (hb6.mono HB.out.size)
      clear hb6 HB HN HCk
      go_wp2_with (go_at_call 13; refine (num7 _ _).mono ?_; rintro e w9 ⟨rfl, rfl⟩)
      go_roundw
      case rel => exact ⟨7, by omega, by omega, by first | rfl | go_num, hbE⟩
      case measure => simp [intOf]
    · have n0 := HN.out.cell 19
      have nf0 := HN.out.frozen 19
      simp only [List.getElem?_toArray, List.getElem?_cons_zero, List.getElem?_cons_succ] at n0
      go_upto_region 36 with fail
      replace HN : Hid (Bk (W4.setCell ⟨N, 19, none⟩ (.slice none 0 0)) N (txc ({ p with hs := [] }) (.slice none 0 0) (.slice b3 1 d3)) 30) := HN.out.set 19 _ rfl
      replace HB : Hid (Below w.heap.size w (W4.setCell ⟨N, 19, none⟩ (.slice none 0 0))) := HB.out.setCell (p := ⟨N, 19, none⟩) hNw _
      replace HR3 : Hid (RT (W4.setCell ⟨N, 19, none⟩ (.slice none 0 0)) p (.slice a3 1 c3) (.slice b3 1 d3)) := HR3.out.below (HK.out.setCell (p := ⟨N, 19, none⟩) hNk _)
      clear n0 nf0 HK
      have HCk : Hid (Calls Try.prog 23 #[.agg (txc ({ p with hs := [] }) (.slice none 0 0) (.slice b3 1 d3))] (W4.setCell ⟨N, 19, none⟩ (.slice none 0 0)) fun e w' => e = .returned (.int .i64 1) ∧ Below (W4.setCell ⟨N, 19, none⟩ (.slice none 0 0)).heap.size (W4.setCell ⟨N, 19, none⟩ (.slice none 0 0)) w') :=
        check_bad ({ p with hs := [] }) rfl HP.out.bl HP.out.b7 ⟨HP.out.w.ti, HP.out.w.ca, HP.out.w.bc, HP.out.w.va, HP.out.w.fr, HP.out.w.no, HP.out.w.ga, (fun x hx => by cases hx), HP.out.w.bs⟩ _ _ _ _ _ ⟨⟨(show (0 : Nat) ≤ maxLen by unfold maxLen; omega), fun i hi => absurd hi (Nat.not_lt_zero _), none, 0, rfl, fun i hi => absurd hi (Nat.not_lt_zero _)⟩, HR3.out.2⟩
      clear HR3 HP
      go_wp2_with (first | (refine wpList_load_tx rfl _ rfl rfl HN.out ?_))
      refine HCk.out.mono ?_
      rintro e w6 ⟨rfl, hb6⟩
      have hbE := HB.out.trans (hb6.mono HB.out.size)
      clear hb6 HB HN HCk
      go_wp2_with (go_at_call 13; refine (num7 _ _).mono ?_; rintro e w9 ⟨rfl, rfl⟩)
      go_roundw
      case rel => exact ⟨8, by omega, by omega, by first | rfl | go_num, hbE⟩
      case measure => simp [intOf]
    · have n0 := HN.out.cell 20
      have nf0 := HN.out.frozen 20
      simp only [List.getElem?_toArray, List.getElem?_cons_zero, List.getElem?_cons_succ] at n0
      go_upto_region 36 with fail
      replace HN : Hid (Bk (W4.setCell ⟨N, 20, none⟩ (.slice none 0 0)) N (txc ({ p with bs := [] }) (.slice a3 1 c3) (.slice none 0 0)) 30) := HN.out.set 20 _ rfl
      replace HB : Hid (Below w.heap.size w (W4.setCell ⟨N, 20, none⟩ (.slice none 0 0))) := HB.out.setCell (p := ⟨N, 20, none⟩) hNw _
      replace HR3 : Hid (RT (W4.setCell ⟨N, 20, none⟩ (.slice none 0 0)) p (.slice a3 1 c3) (.slice b3 1 d3)) := HR3.out.below (HK.out.setCell (p := ⟨N, 20, none⟩) hNk _)
      clear n0 nf0 HK
      have HCk : Hid (Calls Try.prog 23 #[.agg (txc ({ p with bs := [] }) (.slice a3 1 c3) (.slice none 0 0))] (W4.setCell ⟨N, 20, none⟩ (.slice none 0 0)) fun e w' => e = .returned (.int .i64 1) ∧ Below (W4.setCell ⟨N, 20, none⟩ (.slice none 0 0)).heap.size (W4.setCell ⟨N, 20, none⟩ (.slice none 0 0)) w') :=
        check_bad ({ p with bs := [] }) HP.out.hl rfl HP.out.b8 ⟨HP.out.w.ti, HP.out.w.ca, HP.out.w.bc, HP.out.w.va, HP.out.w.fr, HP.out.w.no, HP.out.w.ga, HP.out.w.hs, (fun x hx => by cases hx)⟩ _ _ _ _ _ ⟨HR3.out.1, ⟨(show (0 : Nat) ≤ maxLen by unfold maxLen; omega), fun i hi => absurd hi (Nat.not_lt_zero _), none, 0, rfl, fun i hi => absurd hi (Nat.not_lt_zero _)⟩⟩
      clear HR3 HP
      go_wp2_with (first | (refine wpList_load_tx rfl _ rfl rfl HN.out ?_))
      refine HCk.out.mono ?_
      rintro e w6 ⟨rfl, hb6⟩
      have hbE := HB.out.trans (hb6.mono HB.out.size)
      clear hb6 HB HN HCk
      go_wp2_with (go_at_call 13; refine (num7 _ _).mono ?_; rintro e w9 ⟨rfl, rfl⟩)
      go_roundw
      case rel => exact ⟨9, by omega, by omega, by first | rfl | go_num, hbE⟩
      case measure => simp [intOf]
    · have n0 := HN.out.cell 19
      have nf0 := HN.out.frozen 19
      simp only [List.getElem?_toArray, List.getElem?_cons_zero, List.getElem?_cons_succ] at n0
      have hNl := HN.out.lt
      go_upto_region 36 with fail
      replace HN : Hid (Bk ((W4.setCell ⟨N, 19, none⟩ (.slice (some ⟨W4.heap.size, 0, none⟩) 1 1)).alloc (.cells #[.int .u64 5] 24)) N (txc ({ p with hs := [5] }) (.slice (some ⟨W4.heap.size, 0, none⟩) 1 1) (.slice b3 1 d3)) 30) := (HN.out.set 19 _ rfl).alloc _
      have hB2 := HB.out.setCell (p := ⟨N, 19, none⟩) hNw (.slice (some ⟨W4.heap.size, 0, none⟩) 1 1)
      have hK2 := HK.out.setCell (p := ⟨N, 19, none⟩) hNk (.slice (some ⟨W4.heap.size, 0, none⟩) 1 1)
      replace HB : Hid (Below w.heap.size w ((W4.setCell ⟨N, 19, none⟩ (.slice (some ⟨W4.heap.size, 0, none⟩) 1 1)).alloc (.cells #[.int .u64 5] 24))) := hB2.alloc hB2.size _
      replace HR3 : Hid (RT ((W4.setCell ⟨N, 19, none⟩ (.slice (some ⟨W4.heap.size, 0, none⟩) 1 1)).alloc (.cells #[.int .u64 5] 24)) p (.slice a3 1 c3) (.slice b3 1 d3)) := HR3.out.below (hK2.alloc hK2.size _)
      clear n0 nf0 HK hB2 hK2
      have HCk : Hid (Calls Try.prog 23 #[.agg (txc ({ p with hs := [5] }) (.slice (some ⟨W4.heap.size, 0, none⟩) 1 1) (.slice b3 1 d3))] ((W4.setCell ⟨N, 19, none⟩ (.slice (some ⟨W4.heap.size, 0, none⟩) 1 1)).alloc (.cells #[.int .u64 5] 24)) fun e w' => e = .returned (.int .i64 1) ∧ Below ((W4.setCell ⟨N, 19, none⟩ (.slice (some ⟨W4.heap.size, 0, none⟩) 1 1)).alloc (.cells #[.int .u64 5] 24)).heap.size ((W4.setCell ⟨N, 19, none⟩ (.slice (some ⟨W4.heap.size, 0, none⟩) 1 1)).alloc (.cells #[.int .u64 5] 24)) w') :=
        check_bad ({ p with hs := [5] }) rfl HP.out.bl HP.out.b9 ⟨HP.out.w.ti, HP.out.w.ca, HP.out.w.bc, HP.out.w.va, HP.out.w.fr, HP.out.w.no, HP.out.w.ga, (fun x hx => by obtain rfl : x = 5 := (by simpa using hx); decide), HP.out.w.bs⟩ _ _ _ _ _ ⟨⟨(show (1 : Nat) ≤ maxLen by unfold maxLen; omega), fun i hi => (by have : i = 0 := Nat.lt_one_iff.1 hi; subst this; show (5 : Nat) < 18446744073709551616; omega), some ⟨W4.heap.size, 0, none⟩, 1, rfl, fun i hi => ⟨W4.heap.size, 0, rfl, (by
          have : i = 0 := Nat.lt_one_iff.1 hi
          subst this
          have hb : Bk ((W4.setCell ⟨N, 19, none⟩ (.slice (some ⟨W4.heap.size, 0, none⟩) 1 1)).alloc (.cells #[.int .u64 5] 24)) W4.heap.size #[.int .u64 5] 24 := Bk.new' _ _ _ (by simp)
          exact hb.cell 0)⟩⟩, HR3.out.2⟩
      clear HR3 HP
      go_wp2_with (first | (refine wpList_load_tx rfl _ rfl rfl HN.out ?_))
      refine HCk.out.mono ?_
      rintro e w6 ⟨rfl, hb6⟩
      have hbE := HB.out.trans (hb6.mono HB.out.size)
      clear hb6 HB HN HCk
      go_wp2_with (go_at_call 13; refine (num7 _ _).mono ?_; rintro e w9 ⟨rfl, rfl⟩)
      go_roundw
      case rel => exact ⟨10, by omega, by omega, by first | rfl | go_num, hbE⟩
      case measure => simp [intOf]
    · have hmk : (Instr.makeSlice 51 (.int .i64 65) (.int .i64 65)).run Try.prog W4 = .ok (.slice (some ⟨W4.heap.size, 0, none⟩) 65 65) (W4.alloc (.cells (zM 65) 5)) := zmake 65 (by omega) W4
      obtain ⟨W1, hW1⟩ : ∃ W, W = W4.alloc (.cells (zM 65) 5) := ⟨_, rfl⟩
      have hcv : (convert 51 9 (.slice (some ⟨W4.heap.size, 0, none⟩) 65 65)).run Try.prog W1 = .ok (.string (zb 65)) W1 := zstr 65 W1 _ (by rw [hW1]; exact Bk.new _ _ _)
      have hN1 : Bk W1 N (txc p (.slice a3 1 c3) (.slice b3 1 d3)) 30 := by rw [hW1]; exact HN.out.alloc _
      have hB1 : Below w.heap.size w W1 := by rw [hW1]; exact HB.out.alloc HB.out.size _
      have hK1 : Below w3.heap.size w3 W1 := by rw [hW1]; exact HK.out.alloc HK.out.size _
      rw [← hW1] at hmk
      clear hW1
      have hNl := hN1.lt
      have n0 := hN1.cell 20
      have nf0 := hN1.frozen 20
      simp only [List.getElem?_toArray, List.getElem?_cons_zero, List.getElem?_cons_succ] at n0
      have HN1 : Hid (Bk W1 N (txc p (.slice a3 1 c3) (.slice b3 1 d3)) 30) := hN1
      replace HB : Hid (Below w.heap.size w W1) := hB1
      replace HK : Hid (Below w3.heap.size w3 W1) := hK1
      clear hN1 hB1 hK1 HN
      go_upto_region 36 with fail
      have HN : Hid (Bk ((W1.setCell ⟨N, 20, none⟩ (.slice (some ⟨W1.heap.size, 0, none⟩) 1 1)).alloc (.cells #[.string (zb 65)] 9)) N (txc ({ p with bs := [zb 65] }) (.slice a3 1 c3) (.slice (some ⟨W1.heap.size, 0, none⟩) 1 1)) 30) := (HN1.out.set 20 _ rfl).alloc _
      have hB2 := HB.out.setCell (p := ⟨N, 20, none⟩) hNw (.slice (some ⟨W1.heap.size, 0, none⟩) 1 1)
      have hK2 := HK.out.setCell (p := ⟨N, 20, none⟩) hNk (.slice (some ⟨W1.heap.size, 0, none⟩) 1 1)
      replace HB : Hid (Below w.heap.size w ((W1.setCell ⟨N, 20, none⟩ (.slice (some ⟨W1.heap.size, 0, none⟩) 1 1)).alloc (.cells #[.string (zb 65)] 9))) := hB2.alloc hB2.size _
      replace HR3 : Hid (RT ((W1.setCell ⟨N, 20, none⟩ (.slice (some ⟨W1.heap.size, 0, none⟩) 1 1)).alloc (.cells #[.string (zb 65)] 9)) p (.slice a3 1 c3) (.slice b3 1 d3)) := HR3.out.below (hK2.alloc hK2.size _)
      clear n0 nf0 HK hB2 hK2 hmk hcv HN1
      have HCk : Hid (Calls Try.prog 23 #[.agg (txc ({ p with bs := [zb 65] }) (.slice a3 1 c3) (.slice (some ⟨W1.heap.size, 0, none⟩) 1 1))] ((W1.setCell ⟨N, 20, none⟩ (.slice (some ⟨W1.heap.size, 0, none⟩) 1 1)).alloc (.cells #[.string (zb 65)] 9)) fun e w' => e = .returned (.int .i64 1) ∧ Below ((W1.setCell ⟨N, 20, none⟩ (.slice (some ⟨W1.heap.size, 0, none⟩) 1 1)).alloc (.cells #[.string (zb 65)] 9)).heap.size ((W1.setCell ⟨N, 20, none⟩ (.slice (some ⟨W1.heap.size, 0, none⟩) 1 1)).alloc (.cells #[.string (zb 65)] 9)) w') :=
        check_bad ({ p with bs := [zb 65] }) HP.out.hl rfl HP.out.b10 ⟨HP.out.w.ti, HP.out.w.ca, HP.out.w.bc, HP.out.w.va, HP.out.w.fr, HP.out.w.no, HP.out.w.ga, HP.out.w.hs, (fun x hx => by obtain rfl : x = zb 65 := (by simpa using hx); rw [zb_size]; unfold maxLen; omega)⟩ _ _ _ _ _ ⟨HR3.out.1, ⟨(show (1 : Nat) ≤ maxLen by unfold maxLen; omega), fun i hi => (by have : i = 0 := Nat.lt_one_iff.1 hi; subst this; show (zb 65).size ≤ maxLen; rw [zb_size]; unfold maxLen; omega), some ⟨W1.heap.size, 0, none⟩, 1, rfl, fun i hi => ⟨W1.heap.size, 0, rfl, (by
          have : i = 0 := Nat.lt_one_iff.1 hi
          subst this
          have hb : Bk ((W1.setCell ⟨N, 20, none⟩ (.slice (some ⟨W1.heap.size, 0, none⟩) 1 1)).alloc (.cells #[.string (zb 65)] 9)) W1.heap.size #[.string (zb 65)] 9 := Bk.new' _ _ _ (by simp)
          exact hb.cell 0)⟩⟩⟩
      clear HR3 HP
      go_wp2_with (first | (refine wpList_load_tx rfl _ rfl rfl HN.out ?_))
      refine HCk.out.mono ?_
      rintro e w6 ⟨rfl, hb6⟩
      have hbE := HB.out.trans (hb6.mono HB.out.size)
      clear hb6 HB HN HCk
      go_wp2_with (go_at_call 13; refine (num7 _ _).mono ?_; rintro e w9 ⟨rfl, rfl⟩)
      go_roundw
      case rel => exact ⟨11, by omega, by omega, by first | rfl | go_num, hbE⟩
      case measure => simp [intOf]
    · have hnew : ((((txc p (.slice a3 1 c3) (.slice b3 1 d3)).setIfInBounds 14 (.int .u64 18446744073709551615)).setIfInBounds (14 + 1) (.int .u64 18446744073709551615)).setIfInBounds (14 + 1 + 1) (.int .u64 18446744073709551615)).setIfInBounds (14 + 1 + 1 + 1) (.int .u64 18446744073709551615) = txc ({ p with va := MX }) (.slice a3 1 c3) (.slice b3 1 d3) := by
        obtain ⟨e0, e1, e2, e3⟩ : lb MX 0 = 18446744073709551615 ∧ lb MX 1 = 18446744073709551615 ∧ lb MX 2 = 18446744073709551615 ∧ lb MX 3 = 18446744073709551615 := lb_MX
        unfold txc
        rw [e0, e1, e2, e3]
        rfl
      go_wp2_with fail
      refine (HMs.out _).mono ?_
      rintro e w5 ⟨rfl, hb5⟩
      replace HN : Hid (Bk w5 N (txc p (.slice a3 1 c3) (.slice b3 1 d3)) 30) := HN.out.below hb5 HN.out.lt
      replace HB : Hid (Below w.heap.size w w5) := HB.out.trans (hb5.mono HB.out.size)
      replace HK : Hid (Below w3.heap.size w3 w5) := HK.out.trans (hb5.mono HK.out.size)
      clear hb5
      go_upto_region 36 with (first | (refine wpList_store_fld (o := 14) rfl _ _ rfl rfl rfl HN.out (by show _ ≤ 21; omega) hnew ?_; intro W7 hS7))
      replace HN : Hid (Bk W7 N (txc ({ p with va := MX }) (.slice a3 1 c3) (.slice b3 1 d3)) 30) := hS7.bR
      replace HB : Hid (Below w.heap.size w W7) := hS7.below _ _ hNw HB.out
      replace HR3 : Hid (RT W7 p (.slice a3 1 c3) (.slice b3 1 d3)) := HR3.out.below (hS7.below _ _ hNk HK.out)
      clear hS7 hnew HK
      have HCk : Hid (Calls Try.prog 23 #[.agg (txc ({ p with va := MX }) (.slice a3 1 c3) (.slice b3 1 d3))] (W7) fun e w' => e = .returned (.int .i64 1) ∧ Below (W7).heap.size (W7) w') :=
        check_bad ({ p with va := MX }) HP.out.hl HP.out.bl HP.out.b11 ⟨HP.out.w.ti, HP.out.w.ca, HP.out.w.bc, (by show MX < M256; decide +kernel), HP.out.w.fr, HP.out.w.no, HP.out.w.ga, HP.out.w.hs, HP.out.w.bs⟩ _ _ _ _ _ HR3.out
      clear HR3 HP
      go_wp2_with (first | (refine wpList_load_tx rfl _ rfl rfl HN.out ?_))
      refine HCk.out.mono ?_
      rintro e w6 ⟨rfl, hb6⟩
      have hbE := HB.out.trans (hb6.mono HB.out.size)
      clear hb6 HB HN HCk
      go_wp2_with (go_at_call 13; refine (num7 _ _).mono ?_; rintro e w9 ⟨rfl, rfl⟩)
      go_roundw
      case rel => exact ⟨12, by omega, by omega, by first | rfl | go_num, hbE⟩
      case measure => simp [intOf]
    · have hnew : (((((txc p (.slice a3 1 c3) (.slice b3 1 d3)).setIfInBounds 18 (.int .i64 2)).setIfInBounds 6 (.int .u64 18446744073709551615)).setIfInBounds (6 + 1) (.int .u64 18446744073709551615)).setIfInBounds (6 + 1 + 1) (.int .u64 18446744073709551615)).setIfInBounds (6 + 1 + 1 + 1) (.int .u64 18446744073709551615) = txc ({ p with ga := 2, ca := MX }) (.slice a3 1 c3) (.slice b3 1 d3) := by
        obtain ⟨e0, e1, e2, e3⟩ := lb_MX
        unfold txc
        rw [e0, e1, e2, e3]
        rfl
      go_wp2_with fail
      refine (HMs.out _).mono ?_
      rintro e w5 ⟨rfl, hb5⟩
      replace HN : Hid (Bk w5 N (txc p (.slice a3 1 c3) (.slice b3 1 d3)) 30) := HN.out.below hb5 HN.out.lt
      replace HB : Hid (Below w.heap.size w w5) := HB.out.trans (hb5.mono HB.out.size)
      replace HK : Hid (Below w3.heap.size w3 w5) := HK.out.trans (hb5.mono HK.out.size)
      clear hb5
      have n0 := HN.out.cell 18
      have nf0 := HN.out.frozen 18
      simp only [List.getElem?_toArray, List.getElem?_cons_zero, List.getElem?_cons_succ] at n0
      have hN2 : Bk (w5.setCell ⟨N, 18, none⟩ (.int .i64 2)) N ((txc p (.slice a3 1 c3) (.slice b3 1 d3)).setIfInBounds 18 (.int .i64 2)) 30 := HN.out.set 18 _ rfl
      have HN2 : Hid (Bk (w5.setCell ⟨N, 18, none⟩ (.int .i64 2)) N ((txc p (.slice a3 1 c3) (.slice b3 1 d3)).setIfInBounds 18 (.int .i64 2)) 30) := hN2
      clear hN2
      go_upto_region 36 with (first | (refine wpList_store_fld (o := 6) rfl _ _ rfl rfl rfl HN2.out (by show _ ≤ 21; omega) hnew ?_; intro W7 hS7))
      replace HN : Hid (Bk W7 N (txc ({ p with ga := 2, ca := MX }) (.slice a3 1 c3) (.slice b3 1 d3)) 30) := hS7.bR
      have hB2 : Below w.heap.size w W7 := hS7.below _ _ hNw (HB.out.setCell (p := ⟨N, 18, none⟩) hNw _)
      have hR2 : RT W7 p (.slice a3 1 c3) (.slice b3 1 d3) := HR3.out.below (hS7.below _ _ hNk (HK.out.setCell (p := ⟨N, 18, none⟩) hNk _))
      replace HB : Hid (Below w.heap.size w W7) := hB2
      replace HR3 : Hid (RT W7 p (.slice a3 1 c3) (.slice b3 1 d3)) := hR2
      clear hS7 hnew HK HN2 n0 nf0 hB2 hR2
      have HCk : Hid (Calls Try.prog 23 #[.agg (txc ({ p with ga := 2, ca := MX }) (.slice a3 1 c3) (.slice b3 1 d3))] (W7) fun e w' => e = .returned (.int .i64 1) ∧ Below (W7).heap.size (W7) w') :=
        check_bad ({ p with ga := 2, ca := MX }) HP.out.hl HP.out.bl HP.out.b12 ⟨HP.out.w.ti, (by show MX < M256; decide +kernel), HP.out.w.bc, HP.out.w.va, HP.out.w.fr, HP.out.w.no, (show (-9223372036854775808 : Int) ≤ 2 ∧ (2 : Int) ≤ 9223372036854775807 by omega), HP.out.w.hs, HP.out.w.bs⟩ _ _ _ _ _ HR3.out
      clear HR3 HP
      go_wp2_with (first | (refine wpList_load_tx rfl _ rfl rfl HN.out ?_))
      refine HCk.out.mono ?_
      rintro e w6 ⟨rfl, hb6⟩
      have hbE := HB.out.trans (hb6.mono HB.out.size)
      clear hb6 HB HN HCk
      go_wp2_with (go_at_call 13; refine (num7 _ _).mono ?_; rintro e w9 ⟨rfl, rfl⟩)
      go_roundw
      case rel => exact ⟨13, by omega, by omega, by first | rfl | go_num, hbE⟩
      case measure => simp [intOf]
    · have hnew : ((((txc p (.slice a3 1 c3) (.slice b3 1 d3)).setIfInBounds 10 (.int .u64 18446744073709551615)).setIfInBounds (10 + 1) (.int .u64 18446744073709551615)).setIfInBounds (10 + 1 + 1) (.int .u64 18446744073709551615)).setIfInBounds (10 + 1 + 1 + 1) (.int .u64 18446744073709551615) = txc ({ p with bc := MX }) (.slice a3 1 c3) (.slice b3 1 d3) := by
        obtain ⟨e0, e1, e2, e3⟩ : lb MX 0 = 18446744073709551615 ∧ lb MX 1 = 18446744073709551615 ∧ lb MX 2 = 18446744073709551615 ∧ lb MX 3 = 18446744073709551615 := lb_MX
        unfold txc
        rw [e0, e1, e2, e3]
        rfl
      go_wp2_with fail
      refine (HMs.out _).mono ?_
      rintro e w5 ⟨rfl, hb5⟩
      replace HN : Hid (Bk w5 N (txc p (.slice a3 1 c3) (.slice b3 1 d3)) 30) := HN.out.below hb5 HN.out.lt
      replace HB : Hid (Below w.heap.size w w5) := HB.out.trans (hb5.mono HB.out.size)
      replace HK : Hid (Below w3.heap.size w3 w5) := HK.out.trans (hb5.mono HK.out.size)
      clear hb5
      go_upto_region 36 with (first | (refine wpList_store_fld (o := 10) rfl _ _ rfl rfl rfl HN.out (by show _ ≤ 21; omega) hnew ?_; intro W7 hS7))
      replace HN : Hid (Bk W7 N (txc ({ p with bc := MX }) (.slice a3 1 c3) (.slice b3 1 d3)) 30) := hS7.bR
      replace HB : Hid (Below w.heap.size w W7) := hS7.below _ _ hNw HB.out
      replace HR3 : Hid (RT W7 p (.slice a3 1 c3) (.slice b3 1 d3)) := HR3.out.below (hS7.below _ _ hNk HK.out)
      clear hS7 hnew HK
      have HCk : Hid (Calls Try.prog 23 #[.agg (txc ({ p with bc := MX }) (.slice a3 1 c3) (.slice b3 1 d3))] (W7) fun e w' => e = .returned (.int .i64 1) ∧ Below (W7).heap.size (W7) w') :=
        check_bad ({ p with bc := MX }) HP.out.hl HP.out.bl HP.out.b13 ⟨HP.out.w.ti, HP.out.w.ca, (by show MX < M256; decide +kernel), HP.out.w.va, HP.out.w.fr, HP.out.w.no, HP.out.w.ga, HP.out.w.hs, HP.out.w.bs⟩ _ _ _ _ _ HR3.out
      clear HR3 HP
      go_wp2_with (first | (refine wpList_load_tx rfl _ rfl rfl HN.out ?_))
      refine HCk.out.mono ?_
      rintro e w6 ⟨rfl, hb6⟩
      have hbE := HB.out.trans (hb6.mono HB.out.size)
      clear hb6 HB HN HCk
      go_wp2_with (go_at_call 13; refine (num7 _ _).mono ?_; rintro e w9 ⟨rfl, rfl⟩)
      go_roundw
      case rel => exact ⟨14, by omega, by omega, by first | rfl | go_num, hbE⟩
      case measure => simp [intOf]
end Go.Proofs.Ytapjonmgjccpbaa

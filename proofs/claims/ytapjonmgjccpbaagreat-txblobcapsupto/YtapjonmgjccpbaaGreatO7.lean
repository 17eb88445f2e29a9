import Derived.Test.YtapjonmgjccpbaaGreatJ21
import Derived.Test.YtapjonmgjccpbaaGreatRB7
import Derived.Deep.DeepCutAuto
set_option linter.unusedSimpArgs false
set_option linter.unusedVariables false
namespace Go.Proofs.YtapjonmgjccpbaaGreat
open Go.RowKit

/-! tarnlaw7.one: whatever the transaction is. -/
/-- What each call tells of one transaction, in every world behind a first one. -/
structure One7 (w : World) (t : TX) (u v : Value) : Prop where
  tx : ∀ W, Below w.heap.size w W → Calls Tryz.prog 13 #[.agg (txc t u v)] W fun e w' => e = .returned (.bool (decide (TxOk t))) ∧ Below W.heap.size W w'
  cost : ∀ W, Below w.heap.size w W → Calls Tryz.prog 17 #[.agg (txc t u v)] W fun e w' => e = .returned (.tuple #[V (cosV t), .int .i64 (cosE t)]) ∧ Below W.heap.size W w'
  bytes : ∀ W, Below w.heap.size w W → Calls Tryz.prog 18 #[.agg (txc t u v)] W fun e w' => e = .returned (.tuple #[.string (bytS t), .int .i64 (cosE t)]) ∧ Below W.heap.size W w'
  check : ∀ W, Below w.heap.size w W → Calls Tryz.prog 21 #[.agg (txc t u v)] W fun e w' => e = .returned (.int .i64 (cosE t)) ∧ Below W.heap.size W w'
theorem one_of {w : World} {t : TX} {aH aB : Option Addr} {cH cB : Nat} (hw : TXw t) (hr : RT w t (.slice aH t.hs.length cH) (.slice aB t.bs.length cB)) : One7 w t (.slice aH t.hs.length cH) (.slice aB t.bs.length cB) :=
  ⟨fun W h => rtx t aH aB cH cB W hw (hr.below h), fun W h => Go.Proofs.YtapjonmgjccpbaaGreat.cost t aH aB cH cB W hw (hr.below h), fun W h => bytes7 t aH aB cH cB W hw (hr.below h), fun W h => check7 t aH aB cH cB W hw (hr.below h)⟩
theorem fit_len {t : TX} (h : TxOk t) : t.hs.length ≤ 1000000 ∧ t.bs.length ≤ 1000000 := by
  obtain ⟨h1, h2, h3, -⟩ := fit_facts t h.2.2.2.2.1
  omega
theorem cost_ok {t : TX} (h : TxOk t) : costV t = costN t ∧ costN t < M256 := ⟨if_pos h.2.2.2.2.2, h.2.2.2.2.2⟩
/-- What the page tells of a transaction that may be. -/
structure Page7 (w : World) (t : TX) (u v : Value) : Prop where
  bytes : ∀ W, Below w.heap.size w W → Calls Tryz.prog 14 #[.agg (txc t u v)] W fun e w' => e = .returned (.string (itS (txI t))) ∧ Below W.heap.size W w'
  cost : ∀ W, Below w.heap.size w W → Calls Tryz.prog 16 #[.agg (txc t u v)] W fun e w' => e = .returned (.tuple #[V (costN t), .bool true]) ∧ Below W.heap.size W w'
theorem page_of {w : World} {t : TX} {aH aB : Option Addr} {cH cB : Nat} (hw : TXw t) (hr : RT w t (.slice aH t.hs.length cH) (.slice aB t.bs.length cB)) (h : TxOk t) : Page7 w t (.slice aH t.hs.length cH) (.slice aB t.bs.length cB) :=
  ⟨fun W hW => rbytes t aH aB cH cB W hw (hr.below hW) (fit_len h).1 (fit_len h).2 h.1.1 h.2.1.1 h.2.2.1.1 (Nat.le_trans (txI_ok t h hw).2 (by omega)),
   fun W hW => by
    have := rcost t (.slice aH t.hs.length cH) aB cB W hw t.ga.toNat (by have := h.2.2.1.1; omega) (fit_len h).2
    rw [(cost_ok h).1, decide_eq_true (cost_ok h).2] at this
    exact this⟩
set_option maxRecDepth 100000 in
set_option maxHeartbeats 8000000 in
theorem one7 (t : TX) (aH aB : Option Addr) (cH cB : Nat) (w : World) (hw : TXw t) (hr : RT w t (.slice aH t.hs.length cH) (.slice aB t.bs.length cB)) :
    Calls Tryz.prog 24 #[.agg (txc t (.slice aH t.hs.length cH) (.slice aB t.bs.length cB))] w fun e w' => e = .returned (.bool true) ∧ Below w.heap.size w w' := by
  have HO : Hid (One7 w t (.slice aH t.hs.length cH) (.slice aB t.bs.length cB)) := one_of hw hr
  have HP : Hid (TxOk t → Page7 w t (.slice aH t.hs.length cH) (.slice aB t.bs.length cB)) := page_of hw hr
  have HR : Hid (RT w t (.slice aH t.hs.length cH) (.slice aB t.bs.length cB)) := hr
  have HW : Hid (TXw t) := hw
  clear hw hr
  obtain ⟨wr, hwr⟩ : ∃ wr, wr = w.alloc (.cells (txc t (.slice aH t.hs.length cH) (.slice aB t.bs.length cB)) 30) := ⟨_, rfl⟩
  go_enter Tryz.func24, Tryz.ntmps24
  go_upto_region 2 with fail
  rw [← hwr]
  have hX : Bk wr w.heap.size (txc t (.slice aH t.hs.length cH) (.slice aB t.bs.length cB)) 30 := by rw [hwr]; exact Bk.new _ _ _
  have hB : Below w.heap.size w wr := by rw [hwr]; exact (Below.refl _ _).alloc (Nat.le_refl _) _
  obtain ⟨X, hXe⟩ : ∃ X, X = w.heap.size := ⟨_, rfl⟩
  rw [← hXe] at hX ⊢
  have hwX : w.heap.size ≤ X := by omega
  have hXl := hX.lt
  clear hwr hXe
  go_upto_region 3 with fail
  obtain ⟨W2, hW2⟩ : ∃ W, W = wr.alloc (.cells (A4 0 0 0 0) 26) := ⟨_, rfl⟩
  rw [← hW2]
  obtain ⟨P, hP⟩ : ∃ P, P = wr.heap.size := ⟨_, rfl⟩
  rw [← hP]
  have hb2 : Below wr.heap.size wr W2 := by rw [hW2]; exact (Below.refl _ _).alloc (Nat.le_refl _) _
  have hP2 : Bk W2 P (A4 0 0 0 0) 26 := by rw [hW2, hP]; exact Bk.new _ _ _
  have hwP : w.heap.size ≤ P := by have := hB.size; omega
  have hXP : X ≠ P := by omega
  have HX : Hid (Bk W2 X (txc t (.slice aH t.hs.length cH) (.slice aB t.bs.length cB)) 30) := hX.below hb2 hXl
  have HB : Hid (Below w.heap.size w W2) := hB.trans (hb2.mono hB.size)
  have HP4 : Hid (Bk W2 P (numc 0) 26) := by show Bk W2 P (numc 0) 26; rw [show numc 0 = A4 0 0 0 0 by simp [lb_zero]]; exact hP2
  clear hW2 hP hX hB hb2 hP2 hXl
  go_wp2_with (first | (refine wpList_load_tx rfl _ rfl rfl HX.out ?_))
  refine (HO.out.tx _ HB.out).mono ?_
  rintro e w3 ⟨rfl, hb3⟩
  replace HX : Hid (Bk w3 X (txc t (.slice aH t.hs.length cH) (.slice aB t.bs.length cB)) 30) := HX.out.below hb3 HX.out.lt
  replace HP4 : Hid (Bk w3 P (numc (0)) 26) := HP4.out.below hb3 HP4.out.lt
  replace HB : Hid (Below w.heap.size w w3) := HB.out.trans (hb3.mono HB.out.size)
  clear hb3
  by_cases hok : TxOk t
  · rw [decide_eq_true hok]
    have HPg : Hid _ := HP.out hok
    clear HP
    go_wp2_with (first | (refine wpList_load_tx rfl _ rfl rfl HX.out ?_))
    refine (HPg.out.bytes _ HB.out).mono ?_
    rintro e w4 ⟨rfl, hb4⟩
    replace HX : Hid (Bk w4 X (txc t (.slice aH t.hs.length cH) (.slice aB t.bs.length cB)) 30) := HX.out.below hb4 HX.out.lt
    replace HP4 : Hid (Bk w4 P (numc (0)) 26) := HP4.out.below hb4 HP4.out.lt
    replace HB : Hid (Below w.heap.size w w4) := HB.out.trans (hb4.mono HB.out.size)
    clear hb4
    go_wp2_with (first | (refine wpList_load_tx rfl _ rfl rfl HX.out ?_))
    refine (HPg.out.cost _ HB.out).mono ?_
    rintro e w5 ⟨rfl, hb5⟩
    replace HX : Hid (Bk w5 X (txc t (.slice aH t.hs.length cH) (.slice aB t.bs.length cB)) 30) := HX.out.below hb5 HX.out.lt
    replace HP4 : Hid (Bk w5 P (numc (0)) 26) := HP4.out.below hb5 HP4.out.lt
    replace HB : Hid (Below w.heap.size w w5) := HB.out.trans (hb5.mono HB.out.size)
    clear hb5
    go_upto_region 6 with (first | (refine wpList_store_u rfl _ _ rfl rfl rfl HP4.out rfl ?_; intro W5 hS5))
    replace HX : Hid (Bk W5 X (txc t (.slice aH t.hs.length cH) (.slice aB t.bs.length cB)) 30) := hS5.other HX.out hXP
    replace HP4 : Hid (Bk W5 P (numc (costN t)) 26) := hS5.bR
    replace HB : Hid (Below w.heap.size w W5) := hS5.below _ _ hwP HB.out
    clear hS5
    have HC : Hid _ := HO.out.cost
    have HBy : Hid _ := HO.out.bytes
    have HK : Hid _ := HO.out.check
    rw [show cosV t = costN t from if_pos hok, show cosE t = 0 from if_pos hok] at HC
    rw [show bytS t = itS (txI t) from if_pos hok, show cosE t = 0 from if_pos hok] at HBy
    rw [show cosE t = 0 from if_pos hok] at HK
    go_wp2_with (first | (refine wpList_load_tx rfl _ rfl rfl HX.out ?_))
    refine (HC.out _ HB.out).mono ?_
    rintro e w6 ⟨rfl, hb6⟩
    replace HX : Hid (Bk w6 X (txc t (.slice aH t.hs.length cH) (.slice aB t.bs.length cB)) 30) := HX.out.below hb6 HX.out.lt
    replace HP4 : Hid (Bk w6 P (numc (costN t)) 26) := HP4.out.below hb6 HP4.out.lt
    replace HB : Hid (Below w.heap.size w w6) := HB.out.trans (hb6.mono HB.out.size)
    clear hb6
    go_upto_region 7 with (first | (refine wpList_alloc_u rfl rfl ?_; intro W7 bP hb7 hz7) | (refine wpList_store_u rfl _ _ rfl rfl rfl bP rfl ?_; intro W8 hS8))
    obtain ⟨Q, hQ⟩ : ∃ Q, Q = w6.heap.size := ⟨_, rfl⟩
    rw [← hQ] at hS8 ⊢
    have hXl := HX.out.lt
    have hPl := HP4.out.lt
    have hQw : w.heap.size ≤ Q := by have := HB.out.size; omega
    replace HX : Hid (Bk W8 X (txc t (.slice aH t.hs.length cH) (.slice aB t.bs.length cB)) 30) := hS8.other (HX.out.below hb7 hXl) (by omega)
    replace HP4 : Hid (Bk W8 P (numc (costN t)) 26) := hS8.other (HP4.out.below hb7 hPl) (by omega)
    replace HB : Hid (Below w.heap.size w W8) := hS8.below _ _ hQw (HB.out.trans (hb7.mono HB.out.size))
    have HQ : Hid (Bk W8 Q (numc (costN t)) 26) := hS8.bR
    clear hS8 hb7 hz7 bP hQ hXl hPl
    go_wp2_with (first | (refine wpList_load_tx rfl _ rfl rfl HX.out ?_))
    refine (HBy.out _ HB.out).mono ?_
    rintro e w9 ⟨rfl, hb9⟩
    replace HQ : Hid (Bk w9 Q (numc (costN t)) 26) := HQ.out.below hb9 HQ.out.lt
    replace HX : Hid (Bk w9 X (txc t (.slice aH t.hs.length cH) (.slice aB t.bs.length cB)) 30) := HX.out.below hb9 HX.out.lt
    replace HP4 : Hid (Bk w9 P (numc (costN t)) 26) := HP4.out.below hb9 HP4.out.lt
    replace HB : Hid (Below w.heap.size w w9) := HB.out.trans (hb9.mono HB.out.size)
    clear hb9
    go_wp2_with (first | (refine wpList_load_tx rfl _ rfl rfl HX.out ?_))
    refine (HK.out _ HB.out).mono ?_
    rintro e wA ⟨rfl, hbA⟩
    replace HQ : Hid (Bk wA Q (numc (costN t)) 26) := HQ.out.below hbA HQ.out.lt
    replace HX : Hid (Bk wA X (txc t (.slice aH t.hs.length cH) (.slice aB t.bs.length cB)) 30) := HX.out.below hbA HX.out.lt
    replace HP4 : Hid (Bk wA P (numc (costN t)) 26) := HP4.out.below hbA HP4.out.lt
    replace HB : Hid (Below w.heap.size w wA) := HB.out.trans (hbA.mono HB.out.size)
    clear hbA
    have p0 := HP4.out.cell 0
    have r0 := HQ.out.cell 0
    have p1 := HP4.out.cell 1
    have r1 := HQ.out.cell 1
    have p2 := HP4.out.cell 2
    have r2 := HQ.out.cell 2
    have p3 := HP4.out.cell 3
    have r3 := HQ.out.cell 3
    simp only [List.getElem?_toArray, List.getElem?_cons_zero, List.getElem?_cons_succ] at p0 p1 p2 p3 r0 r1 r2 r3
    have hne : ∀ w, (binOp .neq 26 (V (costN t)) (V (costN t))).run Tryz.prog w = .ok (.bool false) w := fun w => by rw [neq26V _ _ hok.2.2.2.2.2 hok.2.2.2.2.2]; simp
    have HTk : Hid (∀ w, Calls Tryz.prog 53 #[.string (itS (txI t))] w fun e w' => (∃ a b c d, e = .returned (.tuple #[.agg (txc t (.slice a t.hs.length b) (.slice c t.bs.length d)), .int .i64 0]) ∧ OT w' w.heap.size t (.slice a t.hs.length b) (.slice c t.bs.length d)) ∧ Below w.heap.size w w') := fun w => by
      obtain ⟨-, ht1, ht2⟩ := tk_tx _ hok HW.out
      have hsz : (itS (txI t)).size ≤ 1000000 := by
        have h1 := (txI_ok _ hok HW.out).1
        rw [itS, if_pos h1, st_size]
        have := h1.2
        omega
      have := take7' (itS (txI t)) w hsz
      rw [ht1, ht2] at this
      exact this
    generalize itS (txI t) = out at *
    go_wp2_with (go_at_call 20; refine (num7 _ _).mono ?_; rintro e wN ⟨rfl, rfl⟩)
    refine (HTk.out _).mono ?_
    rintro e wB ⟨⟨a3, c3, b3, d3, rfl, hO3⟩, hbB⟩
    clear p0 p1 p2 p3 r0 r1 r2 r3 hne HQ HP4 HC HBy HK HPg HTk
    have HN3 : Hid (Bk (wB.alloc (.cells z21 30)) wB.heap.size z21 30) := Bk.new _ _ _
    replace HX : Hid (Bk wB X (txc t (.slice aH t.hs.length cH) (.slice aB t.bs.length cB)) 30) := HX.out.below hbB HX.out.lt
    have hXl := HX.out.lt
    have hB3 := HB.out.trans (hbB.mono HB.out.size)
    have HB3 : Hid (Below w.heap.size w (wB.alloc (.cells z21 30))) := hB3.alloc hB3.size _
    have hz3 := hB3.size
    have HO3 : Hid (OT wB wN.heap.size t (.slice a3 t.hs.length c3) (.slice b3 t.bs.length d3)) := hO3
    clear hO3 hbB hB3 HB
    go_upto_region 13 with (refine wpList_store_tx rfl _ _ rfl rfl rfl HN3.out rfl ?_; intro W4 hS4)
    obtain ⟨N, hN⟩ : ∃ N, N = wB.heap.size := ⟨_, rfl⟩
    rw [← hN] at hS4 ⊢
    have HN : Hid (Bk W4 N (txc t (.slice a3 t.hs.length c3) (.slice b3 t.bs.length d3)) 30) := hS4.bR
    have HX4 : Hid (Bk W4 X (txc t (.slice aH t.hs.length cH) (.slice aB t.bs.length cB)) 30) := hS4.other (HX.out.alloc _) (by omega)
    have HB4 : Hid (Below w.heap.size w W4) := hS4.below _ _ (by omega) HB3.out
    have HO4 : Hid (RT W4 t (.slice a3 t.hs.length c3) (.slice b3 t.bs.length d3)) := ⟨(hS4.or (HO3.out.h.alloc _) (fun e => by have := (HO3.out.h.ge e).2; omega)).su HW.out.hs, (hS4.or (HO3.out.b.alloc _) (fun e => by have := (HO3.out.b.ge e).2; omega)).ss HW.out.bs⟩
    clear HX HB3 HN3 HO3 hS4 hN
    have HEq : Hid (Calls Tryz.prog 22 #[.agg (txc t (.slice a3 t.hs.length c3) (.slice b3 t.bs.length d3)), .agg (txc t (.slice aH t.hs.length cH) (.slice aB t.bs.length cB))] W4 fun e w' => (∃ c : Bool, e = .returned (.bool c) ∧ (c = true ↔ t = t)) ∧ Below W4.heap.size W4 w') := eqTx t t a3 b3 aH aB c3 d3 cH cB W4 HW.out HW.out HO4.out (HR.out.below HB4.out)
    go_wp2_with (first | (go_at_call 20; refine (num7 _ _).mono ?_; rintro e wN ⟨rfl, rfl⟩) | (refine wpList_load_txG rfl _ rfl rfl HN.out ?_) | (refine wpList_load_txG rfl _ rfl rfl HX4.out ?_))
    refine HEq.out.mono ?_
    rintro e wC ⟨⟨cc, rfl, hcc⟩, hbC⟩
    obtain rfl : cc = true := hcc.2 (by trivial)
    go_wp2_with fail
    go_ret
    exact ⟨rfl, HB4.out.trans (hbC.mono HB4.out.size)⟩
  · rw [decide_eq_false hok]
    clear HP
    have HC : Hid _ := HO.out.cost
    have HBy : Hid _ := HO.out.bytes
    have HK : Hid _ := HO.out.check
    rw [show cosV t = 0 from if_neg hok, show cosE t = 1 from if_neg hok] at HC
    rw [show bytS t = ⟨#[]⟩ from if_neg hok, show cosE t = 1 from if_neg hok] at HBy
    rw [show cosE t = 1 from if_neg hok] at HK
    go_wp2_with (first | (refine wpList_load_tx rfl _ rfl rfl HX.out ?_))
    refine (HC.out _ HB.out).mono ?_
    rintro e w6 ⟨rfl, hb6⟩
    replace HX : Hid (Bk w6 X (txc t (.slice aH t.hs.length cH) (.slice aB t.bs.length cB)) 30) := HX.out.below hb6 HX.out.lt
    replace HP4 : Hid (Bk w6 P (numc (0)) 26) := HP4.out.below hb6 HP4.out.lt
    replace HB : Hid (Below w.heap.size w w6) := HB.out.trans (hb6.mono HB.out.size)
    clear hb6
    go_upto_region 7 with (first | (refine wpList_alloc_u rfl rfl ?_; intro W7 bP hb7 hz7) | (refine wpList_store_u rfl _ _ rfl rfl rfl bP rfl ?_; intro W8 hS8))
    obtain ⟨Q, hQ⟩ : ∃ Q, Q = w6.heap.size := ⟨_, rfl⟩
    rw [← hQ] at hS8 ⊢
    have hXl := HX.out.lt
    have hPl := HP4.out.lt
    have hQw : w.heap.size ≤ Q := by have := HB.out.size; omega
    replace HX : Hid (Bk W8 X (txc t (.slice aH t.hs.length cH) (.slice aB t.bs.length cB)) 30) := hS8.other (HX.out.below hb7 hXl) (by omega)
    replace HP4 : Hid (Bk W8 P (numc (0)) 26) := hS8.other (HP4.out.below hb7 hPl) (by omega)
    replace HB : Hid (Below w.heap.size w W8) := hS8.below _ _ hQw (HB.out.trans (hb7.mono HB.out.size))
    have HQ : Hid (Bk W8 Q (numc (0)) 26) := hS8.bR
    clear hS8 hb7 hz7 bP hQ hXl hPl
    go_wp2_with (first | (refine wpList_load_tx rfl _ rfl rfl HX.out ?_))
    refine (HBy.out _ HB.out).mono ?_
    rintro e w9 ⟨rfl, hb9⟩
    replace HQ : Hid (Bk w9 Q (numc (0)) 26) := HQ.out.below hb9 HQ.out.lt
    replace HX : Hid (Bk w9 X (txc t (.slice aH t.hs.length cH) (.slice aB t.bs.length cB)) 30) := HX.out.below hb9 HX.out.lt
    replace HP4 : Hid (Bk w9 P (numc (0)) 26) := HP4.out.below hb9 HP4.out.lt
    replace HB : Hid (Below w.heap.size w w9) := HB.out.trans (hb9.mono HB.out.size)
    clear hb9
    go_wp2_with (first | (refine wpList_load_tx rfl _ rfl rfl HX.out ?_))
    refine (HK.out _ HB.out).mono ?_
    rintro e wA ⟨rfl, hbA⟩
    replace HQ : Hid (Bk wA Q (numc (0)) 26) := HQ.out.below hbA HQ.out.lt
    replace HX : Hid (Bk wA X (txc t (.slice aH t.hs.length cH) (.slice aB t.bs.length cB)) 30) := HX.out.below hbA HX.out.lt
    replace HP4 : Hid (Bk wA P (numc (0)) 26) := HP4.out.below hbA HP4.out.lt
    replace HB : Hid (Below w.heap.size w wA) := HB.out.trans (hbA.mono HB.out.size)
    clear hbA
    have p0 := HP4.out.cell 0
    have r0 := HQ.out.cell 0
    have p1 := HP4.out.cell 1
    have r1 := HQ.out.cell 1
    have p2 := HP4.out.cell 2
    have r2 := HQ.out.cell 2
    have p3 := HP4.out.cell 3
    have r3 := HQ.out.cell 3
    simp only [List.getElem?_toArray, List.getElem?_cons_zero, List.getElem?_cons_succ] at p0 p1 p2 p3 r0 r1 r2 r3
    have hne : ∀ w, (binOp .neq 26 (.agg (A4 0 0 0 0)) (.agg (A4 0 0 0 0))).run Tryz.prog w = .ok (.bool false) w := fun w => by rw [neq26, eq4_same]; rfl
    simp only [lb_zero] at p0 p1 p2 p3 r0 r1 r2 r3
    go_wp2_with (go_at_call 20; refine (num7 _ _).mono ?_; rintro e wN ⟨rfl, rfl⟩)
    go_ret
    exact ⟨rfl, HB.out⟩
end Go.Proofs.YtapjonmgjccpbaaGreat

/- Texts joined: Wk7 Rg. -/
import Derived.Test.YtapjonmgjccpbaaGreatJ20
import Derived.Test.YtapjonmgjccpbaaGreatEqT
import Derived.Test.YtapjonmgjccpbaaGreatJ1
import Derived.Test.YtapjonmgjccpbaaGreatJ9
import Derived.Deep.RegionLaw
import Derived.Deep.RegionHeld3
import Derived.Deep.MidRow
section
set_option linter.unusedSimpArgs false
set_option linter.unusedVariables false
set_option maxRecDepth 100000
namespace Go.Proofs.YtapjonmgjccpbaaGreat
open Go.RowKit

/-! tarnlaw7.wakes. -/
theorem step_load_txW {ops : Array Oper} {o : Oper} {a : Act} {w : World} {K : Act → World → Prop} {Q : Exit → Act → World → Prop} {E : Prop} (hw : Region.wanted o (yielded ops a.tmps) = true) (x : Operand) (ho : o.op = .load 30 x)
    {X : Nat} (hx : a.eval x = .pointer (some ⟨X, 0, none⟩)) {t : TX} {u v : Value} (h : Bk w X (txc t u v) 30) (hk : K (a.put o.dst (.agg (txc t u v))) w) :
    if Region.wanted o (yielded ops a.tmps) = true then Oper.wp Tryz.prog o a w K Q else E := by
  rw [if_pos hw]
  refine wp_load_mid 30 x ho X 0 hx (txc t u v).toList _ (fun j y hy => ?_) Tryz.underlying30 rfl infoT hk
  rw [Nat.zero_add, h.cell, ← Array.getElem?_toList]
  exact hy
theorem plain_ok : TxOk (plain 1 2 3) ∧ TXw (plain 1 2 3) := by
  have hm : mk (blp bB) < 18446744073709551616 := by show mk (blp bB) < _; exact mk_lt _
  refine ⟨⟨⟨by decide, by decide⟩, ⟨by decide, by decide⟩, ⟨by decide, by decide⟩, by decide, ?_, by decide⟩, ⟨by decide, by decide, by decide, by decide, ⟨by decide, by decide⟩, ⟨by decide, by decide⟩, ⟨by decide, by decide⟩, fun x hx => ?_, fun x hx => ?_⟩⟩
  · unfold fitT fitE
    have h1 : cnts (((plain 1 2 3)).bs.length : Nat) = true ∧ ((plain 1 2 3)).hs.length = ((plain 1 2 3)).bs.length := ⟨by decide, rfl⟩
    rw [if_pos h1]
    have e : prs (fun i => ((plain 1 2 3)).hs.getD i 0) (fun i => ((plain 1 2 3)).bs.getD i ByteArray.empty) ((plain 1 2 3)).bs.length = [(mk (blp bB), bB)] := rfl
    rw [e]
    have e1 : [(mk (blp bB), bB)].any big = false := by show (decide (64 < bB.size) || false) = false; decide
    have e2 : [(mk (blp bB), bB)].any unfit = false := by show (decide (mk (blp bB) ≠ mk (blp bB)) || false) = false; simp
    rw [e1, e2]
    rfl
  · have : x = mk (blp bB) := by simpa [plain] using hx
    rw [this]
    exact hm
  · have : x = bB := by simpa [plain] using hx
    rw [this]
    decide
set_option maxHeartbeats 4000000 in
theorem wakes7 (w : World) : Calls Tryz.prog 23 #[] w fun e w' => e = .returned (.bool true) ∧ Below w.heap.size w w' := by
  obtain ⟨hok, hw⟩ := plain_ok
  obtain ⟨-, ht1, ht2⟩ := tk_tx _ hok hw
  have HT : Hid (∀ w, Calls Tryz.prog 52 #[.int .i64 1, .int .i64 2, .int .u64 3] w fun e w' => (∃ a' b' c' d', e = .returned (.agg (txc (plain 1 2 3) (.slice a' 1 c') (.slice b' 1 d'))) ∧ OT w' w.heap.size (plain 1 2 3) (.slice a' 1 c') (.slice b' 1 d')) ∧ Below w.heap.size w w') := fun w => mkT 1 2 3 (by omega) w
  have HBy : Hid (∀ w a b c d base, OT w base (plain 1 2 3) (.slice a 1 c) (.slice b 1 d) → Calls Tryz.prog 18 #[.agg (txc (plain 1 2 3) (.slice a 1 c) (.slice b 1 d))] w fun e w' => e = .returned (.tuple #[.string (itS (txI (plain 1 2 3))), .int .i64 0]) ∧ Below w.heap.size w w') := fun w a b c d base h => by
    have := bytes7 (plain 1 2 3) a b c d w hw ⟨h.h.su hw.hs, h.b.ss hw.bs⟩
    rw [show bytS (plain 1 2 3) = itS (txI (plain 1 2 3)) from if_pos hok, show cosE (plain 1 2 3) = 0 from if_pos hok] at this
    exact this
  have hsz : (itS (txI (plain 1 2 3))).size ≤ 1000000 := by
    have h1 := (txI_ok _ hok hw).1
    rw [itS, if_pos h1, st_size]
    have := h1.2
    omega
  have HTk : Hid (∀ w, Calls Tryz.prog 53 #[.string (itS (txI (plain 1 2 3)))] w fun e w' => (∃ a b c d, e = .returned (.tuple #[.agg (txc (plain 1 2 3) (.slice a 1 b) (.slice c 1 d)), .int .i64 0]) ∧ OT w' w.heap.size (plain 1 2 3) (.slice a 1 b) (.slice c 1 d)) ∧ Below w.heap.size w w') := fun w => by
    have := take7' (itS (txI (plain 1 2 3))) w hsz
    rw [ht1, ht2] at this
    exact this
  have HW : Hid (TXw (plain 1 2 3)) := hw
  generalize itS (txI (plain 1 2 3)) = out at *
  clear hok hw ht1 ht2 hsz
  go_enter Tryz.func23, Tryz.ntmps23
  go_wp2_with fail
  refine (HT.out _).mono ?_
  rintro e w1 ⟨⟨a1, b1, c1, d1, rfl, hO1⟩, hb1⟩
  go_wp2_with fail
  refine (HBy.out _ _ _ _ _ _ hO1).mono ?_
  rintro e w2 ⟨rfl, hb2⟩
  go_wp2_with fail
  refine (HTk.out _).mono ?_
  rintro e w3 ⟨⟨a3, c3, b3, d3, rfl, hO3⟩, hb3⟩
  have HN3 : Hid (Bk (w3.alloc (.cells z21 30)) w3.heap.size z21 30) := Bk.new _ _ _
  have hB3 : Below w.heap.size w w3 := (hb1.trans (hb2.mono hb1.size)).trans (hb3.mono (Nat.le_trans hb1.size hb2.size))
  have HO3 : Hid (OT w3 w2.heap.size (plain 1 2 3) (.slice a3 1 c3) (.slice b3 1 d3)) := hO3
  have HB3 : Hid (Below w.heap.size w (w3.alloc (.cells z21 30))) := hB3.alloc hB3.size _
  have hz3 := hB3.size
  clear hO1 hb1 hb2 hb3 hO3 hB3 HBy HTk
  go_upto_region 3 with (refine wpList_store_tx rfl _ _ rfl rfl rfl HN3.out rfl ?_; intro W4 hS4)
  have HB4 : Hid (Bk W4 w3.heap.size (txc (plain 1 2 3) (.slice a3 1 c3) (.slice b3 1 d3)) 30) := hS4.bR
  have HBl4 : Hid (Below w.heap.size w W4) := hS4.below _ _ hz3 HB3.out
  have hO4 : OT W4 w2.heap.size (plain 1 2 3) (.slice a3 1 c3) (.slice b3 1 d3) := ⟨hS4.or (HO3.out.h.alloc _) (fun e => by have := (HO3.out.h.ge e).2; omega), hS4.or (HO3.out.b.alloc _) (fun e => by have := (HO3.out.b.ge e).2; omega)⟩
  have HEq : Hid (∀ w6, Below W4.drew.heap.size W4.drew w6 → ∀ a6 b6 c6 d6, OT w6 W4.drew.heap.size (plain 1 2 3) (.slice a6 1 c6) (.slice b6 1 d6) → Calls Tryz.prog 22 #[.agg (txc (plain 1 2 3) (.slice a3 1 c3) (.slice b3 1 d3)), .agg (txc (plain 1 2 3) (.slice a6 1 c6) (.slice b6 1 d6))] w6 fun e w' => (∃ c : Bool, e = .returned (.bool c) ∧ (c = true ↔ (plain 1 2 3) = (plain 1 2 3))) ∧ Below w6.heap.size w6 w') := fun w6 hb a6 b6 c6 d6 hO =>
    eqTx (plain 1 2 3) (plain 1 2 3) a3 b3 a6 b6 c3 d3 c6 d6 w6 HW.out HW.out ⟨(hO4.h.drew.below' hb).su HW.out.hs, (hO4.b.drew.below' hb).ss HW.out.bs⟩ ⟨hO.h.su HW.out.hs, hO.b.ss HW.out.bs⟩
  have HEnd : Hid (∀ w6 w7, Below W4.drew.heap.size W4.drew w6 → Below w6.heap.size w6 w7 → Below w.heap.size w w7) := fun w6 w7 h6 h7 => by
    have h := HBl4.out.drew.trans (h6.mono HBl4.out.size)
    exact h.trans (h7.mono h.size)
  generalize (plain 1 2 3) = PP at *
  clear hO4 HO3 HB3 HN3
  refine wp_region_noPanic ?_
  refine wp_region_any (by kernel_rfl) ?_
  (try (change wpAny _ _ _ _ _ _ _ (World.drew _)))
  refine wpAny_take (i := 0) (oi := ⟨some 15, _, _, _, _, _⟩) (v := ?_) rfl (by kernel_rfl) (by kernel_rfl) (by kernel_rfl) (fun _ _ _ h => h) (Or.inl ⟨by rfl, ?_⟩) ?_
  rotate_left
  · (intro w; go_simp; try (with_reducible rfl))
  (try dsimp only); (try simp only [Act.put, List.setIfInBounds_toArray, List.set_cons_zero, List.set_cons_succ])
  refine wpAny_ready (rs := [1]) (by kernel_rfl) (by simp) ?_
  refine AllReady.cons (o := ⟨some 16, _, _, _, _, _⟩) rfl (fun K hK => ?_) AllReady.nil
  go_simp
  go_wp2_with (go_at_call 20; refine (num7 0 _).mono ?_; rintro e w' ⟨rfl, rfl⟩)
  (try dsimp only); (try simp only [Act.put, List.setIfInBounds_toArray, List.set_cons_zero, List.set_cons_succ])
  refine wpAny_take (i := 2) (oi := ⟨some 17, _, _, _, _, _⟩) (v := ?_) rfl (by kernel_rfl) (by kernel_rfl) (by kernel_rfl) (fun _ _ _ h => h) (Or.inl ⟨by rfl, ?_⟩) ?_
  rotate_left
  · (intro w; go_simp; try (with_reducible rfl))
  (try dsimp only); (try simp only [Act.put, List.setIfInBounds_toArray, List.set_cons_zero, List.set_cons_succ])
  refine wpAny_take (i := 3) (oi := ⟨some 18, _, _, _, _, _⟩) (v := ?_) rfl (by kernel_rfl) (by kernel_rfl) (by kernel_rfl) (fun _ _ _ h => h) (Or.inl ⟨by rfl, ?_⟩) ?_
  rotate_left
  · (intro w; go_simp; try (with_reducible rfl))
  (try dsimp only); (try simp only [Act.put, List.setIfInBounds_toArray, List.set_cons_zero, List.set_cons_succ])
  refine wpAny_take (i := 4) (oi := ⟨some 19, _, _, _, _, _⟩) (v := ?_) rfl (by kernel_rfl) (by kernel_rfl) (by kernel_rfl) (fun _ _ _ h => h) (Or.inl ⟨by rfl, ?_⟩) ?_
  rotate_left
  · (intro w; go_simp; try (with_reducible rfl))
  (try dsimp only); (try simp only [Act.put, List.setIfInBounds_toArray, List.set_cons_zero, List.set_cons_succ])
  refine wpAny_ready (rs := [5]) (by kernel_rfl) (by simp) ?_
  refine AllReady.cons (o := ⟨some 20, _, _, _, _, _⟩) rfl (fun K hK => ?_) AllReady.nil
  go_simp
  go_wp2_with (go_at_call 20; refine (num7 0 _).mono ?_; rintro e w' ⟨rfl, rfl⟩)
  (try dsimp only); (try simp only [Act.put, List.setIfInBounds_toArray, List.set_cons_zero, List.set_cons_succ])
  refine wpAny_take (i := 6) (oi := ⟨some 21, _, _, _, _, _⟩) (v := ?_) rfl (by kernel_rfl) (by kernel_rfl) (by kernel_rfl) (fun _ _ _ h => h) (Or.inl ⟨by rfl, ?_⟩) ?_
  rotate_left
  · (intro w; go_simp; try (with_reducible rfl))
  (try dsimp only); (try simp only [Act.put, List.setIfInBounds_toArray, List.set_cons_zero, List.set_cons_succ])
  refine wpAny_take (i := 7) (oi := ⟨some 22, _, _, _, _, _⟩) (v := ?_) rfl (by kernel_rfl) (by kernel_rfl) (by kernel_rfl) (fun _ _ _ h => h) (Or.inl ⟨by rfl, ?_⟩) ?_
  rotate_left
  · (intro w; go_simp; try (with_reducible rfl))
  (try dsimp only); (try simp only [Act.put, List.setIfInBounds_toArray, List.set_cons_zero, List.set_cons_succ])
  refine wpAny_take (i := 8) (oi := ⟨some 23, _, _, _, _, _⟩) (v := ?_) rfl (by kernel_rfl) (by kernel_rfl) (by kernel_rfl) (fun _ _ _ h => h) (Or.inl ⟨by rfl, ?_⟩) ?_
  rotate_left
  · (intro w; go_simp; try (with_reducible rfl))
  (try dsimp only); (try simp only [Act.put, List.setIfInBounds_toArray, List.set_cons_zero, List.set_cons_succ])
  refine wpAny_ready (rs := [9, 10]) (by kernel_rfl) (by simp) ?_
  refine AllReady.cons (o := ⟨some 24, _, _, _, _, _⟩) rfl (fun K hK => ?_) (AllReady.cons (o := ⟨some 25, _, _, _, _, _⟩) rfl (fun K hK => ?_) AllReady.nil)
  · refine step_load_txW rfl _ rfl rfl HB4.out.drew ?_
    refine hK _ _ ?_
    clear hK K
    (try dsimp only); (try simp only [Act.put, List.setIfInBounds_toArray, List.set_cons_zero, List.set_cons_succ])
    refine wpAny_ready (rs := [10]) (by kernel_rfl) (by simp) ?_
    refine AllReady.cons (o := ⟨some 25, _, _, _, _, _⟩) rfl (fun K hK => ?_) AllReady.nil
    go_simp
    go_wp2_with (go_at_call 52; refine (HT.out _).mono ?_; rintro e w6 ⟨⟨a6, b6, c6, d6, rfl, hO6⟩, hb6⟩)
    (try dsimp only); (try simp only [Act.put, List.setIfInBounds_toArray, List.set_cons_zero, List.set_cons_succ])
    refine wpAny_ready (rs := [11]) (by kernel_rfl) (by simp) ?_
    refine AllReady.cons (o := ⟨some 26, _, _, _, _, _⟩) rfl (fun K hK => ?_) AllReady.nil
    go_simp
    go_wp2_with (go_at_call 22; refine (HEq.out _ hb6 _ _ _ _ hO6).mono ?_; rintro e w7 ⟨⟨cc, rfl, hcc⟩, hb7⟩; obtain rfl : cc = true := hcc.2 trivial)
    (try dsimp only); (try simp only [Act.put, List.setIfInBounds_toArray, List.set_cons_zero, List.set_cons_succ])
    refine wpAny_take (i := 12) (oi := ⟨some 27, _, _, _, _, _⟩) (v := ?_) rfl (by kernel_rfl) (by kernel_rfl) (by kernel_rfl) (fun _ _ _ h => h) (Or.inl ⟨by rfl, ?_⟩) ?_
    rotate_left
    · (intro w; go_simp; try (with_reducible rfl))
    (try dsimp only); (try simp only [Act.put, List.setIfInBounds_toArray, List.set_cons_zero, List.set_cons_succ])
    refine wpAny_take (i := 13) (oi := ⟨some 0, _, _, _, _, _⟩) (v := ?_) rfl (by kernel_rfl) (by kernel_rfl) (by kernel_rfl) (fun _ _ _ h => h) (Or.inl ⟨by rfl, ?_⟩) ?_
    rotate_left
    · (intro w; go_simp; try (with_reducible rfl))
    (try dsimp only); (try simp only [Act.put, List.setIfInBounds_toArray, List.set_cons_zero, List.set_cons_succ])
    refine wpAny_done (by kernel_rfl) ?_ _
    refine NoPanic.normal ?_
    go_wp2_with fail
    go_ret
    exact ⟨rfl, HEnd.out _ _ hb6 hb7⟩
  · go_simp
    go_wp2_with (go_at_call 52; refine (HT.out _).mono ?_; rintro e w6 ⟨⟨a6, b6, c6, d6, rfl, hO6⟩, hb6⟩)
    (try dsimp only); (try simp only [Act.put, List.setIfInBounds_toArray, List.set_cons_zero, List.set_cons_succ])
    refine wpAny_ready (rs := [9]) (by kernel_rfl) (by simp) ?_
    refine AllReady.cons (o := ⟨some 24, _, _, _, _, _⟩) rfl (fun K hK => ?_) AllReady.nil
    refine step_load_txW rfl _ rfl rfl (HB4.out.drew.below hb6 HB4.out.drew.lt) ?_
    refine hK _ _ ?_
    clear hK K
    (try dsimp only); (try simp only [Act.put, List.setIfInBounds_toArray, List.set_cons_zero, List.set_cons_succ])
    refine wpAny_ready (rs := [11]) (by kernel_rfl) (by simp) ?_
    refine AllReady.cons (o := ⟨some 26, _, _, _, _, _⟩) rfl (fun K hK => ?_) AllReady.nil
    go_simp
    go_wp2_with (go_at_call 22; refine (HEq.out _ hb6 _ _ _ _ hO6).mono ?_; rintro e w7 ⟨⟨cc, rfl, hcc⟩, hb7⟩; obtain rfl : cc = true := hcc.2 trivial)
    (try dsimp only); (try simp only [Act.put, List.setIfInBounds_toArray, List.set_cons_zero, List.set_cons_succ])
    refine wpAny_take (i := 12) (oi := ⟨some 27, _, _, _, _, _⟩) (v := ?_) rfl (by kernel_rfl) (by kernel_rfl) (by kernel_rfl) (fun _ _ _ h => h) (Or.inl ⟨by rfl, ?_⟩) ?_
    rotate_left
    · (intro w; go_simp; try (with_reducible rfl))
    (try dsimp only); (try simp only [Act.put, List.setIfInBounds_toArray, List.set_cons_zero, List.set_cons_succ])
    refine wpAny_take (i := 13) (oi := ⟨some 0, _, _, _, _, _⟩) (v := ?_) rfl (by kernel_rfl) (by kernel_rfl) (by kernel_rfl) (fun _ _ _ h => h) (Or.inl ⟨by rfl, ?_⟩) ?_
    rotate_left
    · (intro w; go_simp; try (with_reducible rfl))
    (try dsimp only); (try simp only [Act.put, List.setIfInBounds_toArray, List.set_cons_zero, List.set_cons_succ])
    refine wpAny_done (by kernel_rfl) ?_ _
    refine NoPanic.normal ?_
    go_wp2_with fail
    go_ret
    exact ⟨rfl, HEnd.out _ _ hb6 hb7⟩
end Go.Proofs.YtapjonmgjccpbaaGreat
end
section
set_option linter.unusedSimpArgs false
set_option linter.unusedVariables false
set_option maxRecDepth 100000
namespace Go.Proofs.YtapjonmgjccpbaaGreat
open Go.RowKit

/-! Steps of drawn regions, with worlds that stay letters: loads of ranges, new variables, stores. -/
theorem infoU7 : (Tryz.prog.info? 26).map (·.size) = some 4 := by kernel_rfl
theorem infoA7 : (Tryz.prog.info? 32).map (·.size) = some 26 := by kernel_rfl
abbrev numc (n : Nat) : Array Value := A4 (lb n 0) (lb n 1) (lb n 2) (lb n 3)
theorem yl_tx {ops : Array Oper} {S : World → Prop} {op : Oper} {a : Act} (hw : Region.wanted op (yielded ops a.tmps) = true) (x : Operand) (ho : op.op = .load 30 x)
    {b o : Nat} (hx : a.eval x = .pointer (some ⟨b, o, none⟩)) {t : TX} {u v : Value} (hS : ∀ w, S w → w.rangeAt b o (txc t u v).toList) : YieldsIf Tryz.prog ops S op (.agg (txc t u v)) a :=
  yieldsIf_load_mid hw 30 x ho b o hx _ _ hS Tryz.underlying30 rfl infoT
theorem yl_u {ops : Array Oper} {S : World → Prop} {op : Oper} {a : Act} (hw : Region.wanted op (yielded ops a.tmps) = true) (x : Operand) (ho : op.op = .load 26 x)
    {b o : Nat} (hx : a.eval x = .pointer (some ⟨b, o, none⟩)) {n : Nat} (hS : ∀ w, S w → w.rangeAt b o (numc n).toList) : YieldsIf Tryz.prog ops S op (V n) a :=
  yieldsIf_load_mid hw 26 x ho b o hx _ _ hS Tryz.underlying26 rfl infoU7
theorem yl_ask {ops : Array Oper} {S : World → Prop} {op : Oper} {a : Act} (hw : Region.wanted op (yielded ops a.tmps) = true) (x : Operand) (ho : op.op = .load 32 x)
    {b o : Nat} (hx : a.eval x = .pointer (some ⟨b, o, none⟩)) {t : TX} {u v : Value} {s : ByteArray} {n : Nat} (hS : ∀ w, S w → w.rangeAt b o (askc t u v s n).toList) : YieldsIf Tryz.prog ops S op (.agg (askc t u v s n)) a :=
  yieldsIf_load_mid hw 32 x ho b o hx _ _ hS Tryz.underlying32 rfl infoA7
/-- In a plain region's list. -/
theorem wpList_load_u {ops : Array Oper} {rest : List Oper} {op : Oper} {a : Act} {w : World} {Q : Exit → Act → World → Prop} (hgd : op.guard = none) (x : Operand) (ho : op.op = .load 26 x)
    {X o : Nat} (hx : a.eval x = .pointer (some ⟨X, o, none⟩)) {n : Nat} (h : w.rangeAt X o (numc n).toList) (hk : wpList Tryz.prog ops Q rest (a.put op.dst (V n)) w) : wpList Tryz.prog ops Q (op :: rest) a w :=
  wpList_load_mid hgd 26 x ho X o hx (numc n).toList _ h Tryz.underlying26 rfl infoU7 hk
theorem wpList_load_ask {ops : Array Oper} {rest : List Oper} {op : Oper} {a : Act} {w : World} {Q : Exit → Act → World → Prop} (hgd : op.guard = none) (x : Operand) (ho : op.op = .load 32 x)
    {X o : Nat} (hx : a.eval x = .pointer (some ⟨X, o, none⟩)) {t : TX} {u v : Value} {s : ByteArray} {n : Nat} (h : w.rangeAt X o (askc t u v s n).toList) (hk : wpList Tryz.prog ops Q rest (a.put op.dst (.agg (askc t u v s n))) w) : wpList Tryz.prog ops Q (op :: rest) a w :=
  wpList_load_mid hgd 32 x ho X o hx (askc t u v s n).toList _ h Tryz.underlying32 rfl infoA7 hk
theorem step_store_u {ops : Array Oper} {o : Oper} {a : Act} {w : World} {K : Act → World → Prop} {Q : Exit → Act → World → Prop} {E : Prop} (hw : Region.wanted o (yielded ops a.tmps) = true) (x y : Operand) (ho : o.op = .store 26 x y)
    {R : Nat} (hx : a.eval x = .pointer (some ⟨R, 0, none⟩)) {n : Nat} (hy : a.eval y = V n) {old : Array Value} (h : Bk w R old 26) (hs : old.size = 4)
    (hk : ∀ W, Stored w W R (numc n) 26 → K (a.put o.dst undef) W) :
    if Region.wanted o (yielded ops a.tmps) = true then Oper.wp Tryz.prog o a w K Q else E := by
  rw [if_pos hw]
  refine wp_store_mid 26 x y ho R 0 (numc n) hx hy (by have := h.there; rw [hs] at this; exact this) infoU7 (by simp [Value.oneCell']) (hk _ ⟨?_, fun c hc => setCells_block hc _ _ _, fun B w0 hB hb => setCells_below hB _ _ _ hb, setCells_size _ _ _⟩)
  have := setCells_Bk (b := R) (t := 26) (numc n).toList old.toList [] w (by simpa using hs) (by simpa using h)
  simpa using this
theorem step_alloc_u {ops : Array Oper} {o : Oper} {a : Act} {w : World} {K : Act → World → Prop} {Q : Exit → Act → World → Prop} {E : Prop} (hw : Region.wanted o (yielded ops a.tmps) = true) (ho : o.op = .alloc 26)
    (hk : ∀ W, Bk W w.heap.size (A4 0 0 0 0) 26 → Below w.heap.size w W → W.heap.size = w.heap.size + 1 → K (a.put o.dst (.pointer (some ⟨w.heap.size, 0, none⟩))) W) :
    if Region.wanted o (yielded ops a.tmps) = true then Oper.wp Tryz.prog o a w K Q else E := by
  rw [if_pos hw]
  unfold Oper.wp
  have e : (execOp a.eval o).run Tryz.prog w = .ok (.value (.pointer (some ⟨w.heap.size, 0, none⟩))) (w.alloc (.cells (A4 0 0 0 0) 26)) := by
    unfold execOp
    rw [ho]
    go_simp
    try rfl
  rw [e]
  exact hk _ (Bk.new _ _ _) ((Below.refl _ _).alloc (Nat.le_refl _) _) (by simp)
/-! The same in a plain region's list. -/
theorem wpList_store_u {ops : Array Oper} {rest : List Oper} {op : Oper} {a : Act} {w : World} {Q : Exit → Act → World → Prop} (hgd : op.guard = none) (x y : Operand) (ho : op.op = .store 26 x y)
    {R : Nat} (hx : a.eval x = .pointer (some ⟨R, 0, none⟩)) {n : Nat} (hy : a.eval y = V n) {old : Array Value} (h : Bk w R old 26) (hs : old.size = 4)
    (hk : ∀ W, Stored w W R (numc n) 26 → wpList Tryz.prog ops Q rest (a.put op.dst undef) W) : wpList Tryz.prog ops Q (op :: rest) a w := by
  refine wpList_store_mid hgd 26 x y ho R 0 (numc n) hx hy (by have := h.there; rw [hs] at this; exact this) infoU7 (by simp [Value.oneCell']) (hk _ ⟨?_, fun c hc => setCells_block hc _ _ _, fun B w0 hB hb => setCells_below hB _ _ _ hb, setCells_size _ _ _⟩)
  have := setCells_Bk (b := R) (t := 26) (numc n).toList old.toList [] w (by simpa using hs) (by simpa using h)
  simpa using this
theorem wp_alloc_u {o : Oper} {a : Act} {w : World} {K : Act → World → Prop} {Q : Exit → Act → World → Prop} (ho : o.op = .alloc 26)
    (hk : ∀ W, Bk W w.heap.size (A4 0 0 0 0) 26 → Below w.heap.size w W → W.heap.size = w.heap.size + 1 → K (a.put o.dst (.pointer (some ⟨w.heap.size, 0, none⟩))) W) : Oper.wp Tryz.prog o a w K Q := by
  unfold Oper.wp
  have e : (execOp a.eval o).run Tryz.prog w = .ok (.value (.pointer (some ⟨w.heap.size, 0, none⟩))) (w.alloc (.cells (A4 0 0 0 0) 26)) := by
    unfold execOp
    rw [ho]
    go_simp
    try rfl
  rw [e]
  exact hk _ (Bk.new _ _ _) ((Below.refl _ _).alloc (Nat.le_refl _) _) (by simp)
theorem wpList_alloc_u {ops : Array Oper} {rest : List Oper} {op : Oper} {a : Act} {w : World} {Q : Exit → Act → World → Prop} (hgd : op.guard = none) (ho : op.op = .alloc 26)
    (hk : ∀ W, Bk W w.heap.size (A4 0 0 0 0) 26 → Below w.heap.size w W → W.heap.size = w.heap.size + 1 → wpList Tryz.prog ops Q rest (a.put op.dst (.pointer (some ⟨w.heap.size, 0, none⟩))) W) : wpList Tryz.prog ops Q (op :: rest) a w :=
  wpList_plain hgd fun _ hK => wp_alloc_u ho fun W h1 h2 h3 => hK _ _ (hk W h1 h2 h3)
/-- A range that was there is there in every world that keeps what was. -/
theorem range_below {w W : World} {b o : Nat} {cs : List Value} (h : w.rangeAt b o cs) (hb : Below w.heap.size w W) : W.rangeAt b o cs := fun j x hx => by
  have := h j x hx
  exact (hb.cell (cell_lt' this)).trans this
theorem range_blk {w : World} {b : Nat} {vs : Array Value} {ty : TypeId} (h : Bk w b vs ty) : w.rangeAt b 0 vs.toList := fun j x hx => by
  rw [Nat.zero_add, h.cell, ← Array.getElem?_toList]
  exact hx
section
variable {w : World} {b o n : Nat} {t : TX} {u v : Value} {s : ByteArray}
theorem range_sub {cs : List Value} (h : w.rangeAt b o cs) (k : Nat) (ds : List Value) (e : ∀ j, j < ds.length → cs[k + j]? = ds[j]?) : w.rangeAt b (o + k) ds := fun j x hx => by
  have hj : j < ds.length := (List.getElem?_eq_some_iff.1 hx).1
  have := h (k + j) x (by rw [e j hj]; exact hx)
  rw [Nat.add_assoc]
  exact this
theorem ask_tx (h : w.rangeAt b o (askc t u v s n).toList) : w.rangeAt b o (txc t u v).toList :=
  range_sub h 0 _ (fun j hj => by
    have e : (askc t u v s n).toList = (txc t u v).toList ++ [.string s, .int .u64 (lb n 0), .int .u64 (lb n 1), .int .u64 (lb n 2), .int .u64 (lb n 3)] := rfl
    rw [Nat.zero_add, e, List.getElem?_append_left hj])
theorem ask_base (h : w.rangeAt b o (askc t u v s n).toList) : w.rangeAt b (o + 22) (numc n).toList :=
  range_sub h 22 _ (fun j hj => by
    have e : (askc t u v s n).toList = ((txc t u v).toList ++ [.string s]) ++ (numc n).toList := rfl
    rw [e, List.getElem?_append_right (by show 22 ≤ 22 + j; omega)]
    have : 22 + j - ((txc t u v).toList ++ [Value.string s]).length = j := by show 22 + j - 22 = j; omega
    rw [this])
theorem tx_tip (h : w.rangeAt b o (txc t u v).toList) : w.rangeAt b (o + 2) (numc t.ti).toList :=
  range_sub h 2 _ (fun j hj => by
    have : j = 0 ∨ j = 1 ∨ j = 2 ∨ j = 3 := by have : j < 4 := hj; omega
    rcases this with rfl | rfl | rfl | rfl <;> rfl)
theorem tx_cap (h : w.rangeAt b o (txc t u v).toList) : w.rangeAt b (o + 6) (numc t.ca).toList :=
  range_sub h 6 _ (fun j hj => by
    have : j = 0 ∨ j = 1 ∨ j = 2 ∨ j = 3 := by have : j < 4 := hj; omega
    rcases this with rfl | rfl | rfl | rfl <;> rfl)
theorem ask_str (h : w.rangeAt b o (askc t u v s n).toList) : w.cell? ⟨b, o + 21, none⟩ = some (.string s) := h 21 _ rfl
end
end Go.Proofs.YtapjonmgjccpbaaGreat
end

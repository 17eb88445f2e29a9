/- Texts joined: Wk7 Rg CarryS Sub Py7. -/
import Derived.Test.YtapjonmgjccpbaaJ20
import Derived.Test.YtapjonmgjccpbaaEqT
import Derived.Test.YtapjonmgjccpbaaJ1
import Derived.Test.YtapjonmgjccpbaaJ9
import Derived.Deep.RegionLaw
import Derived.Deep.RegionHeld3
import Derived.Deep.MidRow
import Derived.Test.YtapjonmgjccpbaaJ0
import Derived.Test.YtapjonmgjccpbaaJ16
import Derived.Test.YtapjonmgjccpbaaJ6
section
set_option linter.unusedSimpArgs false
set_option linter.unusedVariables false
set_option maxRecDepth 100000
namespace Go.Proofs.Ytapjonmgjccpbaa
open Go.RowKit

/-! tarnlaw7.wakes. -/
theorem step_load_txW {ops : Array Oper} {o : Oper} {a : Act} {w : World} {K : Act → World → Prop} {Q : Exit → Act → World → Prop} {E : Prop} (hw : Region.wanted o (yielded ops a.tmps) = true) (x : Operand) (ho : o.op = .load 30 x)
    {X : Nat} (hx : a.eval x = .pointer (some ⟨X, 0, none⟩)) {t : TX} {u v : Value} (h : Bk w X (txc t u v) 30) (hk : K (a.put o.dst (.agg (txc t u v))) w) :
    if Region.wanted o (yielded ops a.tmps) = true then Oper.wp Try.prog o a w K Q else E := by
  rw [if_pos hw]
  refine wp_load_mid 30 x ho X 0 hx (txc t u v).toList _ (fun j y hy => ?_) Try.underlying30 rfl infoT hk
  rw [Nat.zero_add, h.cell, ← Array.getElem?_toList]
  exact hy
theorem plain_ok : TxOk (plain 1 2 3) ∧ TXw (plain 1 2 3) := by
  have hm : mk (blp bB) < 18446744073709551616 := by show mk (blp bB) < _; exact mk_lt _
  refine ⟨⟨⟨by decide, by decide⟩, ⟨by decide, by decide⟩, ⟨by decide, by decide⟩, by decide, ?_, by decide⟩, ⟨by decide, by decide, by decide, by decide, ⟨by decide, by decide⟩, ⟨by decide, by decide⟩, ⟨by decide, by decide⟩, fun x hx => ?_, fun x hx => ?_⟩⟩
  · unfold fitT fitE
    have h1 : cnts (((plain 1 2 3)).bs.length : Nat) = true ∧ ((plain 1 2 3)).hs.length = ((plain 1 2 3)).bs.length := ⟨by decide, rfl⟩
    rw [if_pos h1]
    have e : prs (fun i => ((plain 1 2 3)).hs.getD i 0) (fun i => ((plain 1 2 3)).bs.getD i ByteArray.empty) ((plain 1 2 3)).bs.length = [(mk (blp bB), bB)] := rfl
    rw [e]
    have e1 : [(mk (blp bB), bB)].any big = false := by show (decide (64 < bB.size) || false) = false; decide
    have e2 : [(mk (blp bB), bB)].any unfit = false := by show (decide (mk (blp bB) ≠ mk (blp bB)) || false) = false; simp
    rw [e1, e2]
    rfl
  · have : x = mk (blp bB) := by simpa [plain] using hx
    rw [this]
    exact hm
  · have : x = bB := by simpa [plain] using hx
    rw [this]
    decide
set_option maxHeartbeats 4000000 in
theorem wakes7 (w : World) : Calls Try.prog 16 #[] w fun e w' => e = .returned (.bool true) ∧ Below w.heap.size w w' := by
  obtain ⟨hok, hw⟩ := plain_ok
  obtain ⟨-, ht1, ht2⟩ := tk_tx _ hok hw
  have HT : Hid (∀ w, Calls Try.prog 24 #[.int .i64 1, .int .i64 2, .int .u64 3] w fun e w' => (∃ a' b' c' d', e = .returned (.agg (txc (plain 1 2 3) (.slice a' 1 c') (.slice b' 1 d'))) ∧ OT w' w.heap.size (plain 1 2 3) (.slice a' 1 c') (.slice b' 1 d')) ∧ Below w.heap.size w w') := fun w => mkT 1 2 3 (by omega) w
  have HBy : Hid (∀ w a b c d base, OT w base (plain 1 2 3) (.slice a 1 c) (.slice b 1 d) → Calls Try.prog 22 #[.agg (txc (plain 1 2 3) (.slice a 1 c) (.slice b 1 d))] w fun e w' => e = .returned (.tuple #[.string (itS (txI (plain 1 2 3))), .int .i64 0]) ∧ Below w.heap.size w w') := fun w a b c d base h => by
    have := bytes7 (plain 1 2 3) a b c d w hw ⟨h.h.su hw.hs, h.b.ss hw.bs⟩
    rw [show bytS (plain 1 2 3) = itS (txI (plain 1 2 3)) from if_pos hok, show cosE (plain 1 2 3) = 0 from if_pos hok] at this
    exact this
  have hsz : (itS (txI (plain 1 2 3))).size ≤ 1000000 := by
    have h1 := (txI_ok _ hok hw).1
    rw [itS, if_pos h1, st_size]
    have := h1.2
    omega
  have HTk : Hid (∀ w, Calls Try.prog 11 #[.string (itS (txI (plain 1 2 3)))] w fun e w' => (∃ a b c d, e = .returned (.tuple #[.agg (txc (plain 1 2 3) (.slice a 1 b) (.slice c 1 d)), .int .i64 0]) ∧ OT w' w.heap.size (plain 1 2 3) (.slice a 1 b) (.slice c 1 d)) ∧ Below w.heap.size w w') := fun w => by
    have := take7' (itS (txI (plain 1 2 3))) w hsz
    rw [ht1, ht2] at this
    exact this
  have HW : Hid (TXw (plain 1 2 3)) := hw
  generalize itS (txI (plain 1 2 3)) = out at *
  clear hok hw ht1 ht2 hsz
  go_enter Try.func16, Try.ntmps16
  go_wp2_with fail
  refine (HT.out _).mono ?_
  rintro e w1 ⟨⟨a1, b1, c1, d1, rfl, hO1⟩, hb1⟩
  go_wp2_with fail
  refine (HBy.out _ _ _ _ _ _ hO1).mono ?_
  rintro e w2 ⟨rfl, hb2⟩
  go_wp2_with fail
  refine (HTk.out _).mono ?_
  rintro e w3 ⟨⟨a3, c3, b3, d3, rfl, hO3⟩, hb3⟩
  have HN3 : Hid (Bk (w3.alloc (.cells z21 30)) w3.heap.size z21 30) := Bk.new _ _ _
  have hB3 : Below w.heap.size w w3 := (hb1.trans (hb2.mono hb1.size)).trans (hb3.mono (Nat.le_trans hb1.size hb2.size))
  have HO3 : Hid (OT w3 w2.heap.size (plain 1 2 3) (.slice a3 1 c3) (.slice b3 1 d3)) := hO3
  have HB3 : Hid (Below w.heap.size w (w3.alloc (.cells z21 30))) := hB3.alloc hB3.size _
  have hz3 := hB3.size
  clear hO1 hb1 hb2 hb3 hO3 hB3 HBy HTk
  go_upto_region 3 with (refine wpList_store_tx rfl _ _ rfl rfl rfl HN3.out rfl ?_; intro W4 hS4)
  have HB4 : Hid (Bk W4 w3.heap.size (txc (plain 1 2 3) (.slice a3 1 c3) (.slice b3 1 d3)) 30) := hS4.bR
  have HBl4 : Hid (Below w.heap.size w W4) := hS4.below _ _ hz3 HB3.out
  have hO4 : OT W4 w2.heap.size (plain 1 2 3) (.slice a3 1 c3) (.slice b3 1 d3) := ⟨hS4.or (HO3.out.h.alloc _) (fun e => by have := (HO3.out.h.ge e).2; omega), hS4.or (HO3.out.b.alloc _) (fun e => by have := (HO3.out.b.ge e).2; omega)⟩
  have HEq : Hid (∀ w6, Below W4.drew.heap.size W4.drew w6 → ∀ a6 b6 c6 d6, OT w6 W4.drew.heap.size (plain 1 2 3) (.slice a6 1 c6) (.slice b6 1 d6) → Calls Try.prog 14 #[.agg (txc (plain 1 2 3) (.slice a3 1 c3) (.slice b3 1 d3)), .agg (txc (plain 1 2 3) (.slice a6 1 c6) (.slice b6 1 d6))] w6 fun e w' => (∃ c : Bool, e = .returned (.bool c) ∧ (c = true ↔ (plain 1 2 3) = (plain 1 2 3))) ∧ Below w6.heap.size w6 w') := fun w6 hb a6 b6 c6 d6 hO =>
    eqTx (plain 1 2 3) (plain 1 2 3) a3 b3 a6 b6 c3 d3 c6 d6 w6 HW.out HW.out ⟨(hO4.h.drew.below' hb).su HW.out.hs, (hO4.b.drew.below' hb).ss HW.out.bs⟩ ⟨hO.h.su HW.out.hs, hO.b.ss HW.out.bs⟩
  have HEnd : Hid (∀ w6 w7, Below W4.drew.heap.size W4.drew w6 → Below w6.heap.size w6 w7 → Below w.heap.size w w7) := fun w6 w7 h6 h7 => by
    have h := HBl4.out.drew.trans (h6.mono HBl4.out.size)
    exact h.trans (h7.mono h.size)
  generalize (plain 1 2 3) = PP at *
  clear hO4 HO3 HB3 HN3
  refine wp_region_noPanic ?_
  refine wp_region_any (by kernel_rfl) ?_
  (try (change wpAny _ _ _ _ _ _ _ (World.drew _)))
  refine wpAny_take (i := 0) (oi := ⟨some 15, _, _, _, _, _⟩) (v := ?_) rfl (by kernel_rfl) (by kernel_rfl) (by kernel_rfl) (fun _ _ _ h => h) (Or.inl ⟨by rfl, ?_⟩) ?_
  rotate_left
  · (intro w; go_simp; try (with_reducible rfl))
  (try dsimp only); (try simp only [Act.put, List.setIfInBounds_toArray, List.set_cons_zero, List.set_cons_succ])
  refine wpAny_ready (rs := [1]) (by kernel_rfl) (by simp) ?_
  refine AllReady.cons (o := ⟨some 16, _, _, _, _, _⟩) rfl (fun K hK => ?_) AllReady.nil
  go_simp
  go_wp2_with (go_at_call 13; refine (num7 0 _).mono ?_; rintro e w' ⟨rfl, rfl⟩)
  (try dsimp only); (try simp only [Act.put, List.setIfInBounds_toArray, List.set_cons_zero, List.set_cons_succ])
  refine wpAny_take (i := 2) (oi := ⟨some 17, _, _, _, _, _⟩) (v := ?_) rfl (by kernel_rfl) (by kernel_rfl) (by kernel_rfl) (fun _ _ _ h => h) (Or.inl ⟨by rfl, ?_⟩) ?_
  rotate_left
  · (intro w; go_simp; try (with_reducible rfl))
  (try dsimp only); (try simp only [Act.put, List.setIfInBounds_toArray, List.set_cons_zero, List.set_cons_succ])
  refine wpAny_take (i := 3) (oi := ⟨some 18, _, _, _, _, _⟩) (v := ?_) rfl (by kernel_rfl) (by kernel_rfl) (by kernel_rfl) (fun _ _ _ h => h) (Or.inl ⟨by rfl, ?_⟩) ?_
  rotate_left
  · (intro w; go_simp; try (with_reducible rfl))
  (try dsimp only); (try simp only [Act.put, List.setIfInBounds_toArray, List.set_cons_zero, List.set_cons_succ])
  refine wpAny_take (i := 4) (oi := ⟨some 19, _, _, _, _, _⟩) (v := ?_) rfl (by kernel_rfl) (by kernel_rfl) (by kernel_rfl) (fun _ _ _ h => h) (Or.inl ⟨by rfl, ?_⟩) ?_
  rotate_left
  · (intro w; go_simp; try (with_reducible rfl))
  (try dsimp only); (try simp only [Act.put, List.setIfInBounds_toArray, List.set_cons_zero, List.set_cons_succ])
  refine wpAny_ready (rs := [5]) (by kernel_rfl) (by simp) ?_
  refine AllReady.cons (o := ⟨some 20, _, _, _, _, _⟩) rfl (fun K hK => ?_) AllReady.nil
  go_simp
  go_wp2_with (go_at_call 13; refine (num7 0 _).mono ?_; rintro e w' ⟨rfl, rfl⟩)
  (try dsimp only); (try simp only [Act.put, List.setIfInBounds_toArray, List.set_cons_zero, List.set_cons_succ])
  refine wpAny_take (i := 6) (oi := ⟨some 21, _, _, _, _, _⟩) (v := ?_) rfl (by kernel_rfl) (by kernel_rfl) (by kernel_rfl) (fun _ _ _ h => h) (Or.inl ⟨by rfl, ?_⟩) ?_
  rotate_left
  · (intro w; go_simp; try (with_reducible rfl))
  (try dsimp only); (try simp only [Act.put, List.setIfInBounds_toArray, List.set_cons_zero, List.set_cons_succ])
  refine wpAny_take (i := 7) (oi := ⟨some 22, _, _, _, _, _⟩) (v := ?_) rfl (by kernel_rfl) (by kernel_rfl) (by kernel_rfl) (fun _ _ _ h => h) (Or.inl ⟨by rfl, ?_⟩) ?_
  rotate_left
  · (intro w; go_simp; try (with_reducible rfl))
  (try dsimp only); (try simp only [Act.put, List.setIfInBounds_toArray, List.set_cons_zero, List.set_cons_succ])
  refine wpAny_take (i := 8) (oi := ⟨some 23, _, _, _, _, _⟩) (v := ?_) rfl (by kernel_rfl) (by kernel_rfl) (by kernel_rfl) (fun _ _ _ h => h) (Or.inl ⟨by rfl, ?_⟩) ?_
  rotate_left
  · (intro w; go_simp; try (with_reducible rfl))
  (try dsimp only); (try simp only [Act.put, List.setIfInBounds_toArray, List.set_cons_zero, List.set_cons_succ])
  refine wpAny_ready (rs := [9, 10]) (by kernel_rfl) (by simp) ?_
  refine AllReady.cons (o := ⟨some 24, _, _, _, _, _⟩) rfl (fun K hK => ?_) (AllReady.cons (o := ⟨some 25, _, _, _, _, _⟩) rfl (fun K hK => ?_) AllReady.nil)
  · refine step_load_txW rfl _ rfl rfl HB4.out.drew ?_
    refine hK _ _ ?_
    clear hK K
    (try dsimp only); (try simp only [Act.put, List.setIfInBounds_toArray, List.set_cons_zero, List.set_cons_succ])
    refine wpAny_ready (rs := [10]) (by kernel_rfl) (by simp) ?_
    refine AllReady.cons (o := ⟨some 25, _, _, _, _, _⟩) rfl (fun K hK => ?_) AllReady.nil
    go_simp
    go_wp2_with (go_at_call 24; refine (HT.out _).mono ?_; rintro e w6 ⟨⟨a6, b6, c6, d6, rfl, hO6⟩, hb6⟩)
    (try dsimp only); (try simp only [Act.put, List.setIfInBounds_toArray, List.set_cons_zero, List.set_cons_succ])
    refine wpAny_ready (rs := [11]) (by kernel_rfl) (by simp) ?_
    refine AllReady.cons (o := ⟨some 26, _, _, _, _, _⟩) rfl (fun K hK => ?_) AllReady.nil
    go_simp
    go_wp2_with (go_at_call 14; refine (HEq.out _ hb6 _ _ _ _ hO6).mono ?_; rintro e w7 ⟨⟨cc, rfl, hcc⟩, hb7⟩; obtain rfl : cc = true := hcc.2 trivial)
    (try dsimp only); (try simp only [Act.put, List.setIfInBounds_toArray, List.set_cons_zero, List.set_cons_succ])
    refine wpAny_take (i := 12) (oi := ⟨some 27, _, _, _, _, _⟩) (v := ?_) rfl (by kernel_rfl) (by kernel_rfl) (by kernel_rfl) (fun _ _ _ h => h) (Or.inl ⟨by rfl, ?_⟩) ?_
    rotate_left
    · (intro w; go_simp; try (with_reducible rfl))
    (try dsimp only); (try simp only [Act.put, List.setIfInBounds_toArray, List.set_cons_zero, List.set_cons_succ])
    refine wpAny_take (i := 13) (oi := ⟨some 0, _, _, _, _, _⟩) (v := ?_) rfl (by kernel_rfl) (by kernel_rfl) (by kernel_rfl) (fun _ _ _ h => h) (Or.inl ⟨by rfl, ?_⟩) ?_
    rotate_left
    · (intro w; go_simp; try (with_reducible rfl))
    (try dsimp only); (try simp only [Act.put, List.setIfInBounds_toArray, List.set_cons_zero, List.set_cons_succ])
    refine wpAny_done (by kernel_rfl) ?_ _
    refine NoPanic.normal ?_
    go_wp2_with fail
    go_ret
    exact ⟨rfl, HEnd.out _ _ hb6 hb7⟩
  · go_simp
    go_wp2_with (go_at_call 24; refine (HT.out _).mono ?_; rintro e w6 ⟨⟨a6, b6, c6, d6, rfl, hO6⟩, hb6⟩)
    (try dsimp only); (try simp only [Act.put, List.setIfInBounds_toArray, List.set_cons_zero, List.set_cons_succ])
    refine wpAny_ready (rs := [9]) (by kernel_rfl) (by simp) ?_
    refine AllReady.cons (o := ⟨some 24, _, _, _, _, _⟩) rfl (fun K hK => ?_) AllReady.nil
    refine step_load_txW rfl _ rfl rfl (HB4.out.drew.below hb6 HB4.out.drew.lt) ?_
    refine hK _ _ ?_
    clear hK K
    (try dsimp only); (try simp only [Act.put, List.setIfInBounds_toArray, List.set_cons_zero, List.set_cons_succ])
    refine wpAny_ready (rs := [11]) (by kernel_rfl) (by simp) ?_
    refine AllReady.cons (o := ⟨some 26, _, _, _, _, _⟩) rfl (fun K hK => ?_) AllReady.nil
    go_simp
    go_wp2_with (go_at_call 14; refine (HEq.out _ hb6 _ _ _ _ hO6).mono ?_; rintro e w7 ⟨⟨cc, rfl, hcc⟩, hb7⟩; obtain rfl : cc = true := hcc.2 trivial)
    (try dsimp only); (try simp only [Act.put, List.setIfInBounds_toArray, List.set_cons_zero, List.set_cons_succ])
    refine wpAny_take (i := 12) (oi := ⟨some 27, _, _, _, _, _⟩) (v := ?_) rfl (by kernel_rfl) (by kernel_rfl) (by kernel_rfl) (fun _ _ _ h => h) (Or.inl ⟨by rfl, ?_⟩) ?_
    rotate_left
    · (intro w; go_simp; try (with_reducible rfl))
    (try dsimp only); (try simp only [Act.put, List.setIfInBounds_toArray, List.set_cons_zero, List.set_cons_succ])
    refine wpAny_take (i := 13) (oi := ⟨some 0, _, _, _, _, _⟩) (v := ?_) rfl (by kernel_rfl) (by kernel_rfl) (by kernel_rfl) (fun _ _ _ h => h) (Or.inl ⟨by rfl, ?_⟩) ?_
    rotate_left
    · (intro w; go_simp; try (with_reducible rfl))
    (try dsimp only); (try simp only [Act.put, List.setIfInBounds_toArray, List.set_cons_zero, List.set_cons_succ])
    refine wpAny_done (by kernel_rfl) ?_ _
    refine NoPanic.normal ?_
    go_wp2_with fail
    go_ret
    exact ⟨rfl, HEnd.out _ _ hb6 hb7⟩
end Go.Proofs.Ytapjonmgjccpbaa
end
section
set_option linter.unusedSimpArgs false
set_option linter.unusedVariables false
set_option maxRecDepth 100000
namespace Go.Proofs.Ytapjonmgjccpbaa
open Go.RowKit

/-! Steps of drawn regions, with worlds that stay letters: loads of ranges, new variables, stores. -/
theorem infoU7 : (Try.prog.info? 26).map (·.size) = some 4 := by kernel_rfl
theorem infoA7 : (Try.prog.info? 32).map (·.size) = some 26 := by kernel_rfl
abbrev numc (n : Nat) : Array Value := A4 (lb n 0) (lb n 1) (lb n 2) (lb n 3)
theorem yl_tx {ops : Array Oper} {S : World → Prop} {op : Oper} {a : Act} (hw : Region.wanted op (yielded ops a.tmps) = true) (x : Operand) (ho : op.op = .load 30 x)
    {b o : Nat} (hx : a.eval x = .pointer (some ⟨b, o, none⟩)) {t : TX} {u v : Value} (hS : ∀ w, S w → w.rangeAt b o (txc t u v).toList) : YieldsIf Try.prog ops S op (.agg (txc t u v)) a :=
  yieldsIf_load_mid hw 30 x ho b o hx _ _ hS Try.underlying30 rfl infoT
theorem yl_u {ops : Array Oper} {S : World → Prop} {op : Oper} {a : Act} (hw : Region.wanted op (yielded ops a.tmps) = true) (x : Operand) (ho : op.op = .load 26 x)
    {b o : Nat} (hx : a.eval x = .pointer (some ⟨b, o, none⟩)) {n : Nat} (hS : ∀ w, S w → w.rangeAt b o (numc n).toList) : YieldsIf Try.prog ops S op (V n) a :=
  yieldsIf_load_mid hw 26 x ho b o hx _ _ hS Try.underlying26 rfl infoU7
theorem yl_ask {ops : Array Oper} {S : World → Prop} {op : Oper} {a : Act} (hw : Region.wanted op (yielded ops a.tmps) = true) (x : Operand) (ho : op.op = .load 32 x)
    {b o : Nat} (hx : a.eval x = .pointer (some ⟨b, o, none⟩)) {t : TX} {u v : Value} {s : ByteArray} {n : Nat} (hS : ∀ w, S w → w.rangeAt b o (askc t u v s n).toList) : YieldsIf Try.prog ops S op (.agg (askc t u v s n)) a :=
  yieldsIf_load_mid hw 32 x ho b o hx _ _ hS Try.underlying32 rfl infoA7
/-- In a plain region's list. -/
theorem wpList_load_u {ops : Array Oper} {rest : List Oper} {op : Oper} {a : Act} {w : World} {Q : Exit → Act → World → Prop} (hgd : op.guard = none) (x : Operand) (ho : op.op = .load 26 x)
    {X o : Nat} (hx : a.eval x = .pointer (some ⟨X, o, none⟩)) {n : Nat} (h : w.rangeAt X o (numc n).toList) (hk : wpList Try.prog ops Q rest (a.put op.dst (V n)) w) : wpList Try.prog ops Q (op :: rest) a w :=
  wpList_load_mid hgd 26 x ho X o hx (numc n).toList _ h Try.underlying26 rfl infoU7 hk
theorem wpList_load_ask {ops : Array Oper} {rest : List Oper} {op : Oper} {a : Act} {w : World} {Q : Exit → Act → World → Prop} (hgd : op.guard = none) (x : Operand) (ho : op.op = .load 32 x)
    {X o : Nat} (hx : a.eval x = .pointer (some ⟨X, o, none⟩)) {t : TX} {u v : Value} {s : ByteArray} {n : Nat} (h : w.rangeAt X o (askc t u v s n).toList) (hk : wpList Try.prog ops Q rest (a.put op.dst (.agg (askc t u v s n))) w) : wpList Try.prog ops Q (op :: rest) a w :=
  wpList_load_mid hgd 32 x ho X o hx (askc t u v s n).toList _ h Try.underlying32 rfl infoA7 hk
theorem step_store_u {ops : Array Oper} {o : Oper} {a : Act} {w : World} {K : Act → World → Prop} {Q : Exit → Act → World → Prop} {E : Prop} (hw : Region.wanted o (yielded ops a.tmps) = true) (x y : Operand) (ho : o.op = .store 26 x y)
    {R : Nat} (hx : a.eval x = .pointer (some ⟨R, 0, none⟩)) {n : Nat} (hy : a.eval y = V n) {old : Array Value} (h : Bk w R old 26) (hs : old.size = 4)
    (hk : ∀ W, Stored w W R (numc n) 26 → K (a.put o.dst undef) W) :
    if Region.wanted o (yielded ops a.tmps) = true then Oper.wp Try.prog o a w K Q else E := by
  rw [if_pos hw]
  refine wp_store_mid 26 x y ho R 0 (numc n) hx hy (by have := h.there; rw [hs] at this; exact this) infoU7 (by simp [Value.oneCell']) (hk _ ⟨?_, fun c hc => setCells_block hc _ _ _, fun B w0 hB hb => setCells_below hB _ _ _ hb, setCells_size _ _ _⟩)
  have := setCells_Bk (b := R) (t := 26) (numc n).toList old.toList [] w (by simpa using hs) (by simpa using h)
  simpa using this
theorem step_alloc_u {ops : Array Oper} {o : Oper} {a : Act} {w : World} {K : Act → World → Prop} {Q : Exit → Act → World → Prop} {E : Prop} (hw : Region.wanted o (yielded ops a.tmps) = true) (ho : o.op = .alloc 26)
    (hk : ∀ W, Bk W w.heap.size (A4 0 0 0 0) 26 → Below w.heap.size w W → W.heap.size = w.heap.size + 1 → K (a.put o.dst (.pointer (some ⟨w.heap.size, 0, none⟩))) W) :
    if Region.wanted o (yielded ops a.tmps) = true then Oper.wp Try.prog o a w K Q else E := by
  rw [if_pos hw]
  unfold Oper.wp
  have e : (execOp a.eval o).run Try.prog w = .ok (.value (.pointer (some ⟨w.heap.size, 0, none⟩))) (w.alloc (.cells (A4 0 0 0 0) 26)) := by
    unfold execOp
    rw [ho]
    go_simp
    try rfl
  rw [e]
  exact hk _ (Bk.new _ _ _) ((Below.refl _ _).alloc (Nat.le_refl _) _) (by simp)
/-- A range that was there is there in every world that keeps what was. -/
theorem range_below {w W : World} {b o : Nat} {cs : List Value} (h : w.rangeAt b o cs) (hb : Below w.heap.size w W) : W.rangeAt b o cs := fun j x hx => by
  have := h j x hx
  exact (hb.cell (cell_lt' this)).trans this
theorem range_blk {w : World} {b : Nat} {vs : Array Value} {ty : TypeId} (h : Bk w b vs ty) : w.rangeAt b 0 vs.toList := fun j x hx => by
  rw [Nat.zero_add, h.cell, ← Array.getElem?_toList]
  exact hx
section
variable {w : World} {b o n : Nat} {t : TX} {u v : Value} {s : ByteArray}
theorem range_sub {cs : List Value} (h : w.rangeAt b o cs) (k : Nat) (ds : List Value) (e : ∀ j, j < ds.length → cs[k + j]? = ds[j]?) : w.rangeAt b (o + k) ds := fun j x hx => by
  have hj : j < ds.length := (List.getElem?_eq_some_iff.1 hx).1
  have := h (k + j) x (by rw [e j hj]; exact hx)
  rw [Nat.add_assoc]
  exact this
theorem ask_tx (h : w.rangeAt b o (askc t u v s n).toList) : w.rangeAt b o (txc t u v).toList :=
  range_sub h 0 _ (fun j hj => by
    have e : (askc t u v s n).toList = (txc t u v).toList ++ [.string s, .int .u64 (lb n 0), .int .u64 (lb n 1), .int .u64 (lb n 2), .int .u64 (lb n 3)] := rfl
    rw [Nat.zero_add, e, List.getElem?_append_left hj])
theorem ask_base (h : w.rangeAt b o (askc t u v s n).toList) : w.rangeAt b (o + 22) (numc n).toList :=
  range_sub h 22 _ (fun j hj => by
    have e : (askc t u v s n).toList = ((txc t u v).toList ++ [.string s]) ++ (numc n).toList := rfl
    rw [e, List.getElem?_append_right (by show 22 ≤ 22 + j; omega)]
    have : 22 + j - ((txc t u v).toList ++ [Value.string s]).length = j := by show 22 + j - 22 = j; omega
    rw [this])
theorem tx_tip (h : w.rangeAt b o (txc t u v).toList) : w.rangeAt b (o + 2) (numc t.ti).toList :=
  range_sub h 2 _ (fun j hj => by
    have : j = 0 ∨ j = 1 ∨ j = 2 ∨ j = 3 := by have : j < 4 := hj; omega
    rcases this with rfl | rfl | rfl | rfl <;> rfl)
theorem tx_cap (h : w.rangeAt b o (txc t u v).toList) : w.rangeAt b (o + 6) (numc t.ca).toList :=
  range_sub h 6 _ (fun j hj => by
    have : j = 0 ∨ j = 1 ∨ j = 2 ∨ j = 3 := by have : j < 4 := hj; omega
    rcases this with rfl | rfl | rfl | rfl <;> rfl)
theorem ask_str (h : w.rangeAt b o (askc t u v s n).toList) : w.cell? ⟨b, o + 21, none⟩ = some (.string s) := h 21 _ rfl
end
end Go.Proofs.Ytapjonmgjccpbaa
end
section
set_option linter.unusedSimpArgs false
set_option linter.unusedVariables false
namespace Go.Proofs.Ytapjonmgjccpbaa
open Go.RowKit

/-! The model's own Sub64. -/
def sub64Row : Array Value → Sem Value := fun args => do
  let (x, y, b) ← Extern.MathBitsCarry.three "Sub64" args
  pure (Extern.MathBitsCarry.pair ((x + Extern.MathBitsCarry.m64 - y - b) % Extern.MathBitsCarry.m64) (if x < y + b then 1 else 0))
theorem run_sub64Row (x y b : Nat) (hb : b ≤ 1) (w : World) :
    (sub64Row #[.int .u64 x, .int .u64 y, .int .u64 b]).run Try.prog w =
      .ok (.tuple #[.int .u64 (((x + 18446744073709551616 - y - b) % 18446744073709551616 : Nat) : Int), .int .u64 ((if x < y + b then 1 else 0 : Nat) : Int)]) w := by
  have : b = 0 ∨ b = 1 := by omega
  rcases this with rfl | rfl <;> rfl
theorem run39 (x y c : Int) (hc : 0 ≤ c ∧ c ≤ 1) (hx : 0 ≤ x ∧ x < 18446744073709551616) (hy : 0 ≤ y ∧ y < 18446744073709551616) (w : World) :
    (callFunc 75 #[.int .u64 x, .int .u64 y, .int .u64 c]).run Try.prog w =
      .ok (.value (.tuple #[.int .u64 (lo64 (x - y - c)), .int .u64 (bor x y c)])) w := by
  obtain ⟨X, rfl⟩ := Int.eq_ofNat_of_zero_le hx.1
  obtain ⟨Y, rfl⟩ := Int.eq_ofNat_of_zero_le hy.1
  obtain ⟨C, rfl⟩ := Int.eq_ofNat_of_zero_le hc.1
  rw [run_callFunc_extern Try.func75 (by kernel_rfl) (by kernel_rfl) (by kernel_rfl) (e := sub64Row) (by kernel_rfl), run_sub64Row X Y C (by omega)]
  simp only [Result.andThen]
  have e1 : (((X + 18446744073709551616 - Y - C) % 18446744073709551616 : Nat) : Int) = lo64 ((X : Int) - Y - C) := by unfold lo64; omega
  have e2 : (((if X < Y + C then 1 else 0 : Nat)) : Int) = bor X Y C := by unfold bor; split <;> split <;> omega
  rw [e1, e2]
end Go.Proofs.Ytapjonmgjccpbaa
end
section
set_option linter.unusedSimpArgs false
set_option linter.unusedVariables false
namespace Go.Proofs.Ytapjonmgjccpbaa
open Go.RowKit

set_option maxHeartbeats 1000000 in
theorem sub (n m : Nat) (hn : n < M256) (hm : m < M256) (w : World) :
    Calls Try.prog 45 #[V n, V m] w fun e w' => e = .returned (.tuple #[V (subV n m), .int .i64 (subOkE n m)]) ∧ Below w.heap.size w w' := by
  have Hn : Hid (n < M256) := hn
  have Hm : Hid (m < M256) := hm
  clear hn hm
  go_enter Try.func45, Try.ntmps45
  go_wp2
  go_loopw [7, 9] (fun c i wr => ∃ (k : Nat) (x0 x1 x2 x3 cc : Int), k ≤ 4 ∧ c = .int .u64 cc ∧ i = .int .i64 k ∧ Bk wr w.heap.size (A4 (lb n 0) (lb n 1) (lb n 2) (lb n 3)) 26 ∧ Bk wr (w.heap.size + 1) (A4 (lb m 0) (lb m 1) (lb m 2) (lb m 3)) 26 ∧ Bk wr (w.heap.size + 1 + 1) (A4 0 0 0 0) 26 ∧ Bk wr (w.heap.size + 1 + 1 + 1) (A4 x0 x1 x2 x3) 26 ∧ Below w.heap.size w wr ∧ SubInv k n m x0 x1 x2 x3 cc) (fun _ i _ => 4 - (intOf i).toNat)
  case atStart =>
    refine ⟨0, 0, 0, 0, 0, 0, by omega, rfl, rfl, ?_, ?_, ?_, ?_, ?_, subInv0 n m⟩
    · exact (((Bk.new _ _ _).alloc _).alloc _).alloc _
    · exact ((Bk.new' _ _ _ (by simp)).alloc _).alloc _
    · exact (Bk.new' _ _ _ (by simp)).alloc _
    · exact Bk.new' _ _ _ (by simp)
    · exact ((((Below.refl _ _).alloc (Nat.le_refl _) _).alloc (by simp) _).alloc (by simp; omega) _).alloc (by simp; omega) _
  case round =>
    obtain ⟨k, x0, x1, x2, x3, cc, hk, rfl, rfl, ha, hb, hz, hx, hbl, hinv⟩ := hrel
    have hak := ha.cell k
    have hbk := hb.cell k
    have hxk := hx.cell k
    have hxf := hx.frozen k
    have hrun := fun w => run39 (lb n k) (lb m k) cc (subInv_c hinv) (lb_bd _ _) (lb_bd _ _) w
    have hk' : k = 0 ∨ k = 1 ∨ k = 2 ∨ k = 3 ∨ k = 4 := by omega
    rcases hk' with rfl | rfl | rfl | rfl | rfl
    · simp only [List.getElem?_toArray, List.getElem?_cons_zero, List.getElem?_cons_succ] at hak hbk hxk
      have st := subStep0 n m x0 x1 x2 x3 cc hinv
      go_wp2
      go_region
      go_wp2
      go_roundw
      case rel => exact ⟨1, _, x1, x2, x3, _, by omega, rfl, rfl, ha.drew.other (by simp <;> omega) _, hb.drew.other (by simp <;> omega) _, hz.drew.other (by simp) _, hx.drew.set 0 _ rfl, hbl.drew.setCell (by simp; omega) _, st⟩
      case measure => simp [intOf]
    · simp only [List.getElem?_toArray, List.getElem?_cons_zero, List.getElem?_cons_succ] at hak hbk hxk
      have st := subStep1 n m x0 x1 x2 x3 cc hinv
      go_wp2
      go_region
      go_wp2
      go_roundw
      case rel => exact ⟨2, x0, _, x2, x3, _, by omega, rfl, rfl, ha.drew.other (by simp <;> omega) _, hb.drew.other (by simp <;> omega) _, hz.drew.other (by simp) _, hx.drew.set 1 _ rfl, hbl.drew.setCell (by simp; omega) _, st⟩
      case measure => simp [intOf]
    · simp only [List.getElem?_toArray, List.getElem?_cons_zero, List.getElem?_cons_succ] at hak hbk hxk
      have st := subStep2 n m x0 x1 x2 x3 cc hinv
      go_wp2
      go_region
      go_wp2
      go_roundw
      case rel => exact ⟨3, x0, x1, _, x3, _, by omega, rfl, rfl, ha.drew.other (by simp <;> omega) _, hb.drew.other (by simp <;> omega) _, hz.drew.other (by simp) _, hx.drew.set 2 _ rfl, hbl.drew.setCell (by simp; omega) _, st⟩
      case measure => simp [intOf]
    · simp only [List.getElem?_toArray, List.getElem?_cons_zero, List.getElem?_cons_succ] at hak hbk hxk
      have st := subStep3 n m x0 x1 x2 x3 cc hinv
      go_wp2
      go_region
      go_wp2
      go_roundw
      case rel => exact ⟨4, x0, x1, x2, _, _, by omega, rfl, rfl, ha.drew.other (by simp <;> omega) _, hb.drew.other (by simp <;> omega) _, hz.drew.other (by simp) _, hx.drew.set 3 _ rfl, hbl.drew.setCell (by simp; omega) _, st⟩
      case measure => simp [intOf]
    · have hx0 := hx.cell 0
      have hx1 := hx.cell 1
      have hx2 := hx.cell 2
      have hx3 := hx.cell 3
      have hz0 := hz.cell 0
      have hz1 := hz.cell 1
      have hz2 := hz.cell 2
      have hz3 := hz.cell 3
      have hf0 := hz.frozen 0
      have hf1 := hz.frozen 1
      have hf2 := hz.frozen 2
      have hf3 := hz.frozen 3
      simp only [List.getElem?_toArray, List.getElem?_cons_zero, List.getElem?_cons_succ] at hx0 hx1 hx2 hx3 hz0 hz1 hz2 hz3
      clear hak hbk hxk hxf hrun
      have he := subEnd n m Hn.out Hm.out _ _ _ _ _ hinv
      rcases he with ⟨rfl, hlt, rfl, rfl, rfl, rfl⟩ | ⟨rfl, hge⟩
      · have HL : Hid (m ≤ n) := hlt
        clear hlt
        go_wp2
        refine bodyPost_ret (v := .tuple #[V (n - m), .int .i64 0]) ?_ rfl ⟨?_, ?_⟩
        · simp [results, Try.results45, go_sem, hz0, hz1, hz2, hz3]
        · have HL' := HL.out
          simp [subV, subOk, subOkE, HL']
        · exact (((hbl.setCell (by simp; omega) _).setCell (by simp; omega) _).setCell (by simp; omega) _).setCell (by simp; omega) _
      · have HL : Hid (¬ (m ≤ n)) := hge
        clear hge
        go_wp2
        refine bodyPost_ret (v := .tuple #[.agg (A4 0 0 0 0), .int .i64 8]) ?_ rfl ⟨?_, ?_⟩
        · simp [results, Try.results45, go_sem, hz0, hz1, hz2, hz3]
        · have HL' := HL.out
          simp [subV, subOk, subOkE, HL', lb_zero]
        · exact (((hbl.setCell (by simp; omega) _).setCell (by simp; omega) _).setCell (by simp; omega) _).setCell (by simp; omega) _
end Go.Proofs.Ytapjonmgjccpbaa
end
section
set_option linter.unusedSimpArgs false
set_option linter.unusedVariables false
namespace Go.Proofs.Ytapjonmgjccpbaa
open Go.RowKit

/-! tx.Pays. -/
def pyV (t : TX) (b : Nat) : Nat := if TxOk t then (if b ≤ t.ca then (if t.ti < t.ca - b then t.ti else t.ca - b) else 0) else 0
def pyE (t : TX) (b : Nat) : Int := if TxOk t then (if b ≤ t.ca then 0 else 11) else 1
set_option maxRecDepth 100000 in
set_option maxHeartbeats 4000000 in
theorem pays (t : TX) (aH aB : Option Addr) (cH cB : Nat) (b : Nat) (w : World) (hw : TXw t) (hr : RT w t (.slice aH t.hs.length cH) (.slice aB t.bs.length cB)) (hb : b < M256) :
    Calls Try.prog 17 #[.agg (txc t (.slice aH t.hs.length cH) (.slice aB t.bs.length cB)), V b] w fun e w' => e = .returned (.tuple #[V (pyV t b), .int .i64 (pyE t b)]) ∧ Below w.heap.size w w' := by
  have hca := hw.ca
  have hti := hw.ti
  have HS : Hid (∀ w, Calls Try.prog 45 #[V t.ca, V b] w fun e w' => e = .returned (.tuple #[V (subV t.ca b), .int .i64 (subOkE t.ca b)]) ∧ Below w.heap.size w w') := fun w => sub _ _ hw.ca hb w
  have HC : Hid (∀ d, d < M256 → ∀ w, Calls Try.prog 20 #[V t.ti, V d] w fun e w' => e = .returned (.int .i64 (cmpV t.ti d)) ∧ Below w.heap.size w w') := fun d hd w => cmp _ _ hti hd w
  have HK : Hid (∀ W, Below w.heap.size w W → Calls Try.prog 23 #[.agg (txc t (.slice aH t.hs.length cH) (.slice aB t.bs.length cB))] W fun e w' => e = .returned (.int .i64 (cosE t)) ∧ Below W.heap.size W w') := fun W hW => check7 t aH aB cH cB W hw (hr.below hW)
  clear hw hr
  obtain ⟨wr, hwr⟩ : ∃ wr, wr = ((w.alloc (.cells (txc t (.slice aH t.hs.length cH) (.slice aB t.bs.length cB)) 30)).alloc (.cells (A4 (lb (b) 0) (lb (b) 1) (lb (b) 2) (lb (b) 3)) 26)).alloc (.cells (A4 0 0 0 0) 26) := ⟨_, rfl⟩
  go_enter Try.func17, Try.ntmps17
  go_upto_region 1 with fail
  rw [← hwr]
  have bX : Bk wr w.heap.size (txc t (.slice aH t.hs.length cH) (.slice aB t.bs.length cB)) 30 := by rw [hwr]; exact ((Bk.new _ _ _).alloc _).alloc _
  have bY : Bk wr (w.heap.size + 1) (A4 (lb (b) 0) (lb (b) 1) (lb (b) 2) (lb (b) 3)) 26 := by rw [hwr]; exact (Bk.new' _ _ _ (by simp)).alloc _
  have bR : Bk wr (w.heap.size + 1 + 1) (A4 0 0 0 0) 26 := by rw [hwr]; exact Bk.new' _ _ _ (by simp)
  have hB : Below w.heap.size w wr := by rw [hwr]; exact (((Below.refl _ _).alloc (Nat.le_refl _) _).alloc (by simp) _).alloc (by simp; omega) _
  clear hwr
  obtain ⟨X, hX⟩ : ∃ X, X = w.heap.size := ⟨_, rfl⟩
  have HX : Hid (X = w.heap.size) := hX
  rw [← hX] at bX bY bR ⊢
  have lX := bX.lt
  have lR := bR.lt
  have HB : Hid (Below w.heap.size w wr) := hB
  have HBX : Hid (Bk wr X (txc t (.slice aH t.hs.length cH) (.slice aB t.bs.length cB)) 30 ∧ Bk wr (X + 1 + 1) (A4 0 0 0 0) 26) := ⟨bX, bR⟩
  have x6 := bX.cell 6
  have x7 := bX.cell 7
  have x8 := bX.cell 8
  have x9 := bX.cell 9
  simp only [List.getElem?_toArray, List.getElem?_cons_zero, List.getElem?_cons_succ] at x6 x7 x8 x9
  have y0 := bY.cell 0
  have y1 := bY.cell 1
  have y2 := bY.cell 2
  have y3 := bY.cell 3
  simp only [List.getElem?_toArray, List.getElem?_cons_zero, List.getElem?_cons_succ] at y0 y1 y2 y3
  have HXX : Hid (Bk wr X (txc t (.slice aH t.hs.length cH) (.slice aB t.bs.length cB)) 30) := HBX.out.1
  have HY : Hid (Bk wr (X + 1) (A4 (lb (b) 0) (lb (b) 1) (lb (b) 2) (lb (b) 3)) 26) := bY
  have lY := bY.lt
  clear x6 x7 x8 x9 y0 y1 y2 y3
  clear bX bY bR hB hX
  go_wp2_with (refine wpList_load_tx rfl _ rfl rfl HXX.out ?_)
  refine (HK.out _ HB.out).mono ?_
  rintro e w0 ⟨rfl, hb0⟩
  have bX := HXX.out.below hb0 lX
  have bR := HBX.out.2.below hb0 lR
  have bY := HY.out.below hb0 lY
  have hB := HB.out.trans (hb0.mono HB.out.size)
  clear hb0 HXX HY HBX HB lX lR lY HK
  have lX := bX.lt
  have lR := bR.lt
  have HB : Hid (Below w.heap.size w w0) := hB
  have HBX : Hid (Bk w0 X (txc t (.slice aH t.hs.length cH) (.slice aB t.bs.length cB)) 30 ∧ Bk w0 (X + 1 + 1) (A4 0 0 0 0) 26) := ⟨bX, bR⟩
  by_cases hok : TxOk t
  case neg =>
    have eE : cosE t = 1 := if_neg hok
    have HV : Hid (pyV t b = 0 ∧ pyE t b = 1) := ⟨if_neg hok, if_neg hok⟩
    rw [eE]
    have r0 := bR.cell 0
    have rf0 := bR.frozen 0
    have r1 := bR.cell 1
    have rf1 := bR.frozen 1
    have r2 := bR.cell 2
    have rf2 := bR.frozen 2
    have r3 := bR.cell 3
    have rf3 := bR.frozen 3
    simp only [List.getElem?_toArray, List.getElem?_cons_zero, List.getElem?_cons_succ] at r0 r1 r2 r3
    have bQ : Hid (Bk ((((w0.setCell ⟨X + 1 + 1, 0, none⟩ (.int .u64 0)).setCell ⟨X + 1 + 1, 1, none⟩ (.int .u64 0)).setCell ⟨X + 1 + 1, 2, none⟩ (.int .u64 0)).setCell ⟨X + 1 + 1, 3, none⟩ (.int .u64 0)) (X + 1 + 1) (A4 0 0 0 0) 26) := set4_Bk bR _ _ _ _
    clear bX bR bY hB eE hok
    go_wp2_with fail
    have s0 := bQ.out.cell 0
    have s1 := bQ.out.cell 1
    have s2 := bQ.out.cell 2
    have s3 := bQ.out.cell 3
    simp only [List.getElem?_toArray, List.getElem?_cons_zero, List.getElem?_cons_succ] at s0 s1 s2 s3
    refine bodyPost_ret (v := .tuple #[V 0, .int .i64 1]) ?_ rfl ⟨by rw [HV.out.1, HV.out.2], set4_below HB.out (b := X + 1 + 1) (by rw [HX.out]; omega) _ _ _ _⟩
    rw [V_zero]
    simp [results, Try.results17, go_sem, s0, s1, s2, s3]
  have eE : cosE t = 0 := if_pos hok
  have HVV : Hid (pyV t b = (if b ≤ t.ca then (if t.ti < t.ca - b then t.ti else t.ca - b) else 0) ∧ pyE t b = (if b ≤ t.ca then 0 else 11)) := ⟨if_pos hok, if_pos hok⟩
  rw [eE]
  have x6 := bX.cell 6
  have x7 := bX.cell 7
  have x8 := bX.cell 8
  have x9 := bX.cell 9
  simp only [List.getElem?_toArray, List.getElem?_cons_zero, List.getElem?_cons_succ] at x6 x7 x8 x9
  have y0 := bY.cell 0
  have y1 := bY.cell 1
  have y2 := bY.cell 2
  have y3 := bY.cell 3
  simp only [List.getElem?_toArray, List.getElem?_cons_zero, List.getElem?_cons_succ] at y0 y1 y2 y3
  clear bX bY bR hB eE
  go_wp2_with fail
  refine (HS.out _).mono ?_
  rintro e w1 ⟨rfl, hb1⟩
  have bX1 := HBX.out.1.below hb1 lX
  have bR1 := HBX.out.2.below hb1 lR
  have lX1 := bX1.lt
  have lR1 := bR1.lt
  have HB1 : Hid (Below w.heap.size w w1) := HB.out.trans (hb1.mono HB.out.size)
  have HBX1 : Hid (Bk w1 X (txc t (.slice aH t.hs.length cH) (.slice aB t.bs.length cB)) 30 ∧ Bk w1 (X + 1 + 1) (A4 0 0 0 0) 26) := ⟨bX1, bR1⟩
  clear x6 x7 x8 x9 y0 y1 y2 y3 HB HBX hb1
  by_cases hle : b ≤ t.ca
  · rw [show subOkE t.ca b = 0 from if_pos hle, show subV t.ca b = t.ca - b from if_pos hle]
    have HC2 : Hid (∀ w, Calls Try.prog 20 #[V t.ti, V (t.ca - b)] w fun e w' => e = .returned (.int .i64 (cmpV t.ti (t.ca - b))) ∧ Below w.heap.size w w') := fun w => HC.out _ (by omega) w
    have HV : Hid (pyV t b = (if t.ti < t.ca - b then t.ti else t.ca - b) ∧ pyE t b = 0) := ⟨HVV.out.1.trans (if_pos hle), HVV.out.2.trans (if_pos hle)⟩
    clear HVV
    generalize hd : t.ca - b = d at *
    have bD := Bk.new w1 (A4 (lb (d) 0) (lb (d) 1) (lb (d) 2) (lb (d) 3)) 26
    have bX2 := bX1.alloc (.cells (A4 (lb (d) 0) (lb (d) 1) (lb (d) 2) (lb (d) 3)) 26)
    have bR2 := bR1.alloc (.cells (A4 (lb (d) 0) (lb (d) 1) (lb (d) 2) (lb (d) 3)) 26)
    have hB2 : Below w.heap.size w (w1.alloc (.cells (A4 (lb (d) 0) (lb (d) 1) (lb (d) 2) (lb (d) 3)) 26)) := HB1.out.alloc HB1.out.size _
    obtain ⟨w2, hw2⟩ : ∃ w2, w2 = w1.alloc (.cells (A4 (lb (d) 0) (lb (d) 1) (lb (d) 2) (lb (d) 3)) 26) := ⟨_, rfl⟩
    obtain ⟨D, hD⟩ : ∃ D, D = w1.heap.size := ⟨_, rfl⟩
    have HW : Hid (w2 = w1.alloc (.cells (A4 (lb (d) 0) (lb (d) 1) (lb (d) 2) (lb (d) 3)) 26) ∧ D = w1.heap.size) := ⟨hw2, hD⟩
    rw [← hw2] at bD bX2 bR2 hB2
    rw [← hD] at bD
    clear hw2 hD bX1 bR1
    go_upto_region 7 with fail
    rw [← HW.out.1, ← HW.out.2]
    have hDX : X + 1 + 1 < D := by rw [HW.out.2]; exact lR1
    have x2 := bX2.cell 2
    have x3 := bX2.cell 3
    have x4 := bX2.cell 4
    have x5 := bX2.cell 5
    simp only [List.getElem?_toArray, List.getElem?_cons_zero, List.getElem?_cons_succ] at x2 x3 x4 x5
    have d0 := bD.cell 0
    have d1 := bD.cell 1
    have d2 := bD.cell 2
    have d3 := bD.cell 3
    simp only [List.getElem?_toArray, List.getElem?_cons_zero, List.getElem?_cons_succ] at d0 d1 d2 d3
    have HB2 : Hid (Below w.heap.size w w2 ∧ Bk w2 X (txc t (.slice aH t.hs.length cH) (.slice aB t.bs.length cB)) 30 ∧ Bk w2 (X + 1 + 1) (A4 0 0 0 0) 26 ∧ Bk w2 D (A4 (lb (d) 0) (lb (d) 1) (lb (d) 2) (lb (d) 3)) 26) := ⟨hB2, bX2, bR2, bD⟩
    have lX2 := bX2.lt
    have lR2 := bR2.lt
    have lD2 := bD.lt
    clear bD bX2 bR2 hB2 HW HB1 HBX1 lX1 lR1
    go_wp2_with fail
    refine (HC2.out _).mono ?_
    rintro e w3 ⟨rfl, hb3⟩
    have bX3 := HB2.out.2.1.below hb3 lX2
    have bR3 := HB2.out.2.2.1.below hb3 lR2
    have bD3 := HB2.out.2.2.2.below hb3 lD2
    have HB3 : Hid (Below w.heap.size w w3) := HB2.out.1.trans (hb3.mono HB2.out.1.size)
    have lR3 := bR3.lt
    clear x2 x3 x4 x5 d0 d1 d2 d3 hb3 HB2
    have r0 := bR3.cell 0
    have rf0 := bR3.frozen 0
    have r1 := bR3.cell 1
    have rf1 := bR3.frozen 1
    have r2 := bR3.cell 2
    have rf2 := bR3.frozen 2
    have r3 := bR3.cell 3
    have rf3 := bR3.frozen 3
    simp only [List.getElem?_toArray, List.getElem?_cons_zero, List.getElem?_cons_succ] at r0 r1 r2 r3
    by_cases hlt : t.ti < d
    · have hc : cmpV t.ti d < 0 := by unfold cmpV; rw [if_pos hlt]; omega
      rw [if_pos hlt] at HV
      have x2 := bX3.cell 2
      have x3 := bX3.cell 3
      have x4 := bX3.cell 4
      have x5 := bX3.cell 5
      simp only [List.getElem?_toArray, List.getElem?_cons_zero, List.getElem?_cons_succ] at x2 x3 x4 x5
      generalize cmpV t.ti d = cv at *
      clear bX3 bR3 bD3
      go_wp2_with fail
      refine bodyPost_ret (v := .tuple #[V t.ti, .int .i64 0]) ?_ rfl ⟨by rw [HV.out.1, HV.out.2], ?_⟩
      · simp [results, Try.results17, go_sem, r0, r1, r2, r3]
      · exact set4_below HB3.out (by rw [HX.out]; omega) _ _ _ _
    · have hc : ¬ cmpV t.ti d < 0 := by unfold cmpV; rw [if_neg hlt]; split <;> omega
      rw [if_neg hlt] at HV
      have d0 := bD3.cell 0
      have d1 := bD3.cell 1
      have d2 := bD3.cell 2
      have d3 := bD3.cell 3
      simp only [List.getElem?_toArray, List.getElem?_cons_zero, List.getElem?_cons_succ] at d0 d1 d2 d3
      generalize cmpV t.ti d = cv at *
      clear bX3 bR3 bD3
      go_wp2_with fail
      refine bodyPost_ret (v := .tuple #[V d, .int .i64 0]) ?_ rfl ⟨by rw [HV.out.1, HV.out.2], ?_⟩
      · simp [results, Try.results17, go_sem, r0, r1, r2, r3]
      · exact set4_below HB3.out (by rw [HX.out]; omega) _ _ _ _
  · rw [show subOkE t.ca b = 8 from if_neg hle, show subV t.ca b = 0 from if_neg hle, V_zero]
    have HV : Hid (pyV t b = 0 ∧ pyE t b = 11) := ⟨HVV.out.1.trans (if_neg hle), HVV.out.2.trans (if_neg hle)⟩
    have r0 := bR1.cell 0
    have rf0 := bR1.frozen 0
    have r1 := bR1.cell 1
    have rf1 := bR1.frozen 1
    have r2 := bR1.cell 2
    have rf2 := bR1.frozen 2
    have r3 := bR1.cell 3
    have rf3 := bR1.frozen 3
    simp only [List.getElem?_toArray, List.getElem?_cons_zero, List.getElem?_cons_succ] at r0 r1 r2 r3
    have bQ : Hid (Bk (((((w1.setCell ⟨X + 1 + 1, 0, none⟩ (.int .u64 0)).setCell ⟨X + 1 + 1, 1, none⟩ (.int .u64 0)).setCell ⟨X + 1 + 1, 2, none⟩ (.int .u64 0)).setCell ⟨X + 1 + 1, 3, none⟩ (.int .u64 0)).alloc (.cells (A4 0 0 0 0) 26)) (X + 1 + 1) (A4 0 0 0 0) 26) := (set4_Bk bR1 _ _ _ _).alloc _
    clear bX1 bR1
    go_wp2_with fail
    have s0 := bQ.out.cell 0
    have s1 := bQ.out.cell 1
    have s2 := bQ.out.cell 2
    have s3 := bQ.out.cell 3
    simp only [List.getElem?_toArray, List.getElem?_cons_zero, List.getElem?_cons_succ] at s0 s1 s2 s3
    have HBz := set4_below HB1.out (b := X + 1 + 1) (by rw [HX.out]; omega) (.int .u64 0) (.int .u64 0) (.int .u64 0) (.int .u64 0)
    refine bodyPost_ret (v := .tuple #[V 0, .int .i64 11]) ?_ rfl ⟨by rw [HV.out.1, HV.out.2], HBz.alloc HBz.size _⟩
    rw [V_zero]
    simp [results, Try.results17, go_sem, s0, s1, s2, s3]
end Go.Proofs.Ytapjonmgjccpbaa
end

import Derived.Test.YtljhhdpeakencaaJ4
import Derived.Test.YtljhhdpeakencaaJ2
set_option linter.unusedSimpArgs false
set_option linter.unusedVariables false
namespace Go.Proofs.Ytljhhdpeakencaa
open Go.RowKit

/-! The page's counts. -/
theorem Turn.more {w w1 : World} {b : Nat} {vs : Array Value} {t : TypeId} (h : Turn w w1 b vs t) (i : Nat) (u : Value) {vs' : Array Value} (e : vs.setIfInBounds i u = vs') : Turn w (w1.setCell ⟨b, i, none⟩ u) b vs' t := by
  subst e; exact h.trans (Turn.set h.blk i u)
set_option maxRecDepth 100000 in
set_option maxHeartbeats 2000000 in
theorem pc_offN (w : World) (d : Nat) (LV SV NV : Value) (left bad : Int) (armed off hurt : Bool) (f : Int) (h : Bk w d (pkc LV SV NV left bad armed off hurt) 101) (ho : off = true) (ha : armed = false) :
    Calls Try.prog 79 #[.pointer (some ⟨d, 0, none⟩), .int .i64 f] w fun e w' => e = .returned (.int .i64 13) ∧ Turn w w' d (pkc LV SV NV left bad false true hurt) 101 := by
  have HB : Hid (Bk w d (pkc LV SV NV left bad armed off hurt) 101) := h
  have hd := h.lt
  have c3 := h.cell 3
  have c4 := h.cell 4
  have c5 := h.cell 5
  have c6 := h.cell 6
  have c7 := h.cell 7
  have f3 := h.frozen 3
  have f4 := h.frozen 4
  have f6 := h.frozen 6
  have f7 := h.frozen 7
  simp only [List.getElem?_toArray, List.getElem?_cons_zero, List.getElem?_cons_succ] at c3 c4 c5 c6 c7
  clear h
  subst ho
  subst ha
  cases hurt
  all_goals
    go_enter Try.func79, Try.ntmps79
    go_wp2_with (go_at_call 76; refine (num9 _ _ _).mono ?_; rintro e w9 ⟨rfl, rfl⟩)
    go_ret
    exact ⟨rfl, Turn.refl HB.out⟩
set_option maxRecDepth 100000 in
set_option maxHeartbeats 2000000 in
theorem pc_offO (w : World) (d : Nat) (LV SV NV : Value) (left bad : Int) (armed off hurt : Bool) (f : Int) (h : Bk w d (pkc LV SV NV left bad armed off hurt) 101) (ho : off = true) (ha : armed = true) (hl : wrap64 (left - 1) ≤ 0) :
    Calls Try.prog 79 #[.pointer (some ⟨d, 0, none⟩), .int .i64 f] w fun e w' => e = .returned (.int .i64 13) ∧ Turn w w' d (pkc LV SV NV (wrap64 (left - 1)) bad true true hurt) 101 := by
  have HB : Hid (Bk w d (pkc LV SV NV left bad armed off hurt) 101) := h
  have hd := h.lt
  have c3 := h.cell 3
  have c4 := h.cell 4
  have c5 := h.cell 5
  have c6 := h.cell 6
  have c7 := h.cell 7
  have f3 := h.frozen 3
  have f4 := h.frozen 4
  have f6 := h.frozen 6
  have f7 := h.frozen 7
  simp only [List.getElem?_toArray, List.getElem?_cons_zero, List.getElem?_cons_succ] at c3 c4 c5 c6 c7
  clear h
  subst ho
  subst ha
  cases hurt
  all_goals
    go_enter Try.func79, Try.ntmps79
    go_wp2_with (go_at_call 76; refine (num9 _ _ _).mono ?_; rintro e w9 ⟨rfl, rfl⟩)
    go_ret
    exact ⟨rfl, ((Turn.refl HB.out).more 3 (.int .i64 (wrap64 (left - 1))) rfl).more 6 (.bool true) rfl⟩
set_option maxRecDepth 100000 in
set_option maxHeartbeats 2000000 in
theorem pc_offP (w : World) (d : Nat) (LV SV NV : Value) (left bad : Int) (armed off hurt : Bool) (f : Int) (h : Bk w d (pkc LV SV NV left bad armed off hurt) 101) (ho : off = true) (ha : armed = true) (hl : ¬ wrap64 (left - 1) ≤ 0) :
    Calls Try.prog 79 #[.pointer (some ⟨d, 0, none⟩), .int .i64 f] w fun e w' => e = .returned (.int .i64 13) ∧ Turn w w' d (pkc LV SV NV (wrap64 (left - 1)) bad true true hurt) 101 := by
  have HB : Hid (Bk w d (pkc LV SV NV left bad armed off hurt) 101) := h
  have hd := h.lt
  have c3 := h.cell 3
  have c4 := h.cell 4
  have c5 := h.cell 5
  have c6 := h.cell 6
  have c7 := h.cell 7
  have f3 := h.frozen 3
  have f4 := h.frozen 4
  have f6 := h.frozen 6
  have f7 := h.frozen 7
  simp only [List.getElem?_toArray, List.getElem?_cons_zero, List.getElem?_cons_succ] at c3 c4 c5 c6 c7
  clear h
  subst ho
  subst ha
  cases hurt
  all_goals
    go_enter Try.func79, Try.ntmps79
    go_wp2_with (go_at_call 76; refine (num9 _ _ _).mono ?_; rintro e w9 ⟨rfl, rfl⟩)
    go_ret
    exact ⟨rfl, (Turn.refl HB.out).more 3 (.int .i64 (wrap64 (left - 1))) rfl⟩
set_option maxRecDepth 100000 in
set_option maxHeartbeats 2000000 in
theorem pc_go1 (w : World) (d : Nat) (LV SV NV : Value) (left bad : Int) (armed off hurt : Bool) (f : Int) (h : Bk w d (pkc LV SV NV left bad armed off hurt) 101) (ho : off = false) (ha : armed = true) (hl : left = 1) :
    Calls Try.prog 79 #[.pointer (some ⟨d, 0, none⟩), .int .i64 f] w fun e w' => e = .returned (.int .i64 13) ∧ Turn w w' d (pkc LV SV NV 0 bad true true hurt) 101 := by
  have HB : Hid (Bk w d (pkc LV SV NV left bad armed off hurt) 101) := h
  have hd := h.lt
  have c3 := h.cell 3
  have c4 := h.cell 4
  have c5 := h.cell 5
  have c6 := h.cell 6
  have c7 := h.cell 7
  have f3 := h.frozen 3
  have f4 := h.frozen 4
  have f6 := h.frozen 6
  have f7 := h.frozen 7
  simp only [List.getElem?_toArray, List.getElem?_cons_zero, List.getElem?_cons_succ] at c3 c4 c5 c6 c7
  clear h
  subst ho
  subst ha
  subst hl
  have hw : IntKind.i64.wrap ((1 : Int) - 1) = 0 := IntWalk.i64_in _ (by omega)
  cases hurt
  all_goals
    go_enter Try.func79, Try.ntmps79
    go_wp2_with (go_at_call 76; refine (num9 _ _ _).mono ?_; rintro e w9 ⟨rfl, rfl⟩)
    go_ret
    exact ⟨rfl, ((Turn.refl HB.out).more 3 (.int .i64 0) rfl).more 6 (.bool true) rfl⟩
set_option maxRecDepth 100000 in
set_option maxHeartbeats 2000000 in
theorem pc_NN0 (w : World) (d : Nat) (LV SV NV : Value) (left bad : Int) (armed off hurt : Bool) (f : Int) (h : Bk w d (pkc LV SV NV left bad armed off hurt) 101) (ho : off = false) (ha : armed = false) (hh : hurt = false) (hf : (decide (0 ≤ f) && decide (f ≤ 7)) = true) :
    Calls Try.prog 79 #[.pointer (some ⟨d, 0, none⟩), .int .i64 f] w fun e w' => e = .returned (.int .i64 0) ∧ Turn w w' d (pkc LV SV NV left bad false false false) 101 := by
  have HB : Hid (Bk w d (pkc LV SV NV left bad armed off hurt) 101) := h
  have hd := h.lt
  have c3 := h.cell 3
  have c4 := h.cell 4
  have c5 := h.cell 5
  have c6 := h.cell 6
  have c7 := h.cell 7
  have f3 := h.frozen 3
  have f4 := h.frozen 4
  have f6 := h.frozen 6
  have f7 := h.frozen 7
  simp only [List.getElem?_toArray, List.getElem?_cons_zero, List.getElem?_cons_succ] at c3 c4 c5 c6 c7
  clear h
  subst ho
  subst ha
  subst hh
  go_enter Try.func79, Try.ntmps79
  go_wp2_with (go_at_call 76; refine (num9 _ _ _).mono ?_; rw [hf]; rintro e w9 ⟨rfl, rfl⟩)
  go_ret
  exact ⟨rfl, Turn.refl HB.out⟩
set_option maxRecDepth 100000 in
set_option maxHeartbeats 2000000 in
theorem pc_NN1 (w : World) (d : Nat) (LV SV NV : Value) (left bad : Int) (armed off hurt : Bool) (f : Int) (h : Bk w d (pkc LV SV NV left bad armed off hurt) 101) (ho : off = false) (ha : armed = false) (hh : hurt = false) (hf : (decide (0 ≤ f) && decide (f ≤ 7)) = false) :
    Calls Try.prog 79 #[.pointer (some ⟨d, 0, none⟩), .int .i64 f] w fun e w' => e = .returned (.int .i64 3) ∧ Turn w w' d (pkc LV SV NV left bad false false false) 101 := by
  have HB : Hid (Bk w d (pkc LV SV NV left bad armed off hurt) 101) := h
  have hd := h.lt
  have c3 := h.cell 3
  have c4 := h.cell 4
  have c5 := h.cell 5
  have c6 := h.cell 6
  have c7 := h.cell 7
  have f3 := h.frozen 3
  have f4 := h.frozen 4
  have f6 := h.frozen 6
  have f7 := h.frozen 7
  simp only [List.getElem?_toArray, List.getElem?_cons_zero, List.getElem?_cons_succ] at c3 c4 c5 c6 c7
  clear h
  subst ho
  subst ha
  subst hh
  go_enter Try.func79, Try.ntmps79
  go_wp2_with (go_at_call 76; refine (num9 _ _ _).mono ?_; rw [hf]; rintro e w9 ⟨rfl, rfl⟩)
  go_ret
  exact ⟨rfl, Turn.refl HB.out⟩
set_option maxRecDepth 100000 in
set_option maxHeartbeats 2000000 in
theorem pc_N10 (w : World) (d : Nat) (LV SV NV : Value) (left bad : Int) (armed off hurt : Bool) (f : Int) (h : Bk w d (pkc LV SV NV left bad armed off hurt) 101) (ho : off = false) (ha : armed = false) (hh : hurt = true) (hb : bad = 1) :
    Calls Try.prog 79 #[.pointer (some ⟨d, 0, none⟩), .int .i64 f] w fun e w' => e = .returned (.int .i64 14) ∧ Turn w w' d (pkc LV SV NV left 0 false false false) 101 := by
  have HB : Hid (Bk w d (pkc LV SV NV left bad armed off hurt) 101) := h
  have hd := h.lt
  have c3 := h.cell 3
  have c4 := h.cell 4
  have c5 := h.cell 5
  have c6 := h.cell 6
  have c7 := h.cell 7
  have f3 := h.frozen 3
  have f4 := h.frozen 4
  have f6 := h.frozen 6
  have f7 := h.frozen 7
  simp only [List.getElem?_toArray, List.getElem?_cons_zero, List.getElem?_cons_succ] at c3 c4 c5 c6 c7
  clear h
  subst ho
  subst ha
  subst hh
  subst hb
  have hv : IntKind.i64.wrap ((1 : Int) - 1) = 0 := IntWalk.i64_in _ (by omega)
  go_enter Try.func79, Try.ntmps79
  go_wp2_with (go_at_call 76; refine (num9 _ _ _).mono ?_; rintro e w9 ⟨rfl, rfl⟩)
  go_ret
  exact ⟨rfl, ((Turn.refl HB.out).more 4 (.int .i64 0) rfl).more 7 (.bool false) rfl⟩
set_option maxRecDepth 100000 in
set_option maxHeartbeats 2000000 in
theorem pc_N20 (w : World) (d : Nat) (LV SV NV : Value) (left bad : Int) (armed off hurt : Bool) (f : Int) (h : Bk w d (pkc LV SV NV left bad armed off hurt) 101) (ho : off = false) (ha : armed = false) (hh : hurt = true) (m : Nat) (hb : bad = (m : Int) + 2) (hm : m ≤ 9223372036854775805) (hf : (decide (0 ≤ f) && decide (f ≤ 7)) = true) :
    Calls Try.prog 79 #[.pointer (some ⟨d, 0, none⟩), .int .i64 f] w fun e w' => e = .returned (.int .i64 0) ∧ Turn w w' d (pkc LV SV NV left ((m : Int) + 1) false false true) 101 := by
  have HB : Hid (Bk w d (pkc LV SV NV left bad armed off hurt) 101) := h
  have hd := h.lt
  have c3 := h.cell 3
  have c4 := h.cell 4
  have c5 := h.cell 5
  have c6 := h.cell 6
  have c7 := h.cell 7
  have f3 := h.frozen 3
  have f4 := h.frozen 4
  have f6 := h.frozen 6
  have f7 := h.frozen 7
  simp only [List.getElem?_toArray, List.getElem?_cons_zero, List.getElem?_cons_succ] at c3 c4 c5 c6 c7
  clear h
  subst ho
  subst ha
  subst hh
  subst hb
  have hv : IntKind.i64.wrap ((m : Int) + 2 - 1) = (m : Int) + 1 := by rw [IntWalk.i64_in _ (by omega)]; omega
  go_enter Try.func79, Try.ntmps79
  go_wp2_with (go_at_call 76; refine (num9 _ _ _).mono ?_; rw [hf]; rintro e w9 ⟨rfl, rfl⟩)
  go_ret
  exact ⟨rfl, (Turn.refl HB.out).more 4 (.int .i64 ((m : Int) + 1)) rfl⟩
set_option maxRecDepth 100000 in
set_option maxHeartbeats 2000000 in
theorem pc_N21 (w : World) (d : Nat) (LV SV NV : Value) (left bad : Int) (armed off hurt : Bool) (f : Int) (h : Bk w d (pkc LV SV NV left bad armed off hurt) 101) (ho : off = false) (ha : armed = false) (hh : hurt = true) (m : Nat) (hb : bad = (m : Int) + 2) (hm : m ≤ 9223372036854775805) (hf : (decide (0 ≤ f) && decide (f ≤ 7)) = false) :
    Calls Try.prog 79 #[.pointer (some ⟨d, 0, none⟩), .int .i64 f] w fun e w' => e = .returned (.int .i64 3) ∧ Turn w w' d (pkc LV SV NV left ((m : Int) + 1) false false true) 101 := by
  have HB : Hid (Bk w d (pkc LV SV NV left bad armed off hurt) 101) := h
  have hd := h.lt
  have c3 := h.cell 3
  have c4 := h.cell 4
  have c5 := h.cell 5
  have c6 := h.cell 6
  have c7 := h.cell 7
  have f3 := h.frozen 3
  have f4 := h.frozen 4
  have f6 := h.frozen 6
  have f7 := h.frozen 7
  simp only [List.getElem?_toArray, List.getElem?_cons_zero, List.getElem?_cons_succ] at c3 c4 c5 c6 c7
  clear h
  subst ho
  subst ha
  subst hh
  subst hb
  have hv : IntKind.i64.wrap ((m : Int) + 2 - 1) = (m : Int) + 1 := by rw [IntWalk.i64_in _ (by omega)]; omega
  go_enter Try.func79, Try.ntmps79
  go_wp2_with (go_at_call 76; refine (num9 _ _ _).mono ?_; rw [hf]; rintro e w9 ⟨rfl, rfl⟩)
  go_ret
  exact ⟨rfl, (Turn.refl HB.out).more 4 (.int .i64 ((m : Int) + 1)) rfl⟩
set_option maxRecDepth 100000 in
set_option maxHeartbeats 2000000 in
theorem pc_2N0 (w : World) (d : Nat) (LV SV NV : Value) (left bad : Int) (armed off hurt : Bool) (f : Int) (h : Bk w d (pkc LV SV NV left bad armed off hurt) 101) (ho : off = false) (ha : armed = true) (k : Nat) (hl : left = (k : Int) + 2) (hk : k ≤ 9223372036854775805) (hh : hurt = false) (hf : (decide (0 ≤ f) && decide (f ≤ 7)) = true) :
    Calls Try.prog 79 #[.pointer (some ⟨d, 0, none⟩), .int .i64 f] w fun e w' => e = .returned (.int .i64 0) ∧ Turn w w' d (pkc LV SV NV ((k : Int) + 1) bad true false false) 101 := by
  have HB : Hid (Bk w d (pkc LV SV NV left bad armed off hurt) 101) := h
  have hd := h.lt
  have c3 := h.cell 3
  have c4 := h.cell 4
  have c5 := h.cell 5
  have c6 := h.cell 6
  have c7 := h.cell 7
  have f3 := h.frozen 3
  have f4 := h.frozen 4
  have f6 := h.frozen 6
  have f7 := h.frozen 7
  simp only [List.getElem?_toArray, List.getElem?_cons_zero, List.getElem?_cons_succ] at c3 c4 c5 c6 c7
  clear h
  subst ho
  subst ha
  subst hl
  have hw : IntKind.i64.wrap ((k : Int) + 2 - 1) = (k : Int) + 1 := by rw [IntWalk.i64_in _ (by omega)]; omega
  subst hh
  go_enter Try.func79, Try.ntmps79
  go_wp2_with (go_at_call 76; refine (num9 _ _ _).mono ?_; rw [hf]; rintro e w9 ⟨rfl, rfl⟩)
  go_ret
  exact ⟨rfl, (Turn.refl HB.out).more 3 (.int .i64 ((k : Int) + 1)) rfl⟩
set_option maxRecDepth 100000 in
set_option maxHeartbeats 2000000 in
theorem pc_2N1 (w : World) (d : Nat) (LV SV NV : Value) (left bad : Int) (armed off hurt : Bool) (f : Int) (h : Bk w d (pkc LV SV NV left bad armed off hurt) 101) (ho : off = false) (ha : armed = true) (k : Nat) (hl : left = (k : Int) + 2) (hk : k ≤ 9223372036854775805) (hh : hurt = false) (hf : (decide (0 ≤ f) && decide (f ≤ 7)) = false) :
    Calls Try.prog 79 #[.pointer (some ⟨d, 0, none⟩), .int .i64 f] w fun e w' => e = .returned (.int .i64 3) ∧ Turn w w' d (pkc LV SV NV ((k : Int) + 1) bad true false false) 101 := by
  have HB : Hid (Bk w d (pkc LV SV NV left bad armed off hurt) 101) := h
  have hd := h.lt
  have c3 := h.cell 3
  have c4 := h.cell 4
  have c5 := h.cell 5
  have c6 := h.cell 6
  have c7 := h.cell 7
  have f3 := h.frozen 3
  have f4 := h.frozen 4
  have f6 := h.frozen 6
  have f7 := h.frozen 7
  simp only [List.getElem?_toArray, List.getElem?_cons_zero, List.getElem?_cons_succ] at c3 c4 c5 c6 c7
  clear h
  subst ho
  subst ha
  subst hl
  have hw : IntKind.i64.wrap ((k : Int) + 2 - 1) = (k : Int) + 1 := by rw [IntWalk.i64_in _ (by omega)]; omega
  subst hh
  go_enter Try.func79, Try.ntmps79
  go_wp2_with (go_at_call 76; refine (num9 _ _ _).mono ?_; rw [hf]; rintro e w9 ⟨rfl, rfl⟩)
  go_ret
  exact ⟨rfl, (Turn.refl HB.out).more 3 (.int .i64 ((k : Int) + 1)) rfl⟩
set_option maxRecDepth 100000 in
set_option maxHeartbeats 2000000 in
theorem pc_210 (w : World) (d : Nat) (LV SV NV : Value) (left bad : Int) (armed off hurt : Bool) (f : Int) (h : Bk w d (pkc LV SV NV left bad armed off hurt) 101) (ho : off = false) (ha : armed = true) (k : Nat) (hl : left = (k : Int) + 2) (hk : k ≤ 9223372036854775805) (hh : hurt = true) (hb : bad = 1) :
    Calls Try.prog 79 #[.pointer (some ⟨d, 0, none⟩), .int .i64 f] w fun e w' => e = .returned (.int .i64 14) ∧ Turn w w' d (pkc LV SV NV ((k : Int) + 1) 0 true false false) 101 := by
  have HB : Hid (Bk w d (pkc LV SV NV left bad armed off hurt) 101) := h
  have hd := h.lt
  have c3 := h.cell 3
  have c4 := h.cell 4
  have c5 := h.cell 5
  have c6 := h.cell 6
  have c7 := h.cell 7
  have f3 := h.frozen 3
  have f4 := h.frozen 4
  have f6 := h.frozen 6
  have f7 := h.frozen 7
  simp only [List.getElem?_toArray, List.getElem?_cons_zero, List.getElem?_cons_succ] at c3 c4 c5 c6 c7
  clear h
  subst ho
  subst ha
  subst hl
  have hw : IntKind.i64.wrap ((k : Int) + 2 - 1) = (k : Int) + 1 := by rw [IntWalk.i64_in _ (by omega)]; omega
  subst hh
  subst hb
  have hv : IntKind.i64.wrap ((1 : Int) - 1) = 0 := IntWalk.i64_in _ (by omega)
  go_enter Try.func79, Try.ntmps79
  go_wp2_with (go_at_call 76; refine (num9 _ _ _).mono ?_; rintro e w9 ⟨rfl, rfl⟩)
  go_ret
  exact ⟨rfl, (((Turn.refl HB.out).more 3 (.int .i64 ((k : Int) + 1)) rfl).more 4 (.int .i64 0) rfl).more 7 (.bool false) rfl⟩
set_option maxRecDepth 100000 in
set_option maxHeartbeats 2000000 in
theorem pc_220 (w : World) (d : Nat) (LV SV NV : Value) (left bad : Int) (armed off hurt : Bool) (f : Int) (h : Bk w d (pkc LV SV NV left bad armed off hurt) 101) (ho : off = false) (ha : armed = true) (k : Nat) (hl : left = (k : Int) + 2) (hk : k ≤ 9223372036854775805) (hh : hurt = true) (m : Nat) (hb : bad = (m : Int) + 2) (hm : m ≤ 9223372036854775805) (hf : (decide (0 ≤ f) && decide (f ≤ 7)) = true) :
    Calls Try.prog 79 #[.pointer (some ⟨d, 0, none⟩), .int .i64 f] w fun e w' => e = .returned (.int .i64 0) ∧ Turn w w' d (pkc LV SV NV ((k : Int) + 1) ((m : Int) + 1) true false true) 101 := by
  have HB : Hid (Bk w d (pkc LV SV NV left bad armed off hurt) 101) := h
  have hd := h.lt
  have c3 := h.cell 3
  have c4 := h.cell 4
  have c5 := h.cell 5
  have c6 := h.cell 6
  have c7 := h.cell 7
  have f3 := h.frozen 3
  have f4 := h.frozen 4
  have f6 := h.frozen 6
  have f7 := h.frozen 7
  simp only [List.getElem?_toArray, List.getElem?_cons_zero, List.getElem?_cons_succ] at c3 c4 c5 c6 c7
  clear h
  subst ho
  subst ha
  subst hl
  have hw : IntKind.i64.wrap ((k : Int) + 2 - 1) = (k : Int) + 1 := by rw [IntWalk.i64_in _ (by omega)]; omega
  subst hh
  subst hb
  have hv : IntKind.i64.wrap ((m : Int) + 2 - 1) = (m : Int) + 1 := by rw [IntWalk.i64_in _ (by omega)]; omega
  go_enter Try.func79, Try.ntmps79
  go_wp2_with (go_at_call 76; refine (num9 _ _ _).mono ?_; rw [hf]; rintro e w9 ⟨rfl, rfl⟩)
  go_ret
  exact ⟨rfl, ((Turn.refl HB.out).more 3 (.int .i64 ((k : Int) + 1)) rfl).more 4 (.int .i64 ((m : Int) + 1)) rfl⟩
set_option maxRecDepth 100000 in
set_option maxHeartbeats 2000000 in
theorem pc_221 (w : World) (d : Nat) (LV SV NV : Value) (left bad : Int) (armed off hurt : Bool) (f : Int) (h : Bk w d (pkc LV SV NV left bad armed off hurt) 101) (ho : off = false) (ha : armed = true) (k : Nat) (hl : left = (k : Int) + 2) (hk : k ≤ 9223372036854775805) (hh : hurt = true) (m : Nat) (hb : bad = (m : Int) + 2) (hm : m ≤ 9223372036854775805) (hf : (decide (0 ≤ f) && decide (f ≤ 7)) = false) :
    Calls Try.prog 79 #[.pointer (some ⟨d, 0, none⟩), .int .i64 f] w fun e w' => e = .returned (.int .i64 3) ∧ Turn w w' d (pkc LV SV NV ((k : Int) + 1) ((m : Int) + 1) true false true) 101 := by
  have HB : Hid (Bk w d (pkc LV SV NV left bad armed off hurt) 101) := h
  have hd := h.lt
  have c3 := h.cell 3
  have c4 := h.cell 4
  have c5 := h.cell 5
  have c6 := h.cell 6
  have c7 := h.cell 7
  have f3 := h.frozen 3
  have f4 := h.frozen 4
  have f6 := h.frozen 6
  have f7 := h.frozen 7
  simp only [List.getElem?_toArray, List.getElem?_cons_zero, List.getElem?_cons_succ] at c3 c4 c5 c6 c7
  clear h
  subst ho
  subst ha
  subst hl
  have hw : IntKind.i64.wrap ((k : Int) + 2 - 1) = (k : Int) + 1 := by rw [IntWalk.i64_in _ (by omega)]; omega
  subst hh
  subst hb
  have hv : IntKind.i64.wrap ((m : Int) + 2 - 1) = (m : Int) + 1 := by rw [IntWalk.i64_in _ (by omega)]; omega
  go_enter Try.func79, Try.ntmps79
  go_wp2_with (go_at_call 76; refine (num9 _ _ _).mono ?_; rw [hf]; rintro e w9 ⟨rfl, rfl⟩)
  go_ret
  exact ⟨rfl, ((Turn.refl HB.out).more 3 (.int .i64 ((k : Int) + 1)) rfl).more 4 (.int .i64 ((m : Int) + 1)) rfl⟩
/-- counts, on the page's disk. -/
theorem pcount {w : World} {O : Nat → Nat} {d : Nat} {D : Ds} {gl gs gn cl cs cn : Nat} {lv sv cv : Nat → Value} {left bad : Int} {armed off hurt : Bool} (h : PK w O d D gl gs gn cl cs cn lv sv cv left bad armed off hurt) (f : Int) (bO : D.tO ≤ 9223372036854775807) (bF : D.tF ≤ 9223372036854775807) :
    Calls Try.prog 79 #[.pointer (some ⟨d, 0, none⟩), .int .i64 f] w fun e w' => e = .returned (.int .i64 (cntE D f)) ∧ ∃ left' bad' armed' off' hurt', PK w' O d (cnt D) gl gs gn cl cs cn lv sv cv left' bad' armed' off' hurt' ∧ Fp O w O w' := by
  have fin : ∀ {r : Int} {left' bad' : Int} {armed' off' hurt' : Bool}, r = cntE D f → PN (cnt D) left' bad' armed' off' hurt' → Calls Try.prog 79 #[.pointer (some ⟨d, 0, none⟩), .int .i64 f] w (fun e w' => e = .returned (.int .i64 r) ∧ Turn w w' d (pkc (.slice (some ⟨gl, 0, none⟩) 8 cl) (.slice (some ⟨gs, 0, none⟩) 8 cs) (.slice (some ⟨gn, 0, none⟩) 8 cn) left' bad' armed' off' hurt') 101) → Calls Try.prog 79 #[.pointer (some ⟨d, 0, none⟩), .int .i64 f] w fun e w' => e = .returned (.int .i64 (cntE D f)) ∧ ∃ left' bad' armed' off' hurt', PK w' O d (cnt D) gl gs gn cl cs cn lv sv cv left' bad' armed' off' hurt' ∧ Fp O w O w' := by
    intro r left' bad' armed' off' hurt' hr hp hc
    refine hc.mono ?_
    rintro e w' ⟨rfl, ht⟩
    obtain ⟨r1, r2⟩ := h.turn ht (D' := cnt D) rfl rfl rfl hp
    exact ⟨by rw [hr], left', bad', armed', off', hurt', r1, r2⟩
  have hoff := h.pn.off
  have e13 : (cnt D).off = true → cntE D f = 13 := fun e => if_pos e
  cases hD : D.off with
  | true =>
    have hc : (cnt D).off = true := by show (D.off || _) = true; rw [hD]; rfl
    have pn : ∀ l b a hu, PN (cnt D) l b a true hu := fun l b a hu => ⟨hc.symm, (fun e => by rw [hc] at e; cases e), (fun e => by rw [hc] at e; cases e)⟩
    rw [hD] at hoff
    cases harm : armed with
    | false => rw [harm] at h; exact fin (e13 hc).symm (pn _ _ _ _) (pc_offN w d _ _ _ left bad false off hurt f h.blk hoff rfl)
    | true =>
      rw [harm] at h
      by_cases hl : wrap64 (left - 1) ≤ 0
      · exact fin (e13 hc).symm (pn _ _ _ _) (pc_offO w d _ _ _ left bad true off hurt f h.blk hoff rfl hl)
      · exact fin (e13 hc).symm (pn _ _ _ _) (pc_offP w d _ _ _ left bad true off hurt f h.blk hoff rfl hl)
  | false =>
    rw [hD] at hoff
    obtain ⟨ha1, ha2⟩ := h.pn.arm hD
    obtain ⟨hh1, hh2⟩ := h.pn.hur hD
    by_cases hO1 : D.tO = 1
    · have hc : (cnt D).off = true := by show (D.off || decide (D.tO = 1)) = true; rw [hO1]; simp
      exact fin (e13 hc).symm ⟨hc.symm, (fun e => by rw [hc] at e; cases e), (fun e => by rw [hc] at e; cases e)⟩ (pc_go1 w d _ _ _ left bad armed off hurt f h.blk hoff (by rw [ha1, hO1]; rfl) (by rw [ha2 (by omega), hO1]; rfl))
    · have hc : (cnt D).off = false := by show (D.off || decide (D.tO = 1)) = false; rw [hD]; simp [hO1]
      have eT : (cnt D).tO = D.tO - 1 := rfl
      have eF : (cnt D).tF = D.tF - 1 := rfl
      have nE : ∀ {x : Int}, (if D.tF = 1 then 14 else fndE false f) = x → x = cntE D f := fun {x} e => by unfold cntE; rw [if_neg (by rw [hc]; simp)]; exact e.symm
      have fE1 : (decide (0 ≤ f) && decide (f ≤ 7)) = true → fndE false f = 0 := fun e => by
        simp at e
        unfold fndE; rw [if_neg (by simp), if_neg (by omega)]
      have fE0 : (decide (0 ≤ f) && decide (f ≤ 7)) = false → fndE false f = 3 := fun e => by
        simp at e
        unfold fndE; rw [if_neg (by simp), if_pos (by omega)]
      have hsub : (h.pn.arm hD).1 = ha1 := rfl
      by_cases hO0 : D.tO = 0
      · have haN : armed = false := by rw [ha1, hO0]; rfl
        by_cases hF1 : D.tF = 1
        · exact fin (nE (if_pos hF1)) ⟨hc.symm, fun _ => ⟨by rw [eT, hO0]; rfl, fun e => by rw [eT, hO0] at e; omega⟩, fun _ => ⟨by rw [eF, hF1]; rfl, fun e => by rw [eF, hF1] at e; omega⟩⟩ (pc_N10 w d _ _ _ left bad armed off hurt f h.blk hoff haN (by rw [hh1, hF1]; rfl) (by rw [hh2 (by omega), hF1]; rfl))
        · by_cases hF0 : D.tF = 0
          · have hhN : hurt = false := by rw [hh1, hF0]; rfl
            cases hf : (decide (0 ≤ f) && decide (f ≤ 7)) with
            | false => exact fin (nE ((if_neg hF1).trans (fE0 hf))) ⟨hc.symm, fun _ => ⟨by rw [eT, hO0]; rfl, fun e => by rw [eT, hO0] at e; omega⟩, fun _ => ⟨by rw [eF, hF0]; rfl, fun e => by rw [eF, hF0] at e; omega⟩⟩ (pc_NN1 w d _ _ _ left bad armed off hurt f h.blk hoff haN hhN hf)
            | true => exact fin (nE ((if_neg hF1).trans (fE1 hf))) ⟨hc.symm, fun _ => ⟨by rw [eT, hO0]; rfl, fun e => by rw [eT, hO0] at e; omega⟩, fun _ => ⟨by rw [eF, hF0]; rfl, fun e => by rw [eF, hF0] at e; omega⟩⟩ (pc_NN0 w d _ _ _ left bad armed off hurt f h.blk hoff haN hhN hf)
          · obtain ⟨m, hm⟩ : ∃ m : Nat, D.tF = m + 2 := ⟨D.tF - 2, by omega⟩
            have hhT : hurt = true := by rw [hh1]; simp [hF0]
            have hbv : bad = (m : Int) + 2 := by rw [hh2 hF0, hm]; omega
            cases hf : (decide (0 ≤ f) && decide (f ≤ 7)) with
            | false => exact fin (nE ((if_neg hF1).trans (fE0 hf))) ⟨hc.symm, fun _ => ⟨by rw [eT, hO0]; rfl, fun e => by rw [eT, hO0] at e; omega⟩, fun _ => ⟨by rw [eF, hm]; simp, fun _ => by rw [eF, hm]; omega⟩⟩ (pc_N21 w d _ _ _ left bad armed off hurt f h.blk hoff haN hhT m hbv (by omega) hf)
            | true => exact fin (nE ((if_neg hF1).trans (fE1 hf))) ⟨hc.symm, fun _ => ⟨by rw [eT, hO0]; rfl, fun e => by rw [eT, hO0] at e; omega⟩, fun _ => ⟨by rw [eF, hm]; simp, fun _ => by rw [eF, hm]; omega⟩⟩ (pc_N20 w d _ _ _ left bad armed off hurt f h.blk hoff haN hhT m hbv (by omega) hf)
      · obtain ⟨k, hk⟩ : ∃ k : Nat, D.tO = k + 2 := ⟨D.tO - 2, by omega⟩
        have haT : armed = true := by rw [ha1]; simp [hO0]
        have hlv : left = (k : Int) + 2 := by rw [ha2 hO0, hk]; omega
        by_cases hF1 : D.tF = 1
        · exact fin (nE (if_pos hF1)) ⟨hc.symm, fun _ => ⟨by rw [eT, hk]; simp, fun _ => by rw [eT, hk]; omega⟩, fun _ => ⟨by rw [eF, hF1]; rfl, fun e => by rw [eF, hF1] at e; omega⟩⟩ (pc_210 w d _ _ _ left bad armed off hurt f h.blk hoff haT k hlv (by omega) (by rw [hh1, hF1]; rfl) (by rw [hh2 (by omega), hF1]; rfl))
        · by_cases hF0 : D.tF = 0
          · have hhN : hurt = false := by rw [hh1, hF0]; rfl
            cases hf : (decide (0 ≤ f) && decide (f ≤ 7)) with
            | false => exact fin (nE ((if_neg hF1).trans (fE0 hf))) ⟨hc.symm, fun _ => ⟨by rw [eT, hk]; simp, fun _ => by rw [eT, hk]; omega⟩, fun _ => ⟨by rw [eF, hF0]; rfl, fun e => by rw [eF, hF0] at e; omega⟩⟩ (pc_2N1 w d _ _ _ left bad armed off hurt f h.blk hoff haT k hlv (by omega) hhN hf)
            | true => exact fin (nE ((if_neg hF1).trans (fE1 hf))) ⟨hc.symm, fun _ => ⟨by rw [eT, hk]; simp, fun _ => by rw [eT, hk]; omega⟩, fun _ => ⟨by rw [eF, hF0]; rfl, fun e => by rw [eF, hF0] at e; omega⟩⟩ (pc_2N0 w d _ _ _ left bad armed off hurt f h.blk hoff haT k hlv (by omega) hhN hf)
          · obtain ⟨m, hm⟩ : ∃ m : Nat, D.tF = m + 2 := ⟨D.tF - 2, by omega⟩
            have hhT : hurt = true := by rw [hh1]; simp [hF0]
            have hbv : bad = (m : Int) + 2 := by rw [hh2 hF0, hm]; omega
            cases hf : (decide (0 ≤ f) && decide (f ≤ 7)) with
            | false => exact fin (nE ((if_neg hF1).trans (fE0 hf))) ⟨hc.symm, fun _ => ⟨by rw [eT, hk]; simp, fun _ => by rw [eT, hk]; omega⟩, fun _ => ⟨by rw [eF, hm]; simp, fun _ => by rw [eF, hm]; omega⟩⟩ (pc_221 w d _ _ _ left bad armed off hurt f h.blk hoff haT k hlv (by omega) hhT m hbv (by omega) hf)
            | true => exact fin (nE ((if_neg hF1).trans (fE1 hf))) ⟨hc.symm, fun _ => ⟨by rw [eT, hk]; simp, fun _ => by rw [eT, hk]; omega⟩, fun _ => ⟨by rw [eF, hm]; simp, fun _ => by rw [eF, hm]; omega⟩⟩ (pc_220 w d _ _ _ left bad armed off hurt f h.blk hoff haT k hlv (by omega) hhT m hbv (by omega) hf)
end Go.Proofs.Ytljhhdpeakencaa

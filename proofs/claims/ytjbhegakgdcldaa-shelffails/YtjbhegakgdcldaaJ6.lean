/- Texts joined: Siz Shf ShC ShD ShE. -/
import Derived.Test.YtjbhegakgdcldaaJ2
import Derived.Test.YtjbhegakgdcldaaJ5
import Derived.Test.YtjbhegakgdcldaaJ0
import Derived.Deep.Light
import Derived.Lib.BitFns
import Derived.RangeFuncNested
import Derived.RangeFuncBound
import Derived.RangeFuncCalls
import Derived.RangeFuncLeaves
import Derived.RangeFuncBox
import Derived.Shelf.Abstract
import Derived.Shelf.RegionOpen
import Derived.OwnWalkIn
import Derived.TacticsInMore
import Derived.LoopNIn
import Derived.LoopIn
import Derived.Deep.OwnRows
import Derived.Laws.BytesArg
import Derived.Scope
import Derived.Laws.Bits64
import Derived.Deep.RegionWith
import Derived.Deep.RegionHeld3
section
set_option linter.unusedSimpArgs false
set_option linter.unusedVariables false
namespace Go.Proofs.Ytjbhegakgdcldaa
open Go.RowKit Go.Shelf
attribute [local go_sem] Oper.semAt_some

/-! Package size: Slot, slots, Shelf. -/
def slV (k : Int) : Int := if k = 0 then 128 else if k = 1 then 256 else if k = 2 then 512 else if k = 3 then 1024 else 0
def slE (k : Int) : Int := if 0 ≤ k ∧ k < 4 then 0 else 1
theorem slot (k : Int) (hk : -9223372036854775808 ≤ k ∧ k ≤ 9223372036854775807) (w : World) : Calls Try.prog 67 #[.int .i64 k] w fun e w' => e = .returned (.tuple #[.int .i64 (slV k), .int .i64 (slE k)]) ∧ w' = w := by
  by_cases h : 0 ≤ k ∧ k < 4
  · have : k = 0 ∨ k = 1 ∨ k = 2 ∨ k = 3 := by omega
    rcases this with rfl | rfl | rfl | rfl
    all_goals
      clear h hk
      go_enter Try.func67, Try.ntmps67
      go_wp2_with fail
      go_ret2
      exact ⟨rfl, rfl⟩
  · have hV : slV k = 0 := by unfold slV; rw [if_neg (by omega), if_neg (by omega), if_neg (by omega), if_neg (by omega)]
    have hE : slE k = 1 := if_neg h
    rw [hV, hE]
    clear hV hE
    by_cases h0 : k < 0
    · clear h
      go_enter Try.func67, Try.ntmps67
      go_wp2_with fail
      go_ret2
      exact ⟨rfl, rfl⟩
    · have h4 : 4 ≤ k := by omega
      have h4' : ¬ k < 4 := by omega
      clear h
      go_enter Try.func67, Try.ntmps67
      go_wp2_with fail
      go_ret2
      exact ⟨rfl, rfl⟩
theorem slots8 (w : World) : Calls Try.prog 87 #[] w fun e w' => e = .returned (.func (.func 95) #[] #[]) ∧ w' = w := by
  go_enter Try.func87, Try.ntmps87
  go_wp2_with fail
  go_ret
  exact ⟨rfl, rfl⟩
/-- Every shelf with its slots. -/
def slL : List Nat := [0, 1, 2, 3]
def slenc (x : Nat) : Array Value := #[.int .i64 (x : Int), .int .i64 (slV x)]
set_option maxRecDepth 100000 in
set_option maxHeartbeats 2000000 in
theorem slots_seq (m o : Nat) (hm : 1 ≤ m) (w : World) :
    SeqB Fence.wide m Try.prog 95 #[] slenc (KpX o (o + 1)) (fun xs => xs = slL) (fun xs => ∃ k, k < 4 ∧ xs = slL.take (k + 1)) w := by
  intro l J Jx W hbW hJ hJx hY h0
  have HY : Hid (∀ pre x A, J pre A → YieldAt Fence.wide (m - 1) Try.prog l (slenc x) A fun e B => (e = .returned (.bool true) ∧ J (pre ++ [x]) B ∧ KpX o (o + 1) A B) ∨ (e = .returned (.bool false) ∧ Jx (pre ++ [x]) B)) := hY
  clear hY hJ hJx hbW
  show CallsIn Fence.wide m Try.prog 95 #[.func (.yield l) #[] #[]] W _
  refine callsIn_of_wp Try.func95 rfl trivial ?_ rfl
  simp only [Try.ntmps95, List.size_toArray, List.length_cons, List.length_nil, Nat.reduceAdd, Nat.reduceSub, Array.replicate_succ, Array.replicate_zero, List.push_toArray, List.append_toArray, List.nil_append, List.cons_append]
  gi_wp2
  gi_loopw [5] (fun i wr => ∃ j : Nat, j ≤ 4 ∧ i = .int .i64 (j : Int) ∧ J (slL.take j) wr) (fun i _ => 4 - (intOf i).toNat)
  case atStart => exact ⟨0, by omega, rfl, h0⟩
  case round =>
    clear h0
    obtain ⟨j, hj, rfl, hJk⟩ := hrel
    by_cases hlt : j < 4
    · have hS : ∀ w, Calls Try.prog 67 #[.int .i64 (j : Int)] w fun e w' => e = .returned (.tuple #[.int .i64 (slV j), .int .i64 (slE j)]) ∧ w' = w := fun w => slot j (by omega) w
      have hbs : slL.take (j + 1) = slL.take j ++ [j] := by
        have : j = 0 ∨ j = 1 ∨ j = 2 ∨ j = 3 := by omega
        rcases this with rfl | rfl | rfl | rfl <;> rfl
      have HS : Hid (∀ w, Calls Try.prog 67 #[.int .i64 (j : Int)] w fun e w' => e = .returned (.tuple #[.int .i64 (slV j), .int .i64 (slE j)]) ∧ w' = w) := hS
      have HBs : Hid (slL.take (j + 1) = slL.take j ++ [j]) := hbs
      obtain ⟨fn, tmps, assign, body, hy, hR⟩ := HY.out _ j wr hJk
      simp only [slenc] at hy
      have hlt' : (j : Int) < 4 := by omega
      clear hS hbs
      generalize slV (j : Int) = sv at *
      generalize slE (j : Int) = se at *
      gi_wp2_with (refine ⟨trivial, ?_⟩; gi_at_call 67; refine (callsIn_wide.2 (HS.out _)).mono ?_; rintro e w2 ⟨rfl, rfl⟩)
      refine hR.mono ?_
      rintro e W3 (⟨rfl, hJ3, hk3⟩ | ⟨rfl, hJx3⟩)
      · gi_wp2
        go_roundw
        case rel => exact ⟨j + 1, by omega, by go_num, by rw [HBs.out]; exact hJ3⟩
        case measure => simp [intOf]; omega
      · gi_wp2
        refine bodyPost_ret (results_none rfl _ _ _) rfl ?_
        exact ⟨⟨_, rfl⟩, .inr ⟨_, ⟨j, by omega, HBs.out.symm⟩, hJx3⟩⟩
    · obtain rfl : j = 4 := by omega
      gi_wp2
      go_end0
      exact ⟨⟨_, rfl⟩, .inl ⟨_, rfl, hJk⟩⟩
/-- The first shelf whose slots are great enough. -/
def shV (n : Int) : Int := if n < 0 then 0 else if n ≤ 112 then 0 else if n ≤ 240 then 1 else if n ≤ 496 then 2 else if n ≤ 1008 then 3 else 0
def shE (n : Int) : Int := if n < 0 then 1 else if n ≤ 1008 then 0 else 2
structure HI8 (w W : World) (n : Int) (X : Nat) (pre : List Nat) : Prop where
  bN : Bk W X #[.int .i64 n] 3
  bF : Bk W (X + 1) #[.int .i64 0] 3
  bE : Bk W (X + 1 + 1) #[.int .i64 2] 31
  no : ∀ x ∈ pre, ¬ n ≤ slV x - 16
  hB : Below w.heap.size w W
structure HX8 (w W : World) (n : Int) (X : Nat) (pre : List Nat) : Prop where
  bF : ∃ (p : List Nat) (x : Nat), pre = p ++ [x] ∧ (∀ y ∈ p, ¬ n ≤ slV y - 16) ∧ n ≤ slV x - 16 ∧ Bk W (X + 1) #[.int .i64 (x : Int)] 3
  bE : Bk W (X + 1 + 1) #[.int .i64 0] 31
  hB : Below w.heap.size w W
theorem HI8.below {w A B : World} {n : Int} {X k : Nat} {pre : List Nat} (h : HI8 w A n X pre) (hb : Below k A B) (h1 : X + 1 + 1 < k) (h3 : w.heap.size ≤ k) : HI8 w B n X pre :=
  ⟨h.bN.below hb (by omega), h.bF.below hb (by omega), h.bE.below hb (by omega), h.no, h.hB.trans (hb.mono (by omega))⟩
theorem HX8.below {w A B : World} {n : Int} {X k : Nat} {pre : List Nat} (h : HX8 w A n X pre) (hb : Below k A B) (h1 : X + 1 + 1 < k) (h3 : w.heap.size ≤ k) : HX8 w B n X pre := by
  obtain ⟨p, x, e1, e2, e3, e4⟩ := h.bF
  exact ⟨⟨p, x, e1, e2, e3, e4.below hb (by omega)⟩, h.bE.below hb (by omega), h.hB.trans (hb.mono (by omega))⟩
end Go.Proofs.Ytjbhegakgdcldaa
end
section
set_option linter.unusedSimpArgs false
set_option linter.unusedVariables false
namespace Go.Proofs.Ytjbhegakgdcldaa
open Go.RowKit Go.Shelf
attribute [local go_sem] Oper.semAt_some

/-! size.Shelf. -/
theorem slV_bd (k : Int) : 0 ≤ slV k ∧ slV k ≤ 1024 := by
  unfold slV
  split
  · omega
  · split
    · omega
    · split
      · omega
      · split <;> omega
theorem sh_stop (n : Int) (hn : 0 ≤ n) (k : Nat) (hk : k < 4) (p : List Nat) (x : Nat) (e : slL.take (k + 1) = p ++ [x]) (hp : ∀ y ∈ p, ¬ n ≤ slV y - 16) (hx : n ≤ slV x - 16) : shV n = (x : Int) ∧ shE n = 0 := by
  have : k = 0 ∨ k = 1 ∨ k = 2 ∨ k = 3 := by omega
  have hdl := congrArg List.dropLast e
  have hgl := congrArg List.getLast? e
  rw [List.dropLast_concat] at hdl
  rw [List.getLast?_concat] at hgl
  subst hdl
  rcases this with rfl | rfl | rfl | rfl
  · obtain rfl : 0 = x := by simpa [slL] using hgl
    have e1 : slV ((0 : Nat) : Int) = 128 := rfl
    rw [e1] at hx
    exact ⟨by unfold shV; rw [if_neg (by omega), if_pos (by omega)]; rfl, by unfold shE; rw [if_neg (by omega), if_pos (by omega)]⟩
  · obtain rfl : 1 = x := by simpa [slL] using hgl
    have h0 := hp 0 (by simp [slL])
    have e1 : slV ((1 : Nat) : Int) = 256 := rfl
    have e2 : slV ((0 : Nat) : Int) = 128 := rfl
    rw [e1] at hx
    rw [e2] at h0
    exact ⟨by unfold shV; rw [if_neg (by omega), if_neg (by omega), if_pos (by omega)]; rfl, by unfold shE; rw [if_neg (by omega), if_pos (by omega)]⟩
  · obtain rfl : 2 = x := by simpa [slL] using hgl
    have h0 := hp 1 (by simp [slL])
    have e1 : slV ((2 : Nat) : Int) = 512 := rfl
    have e2 : slV ((1 : Nat) : Int) = 256 := rfl
    rw [e1] at hx
    rw [e2] at h0
    exact ⟨by unfold shV; rw [if_neg (by omega), if_neg (by omega), if_neg (by omega), if_pos (by omega)]; rfl, by unfold shE; rw [if_neg (by omega), if_pos (by omega)]⟩
  · obtain rfl : 3 = x := by simpa [slL] using hgl
    have h0 := hp 2 (by simp [slL])
    have e1 : slV ((3 : Nat) : Int) = 1024 := rfl
    have e2 : slV ((2 : Nat) : Int) = 512 := rfl
    rw [e1] at hx
    rw [e2] at h0
    exact ⟨by unfold shV; rw [if_neg (by omega), if_neg (by omega), if_neg (by omega), if_neg (by omega), if_pos (by omega)]; rfl, by unfold shE; rw [if_neg (by omega), if_pos (by omega)]⟩
theorem sh_done (n : Int) (hn : 0 ≤ n) (hp : ∀ y ∈ slL, ¬ n ≤ slV y - 16) : shV n = 0 ∧ shE n = 2 := by
  have h0 := hp 3 (by simp [slL])
  have e2 : slV ((3 : Nat) : Int) = 1024 := rfl
  rw [e2] at h0
  exact ⟨by unfold shV; rw [if_neg (by omega), if_neg (by omega), if_neg (by omega), if_neg (by omega), if_neg (by omega)], by unfold shE; rw [if_neg (by omega), if_neg (by omega)]⟩
set_option maxRecDepth 100000 in
set_option maxHeartbeats 1000000 in
theorem shelf_go (n : Int) (hn : 0 ≤ n ∧ n ≤ 9223372036854775807) (w : World) : Calls Try.prog 69 #[.int .i64 n] w fun e w' => e = .returned (.tuple #[.int .i64 (shV n), .int .i64 (shE n)]) ∧ Below w.heap.size w w' := by
  have HS : Hid (∀ w, Calls Try.prog 87 #[] w fun e w' => e = .returned (.func (.func 95) #[] #[]) ∧ w' = w) := fun w => slots8 w
  have hn0 : ¬ n < 0 := by omega
  have bN0 := Bk.new w #[.int .i64 n] 3
  have n0 := bN0.cell 0
  simp only [List.getElem?_toArray, List.getElem?_cons_zero] at n0
  refine (callsIn_wide (n := 6)).1 ?_
  refine callsIn_of_wp_marks Try.func69 rfl trivial ?_ rfl
  simp only [Try.ntmps69, List.size_toArray, List.length_cons, List.length_nil, Nat.reduceAdd, Nat.reduceSub, Array.replicate_succ, Array.replicate_zero, List.push_toArray, List.append_toArray, List.nil_append, List.cons_append]
  refine wpIn_wide.2 ?_
  go_wp2_with fail
  refine wp_scope_straight ?_
  go_wp2_with fail
  refine (wpIn_wide (n := 6)).1 (wpIn_label ?_)
  go_wp2_with (go_at_call 87; refine (HS.out _).mono ?_; rintro e W9 ⟨rfl, rfl⟩)
  obtain ⟨W9, hW9⟩ : ∃ W, W = (((w.alloc (Obj.cells #[Value.int IntKind.i64 n] 3)).alloc (Obj.cells #[Value.int IntKind.i64 0] 3)).alloc (Obj.cells #[Value.int IntKind.i64 2] 31)) := ⟨_, rfl⟩
  rw [← hW9]
  have h0 : HI8 w W9 n w.heap.size [] := by
    rw [hW9]
    exact ⟨(bN0.alloc _).alloc _, (Bk.new' _ _ _ (by simp)).alloc _, Bk.new' _ _ _ (by simp), fun x hx => (by cases hx), (((Below.refl _ _).alloc (Nat.le_refl _) _).alloc (by simp) _).alloc (by simp; omega) _⟩
  have hz9 : W9.heap.size = w.heap.size + 1 + 1 + 1 := by rw [hW9]; simp
  obtain ⟨X, hX⟩ : ∃ X, X = w.heap.size := ⟨_, rfl⟩
  have HX0 : Hid (X = w.heap.size) := hX
  rw [← hX] at h0 hz9 ⊢
  clear hX hW9 n0 bN0
  refine (wpIn_wide (n := 6)).1 ?_
  refine wpIn_rangeB rfl (by omega) (gf := 95) (lb := #[]) rfl trivial (enters_of Try.func95 rfl rfl)
    (slots_seq _ (X + 1) (by omega) W9) KpX.trans (fun W l o o' _ h hc => kpx_put W l o o' h hc) (Below.refl _ _) (fun _ => rfl)
    (fun pre W => HI8 w W n X pre) (fun c pre W => c = .exit 0 ∧ HX8 w W n X pre) (fun s A B h hb => h.below hb (by omega) (by have := HX0.out; omega)) (fun c s A B h hb => ⟨h.1, h.2.below hb (by omega) (by have := HX0.out; omega)⟩) h0
    (fun x a' W => a' = { tmps := #[.int .i64 n, .pointer (some ⟨X, 0, none⟩), .int .i64 0, .int .i64 0, .pointer (some ⟨X + 1, 0, none⟩), .pointer (some ⟨X + 1 + 1, 0, none⟩), .int .i64 (x : Int), .int .i64 (slV x), .int .i64 n, .bool (decide (n < 0)), .func (.func 95) #[] #[], .int .i64 (x : Int), .int .i64 (slV x), undef, undef, undef, undef, undef, undef, undef], defers := [] })
    (fun x a' A l o o' _ h hc hx => hx) ?assign ?body ?done ?stop
  case assign =>
    intro l pre x W K hi hK
    simp only [slenc]
    gi_wp2
    exact hK _ _ (KeepsFrom.refl _ _) (fun _ _ _ _ _ h => h) hi rfl
  case body =>
    rintro l pre x a' W hi rfl
    have hx := slV_bd x
    have HI : Hid (HI8 w W n X pre) := hi
    have n0 := hi.bN.cell 0
    have f0 := hi.bF.cell 0
    have e0 := hi.bE.cell 0
    have ff0 := hi.bF.frozen 0
    have ef0 := hi.bE.frozen 0
    have lE := hi.bE.lt
    simp only [List.getElem?_toArray, List.getElem?_cons_zero] at n0 f0 e0
    obtain ⟨s, hs⟩ : ∃ s, s = slV x := ⟨_, rfl⟩
    have HSx : Hid (s = slV x) := hs
    rw [← hs] at hx ⊢
    clear hi hs
    have hw : IntKind.i64.wrap (s - 16) = s - 16 := by rw [IntKind.wrap_i64]; omega
    by_cases hle : n ≤ s - 16
    · gi_wp2
      refine ⟨((KeepsOthers.setCell _ _ _).from _).trans ((KeepsOthers.setCell _ _ _).from _), rfl, ⟨⟨pre, x, rfl, HI.out.no, by rw [← HSx.out]; exact hle, ?_⟩, ?_, ?_⟩⟩
      · exact (Below.heap_setCell _ _ _ (X + 1) (by show X + 1 ≠ X + 1 + 1; omega)).trans (HI.out.bF.set 0 _ rfl)
      · have hE1 : Bk (W.setCell ⟨X + 1, 0, none⟩ (.int .i64 (x : Int))) (X + 1 + 1) #[.int .i64 2] 31 := (Below.heap_setCell W ⟨X + 1, 0, none⟩ _ (X + 1 + 1) (by show X + 1 + 1 ≠ X + 1; omega)).trans HI.out.bE
        exact hE1.set 0 _ rfl
      · exact (HI.out.hB.setCell (p := ⟨X + 1, 0, none⟩) (by show _ ≤ X + 1; have := HX0.out; omega) _).setCell (p := ⟨X + 1 + 1, 0, none⟩) (by show _ ≤ X + 1 + 1; have := HX0.out; omega) _
    · gi_wp2
      refine ⟨KeepsFrom.refl _ _, fun _ _ _ _ _ h => h, HI.out.bN, HI.out.bF, HI.out.bE, fun y hy => ?_, HI.out.hB⟩
      rcases List.mem_append.1 hy with h | h
      · exact HI.out.no y h
      · simp at h; rw [h, ← HSx.out]; omega
  case done =>
    rintro D xs W hD hxs hi hK
    subst hxs
    have HV : Hid (shV n = 0 ∧ shE n = 2) := sh_done n hn.1 hi.no
    have HI : Hid (HI8 w W n X slL) := hi
    have f0 := hi.bF.cell 0
    have e0 := hi.bE.cell 0
    simp only [List.getElem?_toArray, List.getElem?_cons_zero] at f0 e0
    clear hi
    go_wp2_with fail
    go_region
    all_goals
      go_wp2_with fail
      (try simp only [Exit.noGoto])
      refine ⟨by simp, .inl ⟨_, _, rfl, run_takeDeferred hK, ?_⟩⟩
      refine ⟨.tuple #[.int .i64 0, .int .i64 2], ?_, by rw [HV.out.1, HV.out.2], HI.out.hB.drew.trans (below_put _ _ (by have := HX0.out; omega))⟩
      simp [results, Try.f69, go_sem]
  case stop =>
    rintro D c pre W hD ⟨k, hk, rfl⟩ ⟨rfl, hi⟩ hK
    obtain ⟨p, x, e1, e2, e3, e4⟩ := hi.bF
    have HV : Hid (shV n = (x : Int) ∧ shE n = 0) := sh_stop n hn.1 k hk p x e1 e2 e3
    have HB : Hid (Below w.heap.size w W) := hi.hB
    have f0 := e4.cell 0
    have e0 := hi.bE.cell 0
    simp only [List.getElem?_toArray, List.getElem?_cons_zero] at f0 e0
    clear hi e1 e2 e3 e4
    gi_wp2
    go_wp2_with fail
    go_region
    all_goals
      go_wp2_with fail
      (try simp only [Exit.noGoto])
      refine ⟨by simp, .inl ⟨_, _, rfl, run_takeDeferred hK, ?_⟩⟩
      refine ⟨.tuple #[.int .i64 (x : Int), .int .i64 0], ?_, by rw [HV.out.1, HV.out.2], HB.out.drew.trans (below_put _ _ (by have := HX0.out; omega))⟩
      simp [results, Try.f69, go_sem]
theorem shelf_no (n : Int) (hn : n < 0) (w : World) : Calls Try.prog 69 #[.int .i64 n] w fun e w' => e = .returned (.tuple #[.int .i64 (shV n), .int .i64 (shE n)]) ∧ Below w.heap.size w w' := by
  have hV : shV n = 0 := if_pos hn
  have hE : shE n = 1 := if_pos hn
  rw [hV, hE]
  clear hV hE
  refine (callsIn_wide (n := 6)).1 ?_
  refine callsIn_of_wp_marks Try.func69 rfl trivial ?_ rfl
  simp only [Try.ntmps69, List.size_toArray, List.length_cons, List.length_nil, Nat.reduceAdd, Nat.reduceSub, Array.replicate_succ, Array.replicate_zero, List.push_toArray, List.append_toArray, List.nil_append, List.cons_append]
  refine wpIn_wide.2 ?_
  go_wp2_with fail
  refine wp_scope_straight ?_
  go_wp2_with fail
  (try simp only [Exit.noGoto])
  refine ⟨.tuple #[.int .i64 0, .int .i64 1], ?_, rfl, (Below.refl _ _).alloc (Nat.le_refl _) _⟩
  simp [results, Try.f69, go_sem]
theorem shelf (n : Int) (hn : n ≤ 9223372036854775807) (w : World) : Calls Try.prog 69 #[.int .i64 n] w fun e w' => e = .returned (.tuple #[.int .i64 (shV n), .int .i64 (shE n)]) ∧ Below w.heap.size w w' := by
  by_cases h : n < 0
  · exact shelf_no n h w
  · exact shelf_go n ⟨by omega, hn⟩ w
theorem sh_facts (n : Int) (h : 0 ≤ n ∧ n ≤ 1008) : shE n = 0 ∧ (0 ≤ shV n ∧ shV n ≤ 3) ∧ slE (shV n) = 0 ∧ n + 16 ≤ slV (shV n) ∧ (0 < shV n → slE (shV n - 1) = 0 ∧ slV (shV n - 1) < n + 16 ∧ slV (shV n) = 2 * slV (shV n - 1)) := by
  have hE : shE n = 0 := by unfold shE; rw [if_neg (by omega), if_pos (by omega)]
  refine ⟨hE, ?_⟩
  unfold shV
  rw [if_neg (by omega)]
  split
  · exact ⟨by omega, rfl, by show n + 16 ≤ 128; omega, fun h => absurd h (by omega)⟩
  · split
    · exact ⟨by omega, rfl, by show n + 16 ≤ 256; omega, fun _ => ⟨rfl, by show (128 : Int) < n + 16; omega, rfl⟩⟩
    · split
      · exact ⟨by omega, rfl, by show n + 16 ≤ 512; omega, fun _ => ⟨rfl, by show (256 : Int) < n + 16; omega, rfl⟩⟩
      · rw [if_pos (by omega)]
        exact ⟨by omega, rfl, by show n + 16 ≤ 1024; omega, fun _ => ⟨rfl, by show (512 : Int) < n + 16; omega, rfl⟩⟩
end Go.Proofs.Ytjbhegakgdcldaa
end
section
set_option linter.unusedSimpArgs false
set_option linter.unusedVariables false
namespace Go.Proofs.Ytjbhegakgdcldaa
open Go.RowKit Go.Shelf
attribute [local go_sem] Oper.semAt_some

/-! isSlot, has, lowest, Get, Failed. -/
section
variable {W : World} {P : Nat → Nat} {vs : Value → Bool → Array Value} {b o d f n : Nat} {t : TypeId} {pv : Value} {ps : List Pl} {fl : Bool}
theorem SB.c0 (h : SB W P vs b t pv ps fl) (hx : Box vs o d f n t) : W.cell? ⟨b, o, none⟩ = some (.pointer (some ⟨d, 0, none⟩)) := (h.bk.cell _).trans (hx.c0 _ _)
theorem SB.c1 (h : SB W P vs b t pv ps fl) (hx : Box vs o d f n t) : W.cell? ⟨b, o + 1, none⟩ = some (.int .i64 (f : Int)) := (h.bk.cell _).trans (hx.c1 _ _)
theorem SB.c2 (h : SB W P vs b t pv ps fl) (hx : Box vs o d f n t) : W.cell? ⟨b, o + 2, none⟩ = some (.int .i64 (n : Int)) := (h.bk.cell _).trans (hx.c2 _ _)
theorem SB.c3 (h : SB W P vs b t pv ps fl) (hx : Box vs o d f n t) : W.cell? ⟨b, o + 3, none⟩ = some pv := (h.bk.cell _).trans (hx.c3 _ _)
theorem SB.c4 (h : SB W P vs b t pv ps fl) (hx : Box vs o d f n t) : W.cell? ⟨b, o + 4, none⟩ = some (.bool fl) := (h.bk.cell _).trans (hx.c4 _ _)
set_option maxHeartbeats 1000000 in
theorem failed10 (hx : Box vs o d f n t) (h : SB W P vs b t pv ps fl) :
    Calls Try.prog 32 #[.pointer (some ⟨b, o, none⟩)] W fun e w' => e = .returned (.bool fl) ∧ w' = W := by
  have c4 := h.c4 hx
  have hl := h.bk.lt
  clear h
  go_enter Try.func32, Try.ntmps32
  go_wp2_with fail
  go_ret
  exact ⟨rfl, rfl⟩
theorem hasP_neg {ps : List Pl} {i : Int} (h : i < 0) : hasP ps i = false := by unfold hasP; rw [decide_eq_false (by omega : ¬ 0 ≤ i)]; rfl
theorem hasP_big {ps : List Pl} {i : Int} (h : (ps.length : Int) ≤ i) : hasP ps i = false := by unfold hasP; rw [decide_eq_false (by omega : ¬ i < (ps.length : Int)), Bool.and_false]; rfl
theorem hasP_in {ps : List Pl} {i : Nat} (h : i < ps.length) : hasP ps (i : Int) = decide ((ps.getD i pl0).m ≠ 0) := by
  unfold hasP
  rw [decide_eq_true (by omega : (0 : Int) ≤ i), decide_eq_true (by omega : (i : Int) < ps.length), Int.toNat_natCast]; rfl
theorem u8_eq0 {m : UInt8} : (m.toNat : Int) = 0 ↔ m = 0 := ⟨fun h => by
    apply UInt8.toNat_inj.1
    have : m.toNat = 0 := by omega
    rw [this]; rfl, fun h => by rw [h]; rfl⟩
theorem u8_ne {m : UInt8} : ((m.toNat : Int) != 0) = decide (m ≠ 0) := by
  rw [Bool.eq_iff_iff, bne_iff_ne, decide_eq_true_iff]
  exact not_congr u8_eq0
theorem u8_eq {m : UInt8} : ((m.toNat : Int) == 0) = decide (m = 0) := by
  rw [Bool.eq_iff_iff, beq_iff_eq, decide_eq_true_iff]
  exact u8_eq0
set_option maxHeartbeats 1000000 in
theorem has10 (hx : Box vs o d f n t) (h : SB W P vs b t pv ps fl) (i : Int) :
    Calls Try.prog 60 #[.pointer (some ⟨b, o, none⟩), .int .i64 i] W fun e w' => e = .returned (.bool (hasP ps i)) ∧ w' = W := by
  have c3 := h.c3 hx
  have hl := h.bk.lt
  obtain ⟨ad, cap, rfl, hcap⟩ := h.row.shape
  by_cases h0 : i < 0
  · rw [hasP_neg h0]
    clear h
    have hn : ¬ 0 ≤ i := by omega
    go_enter Try.func60, Try.ntmps60
    go_wp2_with fail
    go_ret
    exact ⟨rfl, rfl⟩
  · by_cases h1 : i < (ps.length : Int)
    · obtain ⟨j, rfl⟩ : ∃ j : Nat, i = j := ⟨i.toNat, by omega⟩
      have hj : j < ps.length := by omega
      obtain ⟨g, cap', e, _, hg, k0, k1, kf⟩ := h.row.at j hj
      simp at e
      obtain ⟨rfl, rfl⟩ := e
      rw [hasP_in hj, ← u8_ne]
      clear h h0
      generalize ((ps.getD j pl0).m.toNat : Int) = m at *
      generalize (ps.getD j pl0).tx = tx at *
      generalize ps.length = len at *
      go_enter Try.func60, Try.ntmps60
      go_wp2_with fail
      go_ret
      exact ⟨rfl, rfl⟩
    · rw [hasP_big (by omega)]
      clear h
      have hn : 0 ≤ i := by omega
      go_enter Try.func60, Try.ntmps60
      go_wp2_with fail
      go_ret
      exact ⟨rfl, rfl⟩
theorem low_take (ps : List Pl) : low ps ≤ ps.length := by
  induction ps with
  | nil => exact Nat.le_refl _
  | cons p l ih => unfold low; split <;> simp <;> omega
/-- Where so many are taken, and the next one is free. -/
theorem low_at : ∀ (ps : List Pl) (j : Nat), j < ps.length → (∀ k, k < j → (ps.getD k pl0).m ≠ 0) → (ps.getD j pl0).m = 0 → low ps = j
  | [], j, h, _, _ => by simp at h
  | p :: l, 0, _, _, h0 => by
    have h0 : p.m = 0 := h0
    unfold low; rw [if_pos h0]
  | p :: l, j + 1, h, hk, h0 => by
    have hp : p.m ≠ 0 := hk 0 (by omega)
    have := low_at l j (by simpa using h) (fun k hk' => hk (k + 1) (by omega)) h0
    unfold low; rw [if_neg hp, this]
theorem low_none : ∀ (ps : List Pl), (∀ k, k < ps.length → (ps.getD k pl0).m ≠ 0) → low ps = ps.length
  | [], _ => rfl
  | p :: l, hk => by
    have hp : p.m ≠ 0 := hk 0 (by simp)
    have := low_none l (fun k hk' => hk (k + 1) (by simp; omega))
    unfold low; rw [if_neg hp, this, List.length_cons]
set_option maxHeartbeats 1000000 in
theorem lowest10 (hx : Box vs o d f n t) (h : SB W P vs b t pv ps fl) (hlen : ps.length ≤ 1099511627776) :
    Calls Try.prog 64 #[.pointer (some ⟨b, o, none⟩)] W fun e w' => e = .returned (.int .i64 (low ps)) ∧ Below W.heap.size W w' := by
  have c3 := h.c3 hx
  have hl := h.bk.lt
  have HS : Hid (SB W P vs b t pv ps fl) := h
  have HX : Hid (Box vs o d f n t) := hx
  obtain ⟨ad, cap, rfl, hcap⟩ := h.row.shape
  clear h hx
  go_enter Try.func64, Try.ntmps64
  go_wp2_with fail
  go_loopw [10] (fun k wr => ∃ j : Nat, j ≤ ps.length ∧ k = .int .i64 (j : Int) ∧ Below W.heap.size W wr ∧ ∀ q, q < j → (ps.getD q pl0).m ≠ 0) (fun k _ => ps.length - (intOf k).toNat)
  case atStart => exact ⟨0, Nat.zero_le _, rfl, Below.refl _ _, fun q hq => by omega⟩
  case round =>
    clear c3 hl
    obtain ⟨j, hj, rfl, hB, hq⟩ := hrel
    have HB : Hid (Below W.heap.size W wr) := hB
    have HQ : Hid (∀ q, q < j → (ps.getD q pl0).m ≠ 0) := hq
    have hS := HS.out.same (fun k hk => hB.block k (HS.out.lt k hk))
    have c3 := hS.c3 HX.out
    have hl := hS.bk.lt
    clear hB hq
    by_cases hlt : j < ps.length
    · obtain ⟨g, cap', e, _, hg, k0, k1, kf⟩ := hS.row.at j hlt
      simp at e
      obtain ⟨rfl, rfl⟩ := e
      have hlt' : (j : Int) < (ps.length : Int) := by omega
      have HM : Hid (ps.getD j pl0 = ps.getD j pl0) := rfl
      have hm0 := @u8_eq0 (ps.getD j pl0).m
      have HM0 : Hid (((ps.getD j pl0).m.toNat : Int) = 0 ↔ (ps.getD j pl0).m = 0) := hm0
      clear hS hm0
      have hb9 : ∀ u v, Below W.heap.size W (wr.alloc (.cells #[u, v] 94)) := fun u v => HB.out.alloc HB.out.size _
      have HB9 : Hid (∀ u v, Below W.heap.size W (wr.alloc (.cells #[u, v] 94))) := hb9
      clear hb9
      generalize hm : ((ps.getD j pl0).m.toNat : Int) = m at k0 HM0
      have HMM : Hid (((ps.getD j pl0).m.toNat : Int) = m) := hm
      clear hm
      generalize (ps.getD j pl0).tx = tx at *
      by_cases hz : m = 0
      · subst hz
        go_wp2_with fail
        go_ret
        refine ⟨?_, HB9.out _ _⟩
        rw [low_at ps j hlt HQ.out (HM0.out.1 (by trivial))]
        rfl
      · go_wp2_with fail
        go_roundw
        case rel => exact ⟨j + 1, by omega, by go_num, HB9.out _ _, fun q hq => by
          by_cases e : q = j
          · subst e; exact fun h0 => hz (HM0.out.2 h0)
          · exact HQ.out q (by omega)⟩
        case measure => simp [intOf]; omega
    · obtain rfl : j = ps.length := by omega
      clear hS
      go_wp2_with fail
      go_ret
      refine ⟨?_, HB.out⟩
      rw [low_none ps HQ.out]
      rfl
set_option maxHeartbeats 1000000 in
theorem get10 (hx : Box vs o d f n t) (h : SB W P vs b t pv ps fl) (i : Int) :
    Calls Try.prog 26 #[.pointer (some ⟨b, o, none⟩), .int .i64 i] W fun e w' => e = .returned (.tuple #[.string (getV ps i), .int .i64 (getE ps i)]) ∧ w' = W := by
  have HH : Hid _ := has10 hx h i
  by_cases hh : hasP ps i = true
  · have hlt : 0 ≤ i ∧ i < (ps.length : Int) := by
      refine ⟨Classical.byContradiction fun h9 => ?_, Classical.byContradiction fun h9 => ?_⟩
      · rw [hasP_neg (by omega)] at hh; cases hh
      · rw [hasP_big (by omega)] at hh; cases hh
    obtain ⟨j, rfl⟩ : ∃ j : Nat, i = j := ⟨i.toNat, by omega⟩
    have hj : j < ps.length := by omega
    have eV : getV ps (j : Int) = (ps.getD j pl0).tx := by unfold getV; rw [if_pos hh, Int.toNat_natCast]
    have eE : getE ps (j : Int) = 0 := by unfold getE; rw [if_pos hh]
    rw [eV, eE]
    rw [hh] at HH
    have c3 := h.c3 hx
    have hl := h.bk.lt
    obtain ⟨g, cap, rfl, _, hg, k0, k1, kf⟩ := h.row.at j hj
    have hlt' : (j : Int) < (ps.length : Int) := by omega
    clear h eV eE hh hlt
    generalize ((ps.getD j pl0).m.toNat : Int) = m at *
    generalize (ps.getD j pl0).tx = tx at *
    generalize ps.length = len at *
    go_enter Try.func26, Try.ntmps26
    go_wp2_with (go_at_call 60; refine Calls.mono HH.out ?_; rintro e w8 ⟨rfl, rfl⟩)
    go_ret2
    exact ⟨rfl, rfl⟩
  · have hh : hasP ps i = false := by simpa using hh
    have eV : getV ps i = ⟨#[]⟩ := by unfold getV; rw [hh]; rfl
    have eE : getE ps i = 3 := by unfold getE; rw [hh]; rfl
    rw [eV, eE]
    rw [hh] at HH
    clear h eV eE hh
    go_enter Try.func26, Try.ntmps26
    go_wp2_with (go_at_call 60; refine Calls.mono HH.out ?_; rintro e w8 ⟨rfl, rfl⟩)
    go_ret2
    exact ⟨rfl, rfl⟩
end
theorem isSl_at {n : Int} {j : Nat} (hj : j < 4) (h : slV j = n) : isSl n = true := by
  unfold isSl
  refine decide_eq_true ?_
  have : j = 0 ∨ j = 1 ∨ j = 2 ∨ j = 3 := by omega
  rcases this with rfl | rfl | rfl | rfl
  · have e : slV ((0 : Nat) : Int) = 128 := rfl
    omega
  · have e : slV ((1 : Nat) : Int) = 256 := rfl
    omega
  · have e : slV ((2 : Nat) : Int) = 512 := rfl
    omega
  · have e : slV ((3 : Nat) : Int) = 1024 := rfl
    omega
theorem isSl_no {n : Int} (h : ∀ q : Nat, q < 4 → slV q ≠ n) : isSl n = false := by
  unfold isSl
  refine decide_eq_false ?_
  have e0 : slV ((0 : Nat) : Int) = 128 := rfl
  have e1 : slV ((1 : Nat) : Int) = 256 := rfl
  have e2 : slV ((2 : Nat) : Int) = 512 := rfl
  have e3 : slV ((3 : Nat) : Int) = 1024 := rfl
  have h0 := h 0 (by omega)
  have h1 := h 1 (by omega)
  have h2 := h 2 (by omega)
  have h3 := h 3 (by omega)
  omega
set_option maxHeartbeats 1000000 in
theorem isSlot10 (n : Int) (w : World) : Calls Try.prog 57 #[.int .i64 n] w fun e w' => e = .returned (.bool (isSl n)) ∧ w' = w := by
  go_enter Try.func57, Try.ntmps57
  go_wp2_with fail
  go_loopw [6] (fun k wr => ∃ j : Nat, j ≤ 4 ∧ k = .int .i64 (j : Int) ∧ wr = w ∧ ∀ q : Nat, q < j → slV q ≠ n) (fun k _ => 4 - (intOf k).toNat)
  case atStart => exact ⟨0, Nat.zero_le _, rfl, rfl, fun q hq => by omega⟩
  case round =>
    obtain ⟨j, hj, rfl, rfl, hq⟩ := hrel
    have HQ : Hid (∀ q : Nat, q < j → slV q ≠ n) := hq
    clear hq
    by_cases hlt : j < 4
    · have hlt' : (j : Int) < 4 := by omega
      have HS : Hid (∀ w, Calls Try.prog 67 #[.int .i64 (j : Int)] w fun e w' => e = .returned (.tuple #[.int .i64 (slV j), .int .i64 (slE j)]) ∧ w' = w) := fun w => slot j (by omega) w
      have HA : Hid (slV j = n → isSl n = true) := fun h => isSl_at hlt h
      have HN : Hid (slV j ≠ n → ∀ q : Nat, q < j + 1 → slV q ≠ n) := fun h q hq => by
        by_cases e : q = j
        · subst e; exact h
        · exact HQ.out q (by omega)
      generalize slV (j : Int) = sv at *
      generalize slE (j : Int) = se at *
      by_cases hz : sv = n
      · subst hz
        go_wp2_with (go_at_call 67; refine (HS.out _).mono ?_; rintro e w8 ⟨rfl, rfl⟩)
        go_ret
        refine ⟨?_, rfl⟩
        rw [HA.out (by trivial)]
        rfl
      · go_wp2_with (go_at_call 67; refine (HS.out _).mono ?_; rintro e w8 ⟨rfl, rfl⟩)
        go_roundw
        case rel => exact ⟨j + 1, by omega, by go_num, by trivial, HN.out hz⟩
        case measure => simp [intOf]; omega
    · obtain rfl : j = 4 := by omega
      go_wp2_with fail
      go_ret
      refine ⟨?_, rfl⟩
      rw [isSl_no HQ.out]
      rfl
end Go.Proofs.Ytjbhegakgdcldaa
end
section
set_option linter.unusedSimpArgs false
set_option linter.unusedVariables false
namespace Go.Proofs.Ytjbhegakgdcldaa
open Go.RowKit

/-! write, mark. -/
def C3 (b o d f n : Nat) (w' : World) : Prop := w'.cell? ⟨b, o, none⟩ = some (.pointer (some ⟨d, 0, none⟩)) ∧ w'.cell? ⟨b, o + 1, none⟩ = some (.int .i64 (f : Int)) ∧ w'.cell? ⟨b, o + 2, none⟩ = some (.int .i64 (n : Int))
theorem C3.drew {b o d f n : Nat} {w' : World} (h : C3 b o d f n w') : C3 b o d f n w'.drew := h
section
variable {w W : World} {O P : Nat → Nat} {vs : Value → Bool → Array Value} {b o d f n : Nat} {t : TypeId} {ps : List Pl} {fl : Bool} {D : Ds}
theorem SH.c3s (hx : Box vs o d f n t) (h : SH w W d O P vs b t D ps fl) : C3 b o d f n W := by
  obtain ⟨pv, hs⟩ := h.sb
  exact ⟨hs.c0 hx, hs.c1 hx, hs.c2 hx⟩
/-- A write by contract, with what it keeps of the shelf's own. -/
theorem SH.wrote {W' : World} {O' : Nat → Nat} {D' : Ds} {ps' : List Pl} {fl' : Bool} (h : SH w W d O P vs b t D ps fl) (h' : SH w W' d O' P vs b t D' ps' fl') (hf : Fp O W O' W') : Fp (fun k => O k + P k) W (fun k => O' k + P k) W' := h.plus h'.d1 hf
theorem SH.blt (h : SH w W d O P vs b t D ps fl) : b < W.heap.size := by
  obtain ⟨pv, hs⟩ := h.sb
  exact hs.bk.lt
set_option maxHeartbeats 2000000 in
theorem write10 (hx : Box vs o d f n t) (h : SH w W d O P vs b t D ps fl) {q : Nat} (hf : Few D q) (hq : q + 1 ≤ 1000) (at_ : Nat) (hat : at_ ≤ 1000) (ad : Option Addr) (bs : List UInt8) (bc : Nat) (hb : Rb W (.slice ad bs.length bc) bs) (hO : ∀ b n, ad = some ⟨b, n, none⟩ → O b = 0) :
    Calls Try.prog 80 #[.pointer (some ⟨b, o, none⟩), .int .i64 (at_ : Int), .slice ad bs.length bc] W fun e w' => e = .returned (.int .i64 (swE D f (at_ * n) bs)) ∧ ∃ O', SH w w' d O' P vs b t (swD D f (at_ * n) bs) ps fl ∧ Fp O W O' w' := by
  obtain ⟨pv, hs⟩ := h.sb
  have c0 := hs.c0 hx
  have c1 := hs.c1 hx
  have c2 := hs.c2 hx
  have lb := hs.bk.lt
  have hn := hx.n1
  have hw : IntKind.i64.wrap ((at_ : Int) * (n : Int)) = ((at_ * n : Nat) : Int) := by
    rw [IntKind.wrap_i64, Int.natCast_mul]
    have : at_ * n ≤ 1000 * 1024 := Nat.mul_le_mul hat hn.2
    have h2 : (at_ : Int) * (n : Int) = ((at_ * n : Nat) : Int) := (Int.natCast_mul ..).symm
    omega
  have hlW := W.heap.size.le_refl
  have HW : Hid (Calls Try.prog 93 #[.pointer (some ⟨d, 0, none⟩), .int .i64 (f : Int), .int .i64 ((at_ * n : Nat) : Int), .slice ad bs.length bc] W.drew fun e w' => e = .returned (.int .i64 (wrE D f (at_ * n : Nat) bs.length)) ∧ ∃ O', SH w w' d O' P vs b t (wrD D f (at_ * n : Nat) bs) ps fl ∧ Fp O W O' w') := by
    refine (d1Write h.drew.d1 hf (by omega) f (at_ * n : Nat) ad bs bc hb hO).mono ?_
    rintro e w' ⟨rfl, O', h1, h2⟩
    obtain ⟨h3, h4⟩ := h.drew.disk h1 h2
    exact ⟨rfl, O', h3, (Fp.of_below _ (Below.refl _ _).drew).trans h2⟩
  have HS : Hid (∀ w1 O1, SH w w1 d O1 P vs b t (wrD D f (at_ * n : Nat) bs) ps fl → Calls Try.prog 76 #[.pointer (some ⟨d, 0, none⟩), .int .i64 (f : Int)] w1.drew fun e w' => e = .returned (.int .i64 (cntE (wrD D f (at_ * n : Nat) bs) f)) ∧ ∃ O', SH w w' d O' P vs b t (psyD (wrD D f (at_ * n : Nat) bs) f) ps fl ∧ Fp O1 w1 O' w') := fun w1 O1 h1 => by
    refine (d1Sync h1.drew.d1 (hf.wrD f (at_ * n : Nat) bs) hq f).mono ?_
    rintro e w' ⟨rfl, O', h2, h3⟩
    obtain ⟨h4, h5⟩ := h1.drew.disk h2 h3
    exact ⟨rfl, O', h4, (Fp.of_below _ (Below.refl _ _).drew).trans h3⟩
  have HC : Hid (∀ w1 O1 D1, SH w w1 d O1 P vs b t D1 ps fl → C3 b o d f n w1 ∧ b < w1.heap.size) := fun w1 O1 D1 h1 => ⟨h1.c3s hx, h1.blt⟩
  have hT : C3 b o d f n W := h.c3s hx
  clear h hs hx hf hb hO c0 c1 c2
  have eE : swE D f (at_ * n) bs = if wrE D f (at_ * n : Nat) bs.length ≠ 0 then wrE D f (at_ * n : Nat) bs.length else cntE (wrD D f (at_ * n : Nat) bs) f := rfl
  have eD : swD D f (at_ * n) bs = if wrE D f (at_ * n : Nat) bs.length ≠ 0 then wrD D f (at_ * n : Nat) bs else psyD (wrD D f (at_ * n : Nat) bs) f := rfl
  rw [eE, eD]
  clear eE eD
  generalize wrD D f (at_ * n : Nat) bs = D1 at *
  generalize wrE D f (at_ * n : Nat) bs.length = ev at *
  generalize cntE D1 f = sv at *
  generalize psyD D1 f = D2 at *
  generalize at_ * n = pos at *
  generalize bs.length = bl at *
  by_cases hz : ev = 0
  · subst hz
    simp only [ne_eq, not_true_eq_false, if_false, ite_false]
    go_enter Try.func80, Try.ntmps80
    go_upto_region 1 with fail
    go_region_held3 (fun w' => w'.cell? ⟨b, o, none⟩ = some (.pointer (some ⟨d, 0, none⟩)) ∧ w'.cell? ⟨b, o + 1, none⟩ = some (.int .i64 (f : Int)) ∧ w'.cell? ⟨b, o + 2, none⟩ = some (.int .i64 (n : Int))) ((show C3 b o d f n _; repeat (first | with_reducible exact hT | with_reducible refine C3.drew ?_))) ((go_at_call 93; refine Calls.mono HW.out ?_; rintro e w8 ⟨rfl, O8, h8, f8⟩; have hT := (HC.out _ _ _ h8).1; have lb := (HC.out _ _ _ h8).2; have H8 : Hid (SH w w8 d O8 P vs b t D1 ps fl) := h8; have F8 : Hid (Fp O W O8 w8) := f8; clear h8 f8))
    go_upto_region 4 with fail
    go_region_held3 (fun w' => w'.cell? ⟨b, o, none⟩ = some (.pointer (some ⟨d, 0, none⟩)) ∧ w'.cell? ⟨b, o + 1, none⟩ = some (.int .i64 (f : Int)) ∧ w'.cell? ⟨b, o + 2, none⟩ = some (.int .i64 (n : Int))) ((show C3 b o d f n _; repeat (first | with_reducible exact hT | with_reducible refine C3.drew ?_))) ((go_at_call 76; refine Calls.mono (HS.out _ _ H8.out) ?_; rintro e w9 ⟨rfl, O9, h9, f9⟩; have hT := (HC.out _ _ _ h9).1; have H9 : Hid (SH w w9 d O9 P vs b t D2 ps fl) := h9; have F9 : Hid (Fp O8 w8 O9 w9) := f9; clear h9 f9))
    go_wp2_with fail
    go_ret
    exact ⟨rfl, O9, H9.out, F8.out.trans F9.out⟩
  · simp only [ne_eq, hz, not_false_eq_true, if_true, ite_true]
    have hne : (ev != 0) = true := by rw [bne_iff_ne]; exact hz
    clear hz
    go_enter Try.func80, Try.ntmps80
    go_upto_region 1 with fail
    go_region_held3 (fun w' => w'.cell? ⟨b, o, none⟩ = some (.pointer (some ⟨d, 0, none⟩)) ∧ w'.cell? ⟨b, o + 1, none⟩ = some (.int .i64 (f : Int)) ∧ w'.cell? ⟨b, o + 2, none⟩ = some (.int .i64 (n : Int))) ((show C3 b o d f n _; repeat (first | with_reducible exact hT | with_reducible refine C3.drew ?_))) ((go_at_call 93; refine Calls.mono HW.out ?_; rintro e w8 ⟨rfl, O8, h8, f8⟩; have hT := (HC.out _ _ _ h8).1; have H8 : Hid (SH w w8 d O8 P vs b t D1 ps fl) := h8; have F8 : Hid (Fp O W O8 w8) := f8; clear h8 f8))
    go_wp2_with fail
    go_ret
    exact ⟨rfl, O8, H8.out, F8.out⟩
end
end Go.Proofs.Ytjbhegakgdcldaa
end
section
set_option linter.unusedSimpArgs false
set_option linter.unusedVariables false
namespace Go.Proofs.Ytjbhegakgdcldaa
open Go.RowKit

/-! mark. -/
section
variable {w W W' : World} {O P : Nat → Nat} {vs : Value → Bool → Array Value} {b o d f n : Nat} {t : TypeId} {ps ps' : List Pl} {fl fl' : Bool} {D : Ds} {pv v' : Value}
/-- What a call of a shelf leaves. -/
def Post10 (w : World) (d : Nat) (vs : Value → Bool → Array Value) (b : Nat) (t : TypeId) (O P : Nat → Nat) (W : World) (D : Ds) (ps : List Pl) (fl : Bool) (w' : World) : Prop :=
  ∃ O' P', SH w w' d O' P' vs b t D ps fl ∧ Fp (fun k => O k + P k) W (fun k => O' k + P' k) w'
theorem Post10.refl (h : SH w W d O P vs b t D ps fl) : Post10 w d vs b t O P W D ps fl W := ⟨O, P, h, Fp.refl _ _⟩
theorem Post10.pre {O1 P1 : Nat → Nat} {W1 : World} (hf : Fp (fun k => O k + P k) W (fun k => O1 k + P1 k) W1) (h : Post10 w d vs b t O1 P1 W1 D ps fl W') : Post10 w d vs b t O P W D ps fl W' := by
  obtain ⟨O', P', h1, h2⟩ := h
  exact ⟨O', P', h1, hf.trans h2⟩
theorem Post10.below (h : SH w W d O P vs b t D ps fl) (hb : Below W.heap.size W W') (hp : Post10 w d vs b t O P W' D ps fl W') : Post10 w d vs b t O P W D ps fl W' := hp.pre (h.fp_below hb)
/-- The row was turned, or is another one; the box has it. -/
theorem SH.rowed (h : SH w W d O P vs b t D ps fl) (hsb : SB W P vs b t pv ps fl) (hbk : Bk W' b (vs v' fl') t) (hrow : Row W' v' ps') (hty : t ≠ 94) (hsn : Sn W pv v')
    (hk : ∀ k, k < W.heap.size → k ≠ b → some k ≠ pv.ownBlock → W'.heap[k]? = W.heap[k]?) (hos : W'.os = W.os) (htp : W'.tape = W.tape) (hout : W'.output = W.output) (hsz : W.heap.size ≤ W'.heap.size) : Post10 w d vs b t O P W D ps' fl' W' := by
  obtain ⟨P', hP⟩ : ∃ P' : Nat → Nat, P' = fun k => if k < W.heap.size then (if some k = pv.ownBlock ∧ v'.ownBlock ≠ some k then 0 else P k) else if v'.ownBlock = some k then 2 else 0 := ⟨_, rfl⟩
  have hb0 : b < W.heap.size := hsb.bk.lt
  have hbpv : pv.ownBlock ≠ some b := fun e => hsb.apart hty e rfl
  have hnb : ∀ k, v'.ownBlock = some k → k ≠ b := fun k e e2 => by
    subst e2
    obtain ⟨c, e3⟩ := hrow.block e
    rw [show W'.heap[k]? = _ from hbk] at e3
    simp at e3
    exact hty e3.2
  have pb : P' b = 1 := by rw [hP]; simp only []; rw [if_pos hb0, if_neg (fun e => hbpv e.1.symm)]; exact hsb.tb
  have pv' : ∀ k, v'.ownBlock = some k → P' k = 2 := fun k e => by
    rw [hP]; simp only []
    by_cases e1 : k < W.heap.size
    · rw [if_pos e1, if_neg (fun e2 => e2.2 e)]
      rcases hsn with e3 | e3
      · exact hsb.tr k (by rw [← e3]; exact e)
      · have := e3 k e; omega
    · rw [if_neg e1, if_pos e]
  have same : ∀ k, P' k ≠ 0 → k ≠ b → v'.ownBlock ≠ some k → k < W.heap.size ∧ P k ≠ 0 ∧ some k ≠ pv.ownBlock := fun k hk' h1 h2 => by
    rw [hP] at hk'; simp only [] at hk'
    by_cases e1 : k < W.heap.size
    · rw [if_pos e1] at hk'
      by_cases e2 : some k = pv.ownBlock ∧ v'.ownBlock ≠ some k
      · rw [if_pos e2] at hk'; exact absurd rfl hk'
      · rw [if_neg e2] at hk'; exact ⟨e1, hk', fun e => e2 ⟨e, h2⟩⟩
    · rw [if_neg e1, if_neg h2] at hk'; exact absurd rfl hk'
  have hc : ∀ k, P' k ≠ 0 → ∃ x, W'.heap[k]? = some x ∧ x.isCells = true := fun k hk' => by
    by_cases e : k = b
    · subst e; exact ⟨_, hbk, rfl⟩
    · by_cases e2 : v'.ownBlock = some k
      · obtain ⟨c, e3⟩ := hrow.block e2; exact ⟨_, e3, rfl⟩
      · obtain ⟨h1, h2, h3⟩ := same k hk' e e2
        rw [hk k h1 e h3]; exact hsb.cel k h2
  have r := h.own (W' := W') (P' := P') (ps' := ps') (fl' := fl') (pv := v') ⟨hbk, hrow, pv', pb, hc⟩
    (fun k e => by
      rw [hP]; simp only []; rw [if_pos e]
      split
      · exact .inr rfl
      · exact .inl rfl)
    (fun k e hk' => by obtain ⟨x, e2, _⟩ := hc k hk'; exact (Array.getElem?_eq_some_iff.1 e2).1)
    (fun k e hk' => hk k e (fun e2 => by rw [e2, hsb.tb] at hk'; omega) (fun e2 => by have := hsb.tr k e2.symm; omega)) hos htp hout hsz
    (fun k x h1 h2 => by
      rw [← h1]
      have hkl := (Array.getElem?_eq_some_iff.1 h1).1
      refine hk k hkl (fun e => ?_) (fun e => ?_)
      · subst e; rw [show W.heap[k]? = _ from hsb.bk] at h1; simp at h1; subst h1; simp [Obj.isCells] at h2
      · obtain ⟨c, e3⟩ := hsb.row.block e.symm; rw [e3] at h1; simp at h1; subst h1; simp [Obj.isCells] at h2)
  exact ⟨O, P', r.1, r.2⟩
/-- A place stored in the row. -/
theorem Row.set {g cap : Nat} (h : Row W (.slice (some ⟨g, 0, none⟩) ps.length cap) ps) (i : Nat) (p : Pl) : Row ((W.setCell ⟨g, i * 2, none⟩ (.int .u8 (p.m.toNat : Int))).setCell ⟨g, i * 2 + 1, none⟩ (.string p.tx)) (.slice (some ⟨g, 0, none⟩) ps.length cap) (ps.set i p) := by
  unfold Row
  rw [List.length_set, ← pcl_set]
  exact (World.ownsRow.stored (World.ownsRow.stored h _ _).1 _ _).1
/-- A place appended, and the box has the row. -/
theorem SH.app (hx : Box vs o d f n t) (h : SH w W d O P vs b t D ps fl) (hs : SB W P vs b t pv ps fl) {W1 w9 : World} {v9 : Value} {p : Pl} (hb1 : Below W.heap.size W W1) (hown : w9.ownsRow 0 94 2 v9 (ps.length + 1) (ps.flatMap pcl ++ pcl p)) (hgr : W1.grownBy w9 pv.ownBlock) (hsn : Sn W1 pv v9) :
    Post10 w d vs b t O P W D (ps ++ [p]) fl (w9.setCell ⟨b, o + 3, none⟩ v9) ∧ w9.cell? ⟨b, o + 3, none⟩ = some pv ∧ w9.frozen? ⟨b, o + 3, none⟩ = false ∧ b < w9.heap.size := by
  have hb0 : b < W.heap.size := hs.bk.lt
  have hz1 := hb1.size
  have hz9 := hgr.size
  have hbpv : some b ≠ pv.ownBlock := fun e => hs.apart hx.ty e.symm rfl
  have hk : ∀ k, k < W.heap.size → some k ≠ pv.ownBlock → w9.heap[k]? = W.heap[k]? := fun k h1 h2 => (hgr.block k (by omega) h2).trans (hb1.block k h1)
  have hbk : Bk w9 b (vs pv fl) t := (hk b hb0 hbpv).trans hs.bk
  have e1 : (ps ++ [p]).flatMap pcl = ps.flatMap pcl ++ pcl p := by rw [List.flatMap_append]; simp
  have hrow9 : Row w9 v9 (ps ++ [p]) := by
    unfold Row
    rw [e1, List.length_append, List.length_singleton]
    exact hown
  have hnb : ∀ k, v9.ownBlock = some k → k ≠ b := fun k e e2 => by
    subst e2
    obtain ⟨c, e3⟩ := hrow9.block e
    rw [show w9.heap[k]? = _ from hbk] at e3
    simp at e3
    exact hx.ty e3.2
  refine ⟨?_, (hbk.cell _).trans (hx.c3 _ _), hbk.frozen _, hbk.lt⟩
  refine h.rowed hs (v' := v9) (hbk.set _ _ (hx.s3 _ _ _)) (hrow9.same fun k e => Below.heap_setCell w9 _ _ k (hnb k e)) hx.ty ?_ (fun k h1 h2 h3 => (Below.heap_setCell w9 _ _ k h2).trans (hk k h1 h3)) (hgr.os.trans hb1.os) (hgr.tape.trans hb1.tape) (hgr.output.trans hb1.output) (by simp; omega)
  rcases hsn with e | e
  · exact .inl e
  · exact .inr fun k hk' => by have := e k hk'; omega
theorem one_pl {W : World} {g : Nat} {p : Pl} (hb : Bk W g #[.int .u8 (p.m.toNat : Int), .string p.tx] 94) : Src Try.prog 2 88 (.slice (some ⟨g, 0, none⟩) 1 1) 1 (pcl p) W := by
  have c0 := hb.cell 0
  have c1 := hb.cell 1
  simp only [List.getElem?_toArray, List.getElem?_cons_zero, List.getElem?_cons_succ] at c0 c1
  refine Src.ofSlice W Try.underlying88 ⟨g, 0, none⟩ 1 1 (pcl p) rfl (fun j u hj => ?_) (fun u hu => ?_)
  · rw [Addr.add_lit, Nat.zero_add]
    match j with
    | 0 => simp [pcl] at hj; subst hj; exact c0
    | 1 => simp [pcl] at hj; subst hj; exact c1
    | j + 2 => simp [pcl] at hj
  · simp [pcl] at hu
    rcases hu with rfl | rfl <;> rfl
theorem mkR_ok {f n at_ : Nat} {p : Pl} {D : Ds} {ps : List Pl} (h : swE D f (at_ * n) [p.m] = 0) : mkR f n at_ p D ps = ⟨0, swD D f (at_ * n) [p.m], setP ps at_ p⟩ := by
  unfold mkR
  simp only [h, ne_eq, not_true_eq_false, if_false]
theorem mkR_no {f n at_ : Nat} {p : Pl} {D : Ds} {ps : List Pl} (h : swE D f (at_ * n) [p.m] ≠ 0) : mkR f n at_ p D ps = ⟨swE D f (at_ * n) [p.m], swD D f (at_ * n) [p.m], ps⟩ := by
  unfold mkR
  simp only [ne_eq, h, not_false_eq_true, if_true]
/-- A row of one byte. -/
theorem one_rb {g : Nat} {m : UInt8} {c : Nat} (hc : 1 ≤ c) (h : Bk W g #[.int .u8 (m.toNat : Int)] 5) : Rb W (.slice (some ⟨g, 0, none⟩) [m].length c) [m] := ⟨some ⟨g, 0, none⟩, c, rfl, hc, by simp, fun i hi => ⟨g, 0, rfl, by
  obtain rfl : i = 0 := by simpa using hi
  exact h.cell 0⟩⟩
set_option maxRecDepth 100000 in
set_option maxHeartbeats 4000000 in
theorem mark10c (hx : Box vs o d f n t) (h : SH w W d O P vs b t D ps fl) {q : Nat} (hf : Few D q) (hq : q + 1 ≤ 1000) (hl : ps.length ≤ 500) (at_ : Nat) (hat : at_ ≤ ps.length) (p : Pl) :
    Calls Try.prog 61 #[.pointer (some ⟨b, o, none⟩), .int .i64 (at_ : Int), .agg #[.int .u8 (p.m.toNat : Int), .string p.tx]] W fun e w' => e = .returned (.int .i64 (mkR f n at_ p D ps).e) ∧ Post10 w d vs b t O P W (mkR f n at_ p D ps).D (mkR f n at_ p D ps).ps fl w' ∧ (at_ < ps.length → Cs b o W w') := by
  have HX : Hid (Box vs o d f n t) := hx
  have HH : Hid (SH w W d O P vs b t D ps fl) := h
  have HW : Hid (∀ w1 g, Below W.heap.size W w1 → W.heap.size ≤ g → Bk w1 g #[.int .u8 (p.m.toNat : Int)] 5 → Calls Try.prog 80 #[.pointer (some ⟨b, o, none⟩), .int .i64 (at_ : Int), .slice (some ⟨g, 0, none⟩) 1 1] w1 fun e w' => e = .returned (.int .i64 (swE D f (at_ * n) [p.m])) ∧ ∃ O', SH w w' d O' P vs b t (swD D f (at_ * n) [p.m]) ps fl ∧ Fp (fun k => O k + P k) w1 (fun k => O' k + P k) w' ∧ Cs b o W w') := fun w1 g h1 h2 h3 => by
    refine (write10 hx (h.below h1) hf hq at_ (by omega) (some ⟨g, 0, none⟩) [p.m] 1 (one_rb (by omega) h3) (fun b' n' e => ?_)).mono ?_
    · simp at e; obtain ⟨rfl, _⟩ := e; exact h.d1.new h2
    · rintro e w' ⟨rfl, O', h4, h5⟩
      exact ⟨rfl, O', h4, (h.below h1).wrote h4 h5, (h.csb o h1).trans ((h.below h1).cs o h5)⟩
  have HBx : Hid (O W.heap.size + P W.heap.size = 0) := by show _ = 0; rw [h.d1.new (Nat.le_refl _), h.pnew (Nat.le_refl _)]
  have hlW := h.blt
  clear h hx
  by_cases hz : swE D f (at_ * n) [p.m] = 0
  · rw [mkR_ok hz]
    rw [hz] at HW
    show Calls Try.prog 61 #[.pointer (some ⟨b, o, none⟩), .int .i64 (at_ : Int), .agg #[.int .u8 (p.m.toNat : Int), .string p.tx]] W fun e w' => e = .returned (.int .i64 0) ∧ Post10 w d vs b t O P W (swD D f (at_ * n) [p.m]) (setP ps at_ p) fl w' ∧ (at_ < ps.length → Cs b o W w')
    generalize swD D f (at_ * n) [p.m] = D1 at *
    clear hz
    have HB2 : Hid (Below W.heap.size W ((W.alloc (.cells #[.int .u8 (p.m.toNat : Int), .string p.tx] 94)).alloc (.cells #[.int .u8 (p.m.toNat : Int)] 5))) := ((Below.refl _ W).alloc (Nat.le_refl _) _).alloc (by simp) _
    have HK2 : Hid (Bk ((W.alloc (.cells #[.int .u8 (p.m.toNat : Int), .string p.tx] 94)).alloc (.cells #[.int .u8 (p.m.toNat : Int)] 5)) (W.heap.size + 1) #[.int .u8 (p.m.toNat : Int)] 5) := Bk.new' _ _ _ (by simp)
    have HR : Hid (∀ w2 : World, setP ps at_ p = setP ps at_ p) := fun _ => rfl
    obtain ⟨pm, hpm⟩ : ∃ pm, pm = p.m := ⟨_, rfl⟩
    have hm : ∃ m, m = (p.m.toNat : Int) := ⟨_, rfl⟩
    by_cases hA : at_ = ps.length
    · have eS : setP ps at_ p = ps ++ [p] := if_pos hA
      rw [eS]
      clear eS
      subst hA
      obtain ⟨j0, hj0, hj1, hj2, hj3⟩ := info_of infoPl
      have HJ : Hid (Try.prog.info? 94 = some j0 ∧ j0.zero = some (.agg #[.int .u8 0, .string ⟨#[]⟩]) ∧ j0.size = 2 ∧ j0.bytes = 24) := ⟨hj0, hj1, hj2, hj3⟩
      clear hj0 hj1 hj2 hj3
      go_enter Try.func61, Try.ntmps61
      go_wp2_with (go_at_call 80; refine stop10 ?_)
      unfold Hold10
      refine Calls.mono (HW.out _ _ HB2.out (by omega) HK2.out) ?_
      rintro e w8 ⟨rfl, O8, h8, f8, s8⟩
      have HF8 : Hid (Fp (fun k => O k + P k) W (fun k => O8 k + P k) w8) := (HH.out.fp_below HB2.out).trans f8
      have H8 : Hid (SH w w8 d O8 P vs b t D1 ps fl) := h8
      obtain ⟨pv, hs8⟩ := h8.sb
      have HS8 : Hid (SB w8 P vs b t pv ps fl) := hs8
      have c3 := hs8.c3 HX.out
      have lb := hs8.bk.lt
      have hbx : Bk w8 W.heap.size #[.int .u8 (p.m.toNat : Int), .string p.tx] 94 := f8.bk ((Bk.new _ _ _).alloc _) HBx.out
      have HBX8 : Hid (Bk w8 W.heap.size #[.int .u8 (p.m.toNat : Int), .string p.tx] 94) := hbx
      have hnx : O8 W.heap.size + P W.heap.size = 0 := f8.old W.heap.size (by simp; omega) HBx.out
      have HNX : Hid (O8 W.heap.size + P W.heap.size = 0) := hnx
      obtain ⟨ad, cap, rfl, hcap⟩ := hs8.row.shape
      have HRow : Hid ((w8.alloc (.cells #[.int .u8 0, .string ⟨#[]⟩] 94)).ownsRow 0 94 2 (.slice ad ps.length cap) ps.length (ps.flatMap pcl)) := World.ownsRow.alloc hs8.row _
      have HOne : Hid (Src Try.prog 2 88 (.slice (some ⟨w8.heap.size, 0, none⟩) 1 1) 1 (pcl pl0) (w8.alloc (.cells #[.int .u8 0, .string ⟨#[]⟩] 94))) := one_pl (p := pl0) (Bk.new _ _ _)
      clear hs8 h8 f8 hbx hnx
      go_wp2_with (at_builtin; refine stop10 ?_)
      unfold Hold10
      refine wpList_append_src rfl _ _ 88 88 rfl 0 94 j0 (.agg #[.int .u8 0, .string ⟨#[]⟩]) 2 24 Try.underlying88 HJ.out.1 HJ.out.2.1 HJ.out.2.2.1 HJ.out.2.2.2 rfl _ _ ps.length (ps.flatMap pcl) 1 (pcl pl0) rfl rfl HRow.out HOne.out (by unfold maxLen; omega) (by omega) (by simp) ?_
      intro v9 w9 hown9 hgr9 hsn9
      obtain ⟨hp9, d3, d3f, lb9⟩ := H8.out.app (p := pl0) HX.out HS8.out ((Below.refl _ w8).alloc (Nat.le_refl _) _) hown9 hgr9 hsn9
      have HP9 : Hid (Post10 w d vs b t O8 P w8 D1 (ps ++ [pl0]) fl (w9.setCell ⟨b, o + 3, none⟩ v9)) := hp9
      obtain ⟨ad9, n9, cap9, rfl⟩ := ownsRow_sl hown9
      clear hown9 hgr9 hsn9 hp9 c3
      go_upto_region 6 with fail
      generalize w9.setCell ⟨b, o + 3, none⟩ (.slice ad9 n9 cap9) = W10 at *
      obtain ⟨O9, P9, h9, f9⟩ := HP9.out
      have H9 : Hid (SH w W10 d O9 P9 vs b t D1 (ps ++ [pl0]) fl ∧ Fp (fun k => O8 k + P k) w8 (fun k => O9 k + P9 k) W10) := ⟨h9, f9⟩
      have hbx := f9.bk HBX8.out HNX.out
      clear d3 d3f lb9 lb
      obtain ⟨pv9, hs9⟩ := h9.sb
      obtain ⟨g, cap3, rfl, hcap3, hg, k0, k1, kf⟩ := hs9.row.at ps.length (by simp)
      have c3 := hs9.c3 HX.out
      have lb := hs9.bk.lt
      have y0 := hbx.cell 0
      have y1 := hbx.cell 1
      simp only [List.getElem?_toArray, List.getElem?_cons_zero, List.getElem?_cons_succ] at y0 y1
      have kf0 := kf (ps.length * 2)
      have kf1 := kf (ps.length * 2 + 1)
      have e9 : (ps ++ [pl0]).set ps.length p = ps ++ [p] := by rw [List.set_append_right _ _ (Nat.le_refl _)]; simp
      have hlen9 : (ps ++ [pl0]).length = ps.length + 1 := by simp
      have HE : Hid (Post10 w d vs b t O9 P9 W10 D1 (ps ++ [p]) fl ((W10.drew.setCell ⟨g, ps.length * 2, none⟩ (.int .u8 (p.m.toNat : Int))).setCell ⟨g, ps.length * 2 + 1, none⟩ (.string p.tx))) := by
        have hne : b ≠ g := fun e => hs9.apart HX.out.ty (k := g) rfl e.symm
        refine h9.rowed hs9 (v' := .slice (some ⟨g, 0, none⟩) (ps ++ [pl0]).length cap3) ?_ ?_ HX.out.ty (.inl rfl) (fun k hk h1 h2 => ?_) rfl rfl rfl (by simp)
        · exact ((hs9.bk.drew).other (a := ⟨g, ps.length * 2, none⟩) hne _).other (a := ⟨g, ps.length * 2 + 1, none⟩) hne _
        · have := Row.set (W := W10.drew) hs9.row ps.length p
          rw [e9] at this
          unfold Row at this ⊢
          rw [hlen9] at this ⊢
          rw [List.length_append, List.length_singleton] at this ⊢
          exact this
        · have hkg : k ≠ g := fun e => h2 (by rw [e]; rfl)
          exact (Below.heap_setCell _ _ _ k hkg).trans (Below.heap_setCell _ _ _ k hkg)
      have hlti : (ps.length : Int) < ((ps ++ [pl0]).length : Int) := by rw [hlen9]; omega
      clear hbx kf hs9 h9 f9 hcap3 e9 hlen9
      generalize (p.m.toNat : Int) = m at *
      generalize p.tx = tx at *
      generalize (ps ++ [pl0]).length = len9 at *
      generalize ps.length = len at *
      go_region
      all_goals
        go_wp2_with fail
        go_ret
        exact ⟨rfl, (HE.out.pre H9.out.2).pre HF8.out, fun h9 => absurd h9 (by omega)⟩
    · have eS : setP ps at_ p = ps.set at_ p := if_neg hA
      rw [eS]
      clear eS
      have hlt : at_ < ps.length := by omega
      have hAi : ¬ (at_ : Int) = (ps.length : Int) := by omega
      have hlti : (at_ : Int) < (ps.length : Int) := by omega
      go_enter Try.func61, Try.ntmps61
      go_wp2_with (go_at_call 80; refine stop10 ?_)
      unfold Hold10
      refine Calls.mono (HW.out _ _ HB2.out (by omega) HK2.out) ?_
      rintro e w8 ⟨rfl, O8, h8, f8, s8⟩
      obtain ⟨pv, hs8⟩ := h8.sb
      obtain ⟨g, cap, rfl, hcap, hg, k0, k1, kf⟩ := hs8.row.at at_ hlt
      have c3 := hs8.c3 HX.out
      have lb := hs8.bk.lt
      have hbx : Bk w8 W.heap.size #[.int .u8 (p.m.toNat : Int), .string p.tx] 94 := f8.bk ((Bk.new _ _ _).alloc _) HBx.out
      have y0 := hbx.cell 0
      have y1 := hbx.cell 1
      simp only [List.getElem?_toArray, List.getElem?_cons_zero, List.getElem?_cons_succ] at y0 y1
      have kf0 := kf (at_ * 2)
      have kf1 := kf (at_ * 2 + 1)
      have HE : Hid (Post10 w d vs b t O8 P w8 D1 (ps.set at_ p) fl ((w8.drew.setCell ⟨g, at_ * 2, none⟩ (.int .u8 (p.m.toNat : Int))).setCell ⟨g, at_ * 2 + 1, none⟩ (.string p.tx))) := by
        have hne : b ≠ g := fun e => hs8.apart HX.out.ty (k := g) rfl e.symm
        refine h8.rowed hs8 (v' := .slice (some ⟨g, 0, none⟩) ps.length cap) ?_ ?_ HX.out.ty (.inl rfl) (fun k hk h1 h2 => ?_) rfl rfl rfl (by simp)
        · exact ((hs8.bk.drew).other (a := ⟨g, at_ * 2, none⟩) hne _).other (a := ⟨g, at_ * 2 + 1, none⟩) hne _
        · have := Row.set (W := w8.drew) hs8.row at_ p
          unfold Row at this ⊢
          rw [List.length_set] at this ⊢
          exact this
        · have hkg : k ≠ g := fun e => h2 (by rw [e]; rfl)
          exact (Below.heap_setCell _ _ _ k hkg).trans (Below.heap_setCell _ _ _ k hkg)
      have HCs : Hid (Cs b o W ((w8.drew.setCell ⟨g, at_ * 2, none⟩ (.int .u8 (p.m.toNat : Int))).setCell ⟨g, at_ * 2 + 1, none⟩ (.string p.tx))) := by
        have hne : b ≠ g := fun e => hs8.apart HX.out.ty (k := g) rfl e.symm
        exact s8.trans (Cs.blk ((Below.heap_setCell _ _ _ b hne).trans (Below.heap_setCell _ _ _ b hne)))
      have HF8 : Hid (Fp (fun k => O k + P k) W (fun k => O8 k + P k) w8) := (HH.out.fp_below HB2.out).trans f8
      clear hbx kf hs8 h8 f8 hcap
      generalize (p.m.toNat : Int) = m at *
      generalize p.tx = tx at *
      generalize ps.length = len at *
      go_upto_region 6 with fail
      go_region
      all_goals
        go_wp2_with fail
        go_ret
        exact ⟨rfl, HE.out.pre HF8.out, fun _ => HCs.out⟩
  · rw [mkR_no hz]
    show Calls Try.prog 61 #[.pointer (some ⟨b, o, none⟩), .int .i64 (at_ : Int), .agg #[.int .u8 (p.m.toNat : Int), .string p.tx]] W fun e w' => e = .returned (.int .i64 (swE D f (at_ * n) [p.m])) ∧ Post10 w d vs b t O P W (swD D f (at_ * n) [p.m]) ps fl w' ∧ (at_ < ps.length → Cs b o W w')
    generalize swE D f (at_ * n) [p.m] = ev at *
    generalize swD D f (at_ * n) [p.m] = D1 at *
    have hne : (ev != 0) = true := by rw [bne_iff_ne]; exact hz
    have HB2 : Hid (Below W.heap.size W ((W.alloc (.cells #[.int .u8 (p.m.toNat : Int), .string p.tx] 94)).alloc (.cells #[.int .u8 (p.m.toNat : Int)] 5))) := ((Below.refl _ W).alloc (Nat.le_refl _) _).alloc (by simp) _
    have HK2 : Hid (Bk ((W.alloc (.cells #[.int .u8 (p.m.toNat : Int), .string p.tx] 94)).alloc (.cells #[.int .u8 (p.m.toNat : Int)] 5)) (W.heap.size + 1) #[.int .u8 (p.m.toNat : Int)] 5) := Bk.new' _ _ _ (by simp)
    generalize (p.m.toNat : Int) = m at *
    generalize p.tx = tx at *
    clear hz
    go_enter Try.func61, Try.ntmps61
    go_wp2_with (go_at_call 80; refine stop10 ?_)
    unfold Hold10
    refine Calls.mono (HW.out _ _ HB2.out (by omega) HK2.out) ?_
    rintro e w8 ⟨rfl, O8, h8, f8, s8⟩
    go_wp2_with fail
    go_ret
    exact ⟨rfl, ⟨O8, P, h8, (HH.out.fp_below HB2.out).trans f8⟩, fun _ => s8⟩
theorem mark10 (hx : Box vs o d f n t) (h : SH w W d O P vs b t D ps fl) {q : Nat} (hf : Few D q) (hq : q + 1 ≤ 1000) (hl : ps.length ≤ 500) (at_ : Nat) (hat : at_ ≤ ps.length) (p : Pl) :
    Calls Try.prog 61 #[.pointer (some ⟨b, o, none⟩), .int .i64 (at_ : Int), .agg #[.int .u8 (p.m.toNat : Int), .string p.tx]] W fun e w' => e = .returned (.int .i64 (mkR f n at_ p D ps).e) ∧ Post10 w d vs b t O P W (mkR f n at_ p D ps).D (mkR f n at_ p D ps).ps fl w' :=
  (mark10c hx h hf hq hl at_ hat p).mono fun e w' h => ⟨h.1, h.2.1⟩
end
end Go.Proofs.Ytjbhegakgdcldaa
end

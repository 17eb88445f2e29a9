/- Texts joined: Siz Shf. -/
import Derived.Test.YtapjonmgjccpbaaJ7
import Derived.Test.YtapjonmgjccpbaaJ0
import Derived.Test.YtapjonmgjccpbaaJ8
import Derived.Deep.RegionWith
section
set_option linter.unusedSimpArgs false
set_option linter.unusedVariables false
namespace Go.Proofs.Ytapjonmgjccpbaa
open Go.RowKit Go.Shelf
attribute [local go_sem] Oper.semAt_some

/-! Package size: Slot, slots, Shelf. -/
def slV (k : Int) : Int := if k = 0 then 128 else if k = 1 then 256 else if k = 2 then 512 else if k = 3 then 1024 else 0
def slE (k : Int) : Int := if 0 ≤ k ∧ k < 4 then 0 else 1
theorem slot (k : Int) (hk : -9223372036854775808 ≤ k ∧ k ≤ 9223372036854775807) (w : World) : Calls Try.prog 34 #[.int .i64 k] w fun e w' => e = .returned (.tuple #[.int .i64 (slV k), .int .i64 (slE k)]) ∧ w' = w := by
  by_cases h : 0 ≤ k ∧ k < 4
  · have : k = 0 ∨ k = 1 ∨ k = 2 ∨ k = 3 := by omega
    rcases this with rfl | rfl | rfl | rfl
    all_goals
      clear h hk
      go_enter Try.func34, Try.ntmps34
      go_wp2_with fail
      go_ret2
      exact ⟨rfl, rfl⟩
  · have hV : slV k = 0 := by unfold slV; rw [if_neg (by omega), if_neg (by omega), if_neg (by omega), if_neg (by omega)]
    have hE : slE k = 1 := if_neg h
    rw [hV, hE]
    clear hV hE
    by_cases h0 : k < 0
    · clear h
      go_enter Try.func34, Try.ntmps34
      go_wp2_with fail
      go_ret2
      exact ⟨rfl, rfl⟩
    · have h4 : 4 ≤ k := by omega
      have h4' : ¬ k < 4 := by omega
      clear h
      go_enter Try.func34, Try.ntmps34
      go_wp2_with fail
      go_ret2
      exact ⟨rfl, rfl⟩
theorem slots8 (w : World) : Calls Try.prog 62 #[] w fun e w' => e = .returned (.func (.func 93) #[] #[]) ∧ w' = w := by
  go_enter Try.func62, Try.ntmps62
  go_wp2_with fail
  go_ret
  exact ⟨rfl, rfl⟩
/-- Every shelf with its slots. -/
def slL : List Nat := [0, 1, 2, 3]
def slenc (x : Nat) : Array Value := #[.int .i64 (x : Int), .int .i64 (slV x)]
set_option maxRecDepth 100000 in
set_option maxHeartbeats 2000000 in
theorem slots_seq (m o : Nat) (hm : 1 ≤ m) (w : World) :
    SeqB Fence.wide m Try.prog 93 #[] slenc (KpX o (o + 1)) (fun xs => xs = slL) (fun xs => ∃ k, k < 4 ∧ xs = slL.take (k + 1)) w := by
  intro l J Jx W hbW hJ hJx hY h0
  have HY : Hid (∀ pre x A, J pre A → YieldAt Fence.wide (m - 1) Try.prog l (slenc x) A fun e B => (e = .returned (.bool true) ∧ J (pre ++ [x]) B ∧ KpX o (o + 1) A B) ∨ (e = .returned (.bool false) ∧ Jx (pre ++ [x]) B)) := hY
  clear hY hJ hJx hbW
  show CallsIn Fence.wide m Try.prog 93 #[.func (.yield l) #[] #[]] W _
  refine callsIn_of_wp Try.func93 rfl trivial ?_ rfl
  simp only [Try.ntmps93, List.size_toArray, List.length_cons, List.length_nil, Nat.reduceAdd, Nat.reduceSub, Array.replicate_succ, Array.replicate_zero, List.push_toArray, List.append_toArray, List.nil_append, List.cons_append]
  gi_wp2
  gi_loopw [5] (fun i wr => ∃ j : Nat, j ≤ 4 ∧ i = .int .i64 (j : Int) ∧ J (slL.take j) wr) (fun i _ => 4 - (intOf i).toNat)
  case atStart => exact ⟨0, by omega, rfl, h0⟩
  case round =>
    clear h0
    obtain ⟨j, hj, rfl, hJk⟩ := hrel
    by_cases hlt : j < 4
    · have hS : ∀ w, Calls Try.prog 34 #[.int .i64 (j : Int)] w fun e w' => e = .returned (.tuple #[.int .i64 (slV j), .int .i64 (slE j)]) ∧ w' = w := fun w => slot j (by omega) w
      have hbs : slL.take (j + 1) = slL.take j ++ [j] := by
        have : j = 0 ∨ j = 1 ∨ j = 2 ∨ j = 3 := by omega
        rcases this with rfl | rfl | rfl | rfl <;> rfl
      have HS : Hid (∀ w, Calls Try.prog 34 #[.int .i64 (j : Int)] w fun e w' => e = .returned (.tuple #[.int .i64 (slV j), .int .i64 (slE j)]) ∧ w' = w) := hS
      have HBs : Hid (slL.take (j + 1) = slL.take j ++ [j]) := hbs
      obtain ⟨fn, tmps, assign, body, hy, hR⟩ := HY.out _ j wr hJk
      simp only [slenc] at hy
      have hlt' : (j : Int) < 4 := by omega
      clear hS hbs
      generalize slV (j : Int) = sv at *
      generalize slE (j : Int) = se at *
      gi_wp2_with (refine ⟨trivial, ?_⟩; gi_at_call 34; refine (callsIn_wide.2 (HS.out _)).mono ?_; rintro e w2 ⟨rfl, rfl⟩)
      refine hR.mono ?_
      rintro e W3 (⟨rfl, hJ3, hk3⟩ | ⟨rfl, hJx3⟩)
      · gi_wp2
        go_roundw
        case rel => exact ⟨j + 1, by omega, by go_num, by rw [HBs.out]; exact hJ3⟩
        case measure => simp [intOf]; omega
      · gi_wp2
        refine bodyPost_ret (results_none rfl _ _ _) rfl ?_
        exact ⟨⟨_, rfl⟩, .inr ⟨_, ⟨j, by omega, HBs.out.symm⟩, hJx3⟩⟩
    · obtain rfl : j = 4 := by omega
      gi_wp2
      go_end0
      exact ⟨⟨_, rfl⟩, .inl ⟨_, rfl, hJk⟩⟩
/-- The first shelf whose slots are great enough. -/
def shV (n : Int) : Int := if n < 0 then 0 else if n ≤ 112 then 0 else if n ≤ 240 then 1 else if n ≤ 496 then 2 else if n ≤ 1008 then 3 else 0
def shE (n : Int) : Int := if n < 0 then 1 else if n ≤ 1008 then 0 else 2
structure HI8 (w W : World) (n : Int) (X : Nat) (pre : List Nat) : Prop where
  bN : Bk W X #[.int .i64 n] 3
  bF : Bk W (X + 1) #[.int .i64 0] 3
  bE : Bk W (X + 1 + 1) #[.int .i64 2] 33
  no : ∀ x ∈ pre, ¬ n ≤ slV x - 16
  hB : Below w.heap.size w W
structure HX8 (w W : World) (n : Int) (X : Nat) (pre : List Nat) : Prop where
  bF : ∃ (p : List Nat) (x : Nat), pre = p ++ [x] ∧ (∀ y ∈ p, ¬ n ≤ slV y - 16) ∧ n ≤ slV x - 16 ∧ Bk W (X + 1) #[.int .i64 (x : Int)] 3
  bE : Bk W (X + 1 + 1) #[.int .i64 0] 33
  hB : Below w.heap.size w W
theorem HI8.below {w A B : World} {n : Int} {X k : Nat} {pre : List Nat} (h : HI8 w A n X pre) (hb : Below k A B) (h1 : X + 1 + 1 < k) (h3 : w.heap.size ≤ k) : HI8 w B n X pre :=
  ⟨h.bN.below hb (by omega), h.bF.below hb (by omega), h.bE.below hb (by omega), h.no, h.hB.trans (hb.mono (by omega))⟩
theorem HX8.below {w A B : World} {n : Int} {X k : Nat} {pre : List Nat} (h : HX8 w A n X pre) (hb : Below k A B) (h1 : X + 1 + 1 < k) (h3 : w.heap.size ≤ k) : HX8 w B n X pre := by
  obtain ⟨p, x, e1, e2, e3, e4⟩ := h.bF
  exact ⟨⟨p, x, e1, e2, e3, e4.below hb (by omega)⟩, h.bE.below hb (by omega), h.hB.trans (hb.mono (by omega))⟩
end Go.Proofs.Ytapjonmgjccpbaa
end
section
set_option linter.unusedSimpArgs false
set_option linter.unusedVariables false
namespace Go.Proofs.Ytapjonmgjccpbaa
open Go.RowKit Go.Shelf
attribute [local go_sem] Oper.semAt_some

/-! size.Shelf. -/
theorem slV_bd (k : Int) : 0 ≤ slV k ∧ slV k ≤ 1024 := by
  unfold slV
  split
  · omega
  · split
    · omega
    · split
      · omega
      · split <;> omega
theorem sh_stop (n : Int) (hn : 0 ≤ n) (k : Nat) (hk : k < 4) (p : List Nat) (x : Nat) (e : slL.take (k + 1) = p ++ [x]) (hp : ∀ y ∈ p, ¬ n ≤ slV y - 16) (hx : n ≤ slV x - 16) : shV n = (x : Int) ∧ shE n = 0 := by
  have : k = 0 ∨ k = 1 ∨ k = 2 ∨ k = 3 := by omega
  have hdl := congrArg List.dropLast e
  have hgl := congrArg List.getLast? e
  rw [List.dropLast_concat] at hdl
  rw [List.getLast?_concat] at hgl
  subst hdl
  rcases this with rfl | rfl | rfl | rfl
  · obtain rfl : 0 = x := by simpa [slL] using hgl
    have e1 : slV ((0 : Nat) : Int) = 128 := rfl
    rw [e1] at hx
    exact ⟨by unfold shV; rw [if_neg (by omega), if_pos (by omega)]; rfl, by unfold shE; rw [if_neg (by omega), if_pos (by omega)]⟩
  · obtain rfl : 1 = x := by simpa [slL] using hgl
    have h0 := hp 0 (by simp [slL])
    have e1 : slV ((1 : Nat) : Int) = 256 := rfl
    have e2 : slV ((0 : Nat) : Int) = 128 := rfl
    rw [e1] at hx
    rw [e2] at h0
    exact ⟨by unfold shV; rw [if_neg (by omega), if_neg (by omega), if_pos (by omega)]; rfl, by unfold shE; rw [if_neg (by omega), if_pos (by omega)]⟩
  · obtain rfl : 2 = x := by simpa [slL] using hgl
    have h0 := hp 1 (by simp [slL])
    have e1 : slV ((2 : Nat) : Int) = 512 := rfl
    have e2 : slV ((1 : Nat) : Int) = 256 := rfl
    rw [e1] at hx
    rw [e2] at h0
    exact ⟨by unfold shV; rw [if_neg (by omega), if_neg (by omega), if_neg (by omega), if_pos (by omega)]; rfl, by unfold shE; rw [if_neg (by omega), if_pos (by omega)]⟩
  · obtain rfl : 3 = x := by simpa [slL] using hgl
    have h0 := hp 2 (by simp [slL])
    have e1 : slV ((3 : Nat) : Int) = 1024 := rfl
    have e2 : slV ((2 : Nat) : Int) = 512 := rfl
    rw [e1] at hx
    rw [e2] at h0
    exact ⟨by unfold shV; rw [if_neg (by omega), if_neg (by omega), if_neg (by omega), if_neg (by omega), if_pos (by omega)]; rfl, by unfold shE; rw [if_neg (by omega), if_pos (by omega)]⟩
theorem sh_done (n : Int) (hn : 0 ≤ n) (hp : ∀ y ∈ slL, ¬ n ≤ slV y - 16) : shV n = 0 ∧ shE n = 2 := by
  have h0 := hp 3 (by simp [slL])
  have e2 : slV ((3 : Nat) : Int) = 1024 := rfl
  rw [e2] at h0
  exact ⟨by unfold shV; rw [if_neg (by omega), if_neg (by omega), if_neg (by omega), if_neg (by omega), if_neg (by omega)], by unfold shE; rw [if_neg (by omega), if_neg (by omega)]⟩
set_option maxRecDepth 100000 in
set_option maxHeartbeats 1000000 in
theorem shelf_go (n : Int) (hn : 0 ≤ n ∧ n ≤ 9223372036854775807) (w : World) : Calls Try.prog 33 #[.int .i64 n] w fun e w' => e = .returned (.tuple #[.int .i64 (shV n), .int .i64 (shE n)]) ∧ Below w.heap.size w w' := by
  have HS : Hid (∀ w, Calls Try.prog 62 #[] w fun e w' => e = .returned (.func (.func 93) #[] #[]) ∧ w' = w) := fun w => slots8 w
  have hn0 : ¬ n < 0 := by omega
  have bN0 := Bk.new w #[.int .i64 n] 3
  have n0 := bN0.cell 0
  simp only [List.getElem?_toArray, List.getElem?_cons_zero] at n0
  refine (callsIn_wide (n := 6)).1 ?_
  refine callsIn_of_wp_marks Try.func33 rfl trivial ?_ rfl
  simp only [Try.ntmps33, List.size_toArray, List.length_cons, List.length_nil, Nat.reduceAdd, Nat.reduceSub, Array.replicate_succ, Array.replicate_zero, List.push_toArray, List.append_toArray, List.nil_append, List.cons_append]
  refine wpIn_wide.2 ?_
  go_wp2_with fail
  refine wp_scope_straight ?_
  go_wp2_with fail
  refine (wpIn_wide (n := 6)).1 (wpIn_label ?_)
  go_wp2_with (go_at_call 62; refine (HS.out _).mono ?_; rintro e W9 ⟨rfl, rfl⟩)
  obtain ⟨W9, hW9⟩ : ∃ W, W = (((w.alloc (Obj.cells #[Value.int IntKind.i64 n] 3)).alloc (Obj.cells #[Value.int IntKind.i64 0] 3)).alloc (Obj.cells #[Value.int IntKind.i64 2] 33)) := ⟨_, rfl⟩
  rw [← hW9]
  have h0 : HI8 w W9 n w.heap.size [] := by
    rw [hW9]
    exact ⟨(bN0.alloc _).alloc _, (Bk.new' _ _ _ (by simp)).alloc _, Bk.new' _ _ _ (by simp), fun x hx => (by cases hx), (((Below.refl _ _).alloc (Nat.le_refl _) _).alloc (by simp) _).alloc (by simp; omega) _⟩
  have hz9 : W9.heap.size = w.heap.size + 1 + 1 + 1 := by rw [hW9]; simp
  obtain ⟨X, hX⟩ : ∃ X, X = w.heap.size := ⟨_, rfl⟩
  have HX0 : Hid (X = w.heap.size) := hX
  rw [← hX] at h0 hz9 ⊢
  clear hX hW9 n0 bN0
  refine (wpIn_wide (n := 6)).1 ?_
  refine wpIn_rangeB rfl (by omega) (gf := 93) (lb := #[]) rfl trivial (enters_of Try.func93 rfl rfl)
    (slots_seq _ (X + 1) (by omega) W9) KpX.trans (fun W l o o' _ h hc => kpx_put W l o o' h hc) (Below.refl _ _) (fun _ => rfl)
    (fun pre W => HI8 w W n X pre) (fun c pre W => c = .exit 0 ∧ HX8 w W n X pre) (fun s A B h hb => h.below hb (by omega) (by have := HX0.out; omega)) (fun c s A B h hb => ⟨h.1, h.2.below hb (by omega) (by have := HX0.out; omega)⟩) h0
    (fun x a' W => a' = { tmps := #[.int .i64 n, .pointer (some ⟨X, 0, none⟩), .int .i64 0, .int .i64 0, .pointer (some ⟨X + 1, 0, none⟩), .pointer (some ⟨X + 1 + 1, 0, none⟩), .int .i64 (x : Int), .int .i64 (slV x), .int .i64 n, .bool (decide (n < 0)), .func (.func 93) #[] #[], .int .i64 (x : Int), .int .i64 (slV x), undef, undef, undef, undef, undef, undef, undef], defers := [] })
    (fun x a' A l o o' _ h hc hx => hx) ?assign ?body ?done ?stop
  case assign =>
    intro l pre x W K hi hK
    simp only [slenc]
    gi_wp2
    exact hK _ _ (KeepsFrom.refl _ _) (fun _ _ _ _ _ h => h) hi rfl
  case body =>
    rintro l pre x a' W hi rfl
    have hx := slV_bd x
    have HI : Hid (HI8 w W n X pre) := hi
    have n0 := hi.bN.cell 0
    have f0 := hi.bF.cell 0
    have e0 := hi.bE.cell 0
    have ff0 := hi.bF.frozen 0
    have ef0 := hi.bE.frozen 0
    have lE := hi.bE.lt
    simp only [List.getElem?_toArray, List.getElem?_cons_zero] at n0 f0 e0
    obtain ⟨s, hs⟩ : ∃ s, s = slV x := ⟨_, rfl⟩
    have HSx : Hid (s = slV x) := hs
    rw [← hs] at hx ⊢
    clear hi hs
    have hw : IntKind.i64.wrap (s - 16) = s - 16 := by rw [IntKind.wrap_i64]; omega
    by_cases hle : n ≤ s - 16
    · gi_wp2
      refine ⟨((KeepsOthers.setCell _ _ _).from _).trans ((KeepsOthers.setCell _ _ _).from _), rfl, ⟨⟨pre, x, rfl, HI.out.no, by rw [← HSx.out]; exact hle, ?_⟩, ?_, ?_⟩⟩
      · exact (Below.heap_setCell _ _ _ (X + 1) (by show X + 1 ≠ X + 1 + 1; omega)).trans (HI.out.bF.set 0 _ rfl)
      · have hE1 : Bk (W.setCell ⟨X + 1, 0, none⟩ (.int .i64 (x : Int))) (X + 1 + 1) #[.int .i64 2] 33 := (Below.heap_setCell W ⟨X + 1, 0, none⟩ _ (X + 1 + 1) (by show X + 1 + 1 ≠ X + 1; omega)).trans HI.out.bE
        exact hE1.set 0 _ rfl
      · exact (HI.out.hB.setCell (p := ⟨X + 1, 0, none⟩) (by show _ ≤ X + 1; have := HX0.out; omega) _).setCell (p := ⟨X + 1 + 1, 0, none⟩) (by show _ ≤ X + 1 + 1; have := HX0.out; omega) _
    · gi_wp2
      refine ⟨KeepsFrom.refl _ _, fun _ _ _ _ _ h => h, HI.out.bN, HI.out.bF, HI.out.bE, fun y hy => ?_, HI.out.hB⟩
      rcases List.mem_append.1 hy with h | h
      · exact HI.out.no y h
      · simp at h; rw [h, ← HSx.out]; omega
  case done =>
    rintro D xs W hD hxs hi hK
    subst hxs
    have HV : Hid (shV n = 0 ∧ shE n = 2) := sh_done n hn.1 hi.no
    have HI : Hid (HI8 w W n X slL) := hi
    have f0 := hi.bF.cell 0
    have e0 := hi.bE.cell 0
    simp only [List.getElem?_toArray, List.getElem?_cons_zero] at f0 e0
    clear hi
    go_wp2_with fail
    go_region
    all_goals
      go_wp2_with fail
      (try simp only [Exit.noGoto])
      refine ⟨by simp, .inl ⟨_, _, rfl, run_takeDeferred hK, ?_⟩⟩
      refine ⟨.tuple #[.int .i64 0, .int .i64 2], ?_, by rw [HV.out.1, HV.out.2], HI.out.hB.drew.trans (below_put _ _ (by have := HX0.out; omega))⟩
      simp [results, Try.f33, go_sem]
  case stop =>
    rintro D c pre W hD ⟨k, hk, rfl⟩ ⟨rfl, hi⟩ hK
    obtain ⟨p, x, e1, e2, e3, e4⟩ := hi.bF
    have HV : Hid (shV n = (x : Int) ∧ shE n = 0) := sh_stop n hn.1 k hk p x e1 e2 e3
    have HB : Hid (Below w.heap.size w W) := hi.hB
    have f0 := e4.cell 0
    have e0 := hi.bE.cell 0
    simp only [List.getElem?_toArray, List.getElem?_cons_zero] at f0 e0
    clear hi e1 e2 e3 e4
    gi_wp2
    go_wp2_with fail
    go_region
    all_goals
      go_wp2_with fail
      (try simp only [Exit.noGoto])
      refine ⟨by simp, .inl ⟨_, _, rfl, run_takeDeferred hK, ?_⟩⟩
      refine ⟨.tuple #[.int .i64 (x : Int), .int .i64 0], ?_, by rw [HV.out.1, HV.out.2], HB.out.drew.trans (below_put _ _ (by have := HX0.out; omega))⟩
      simp [results, Try.f33, go_sem]
theorem shelf_no (n : Int) (hn : n < 0) (w : World) : Calls Try.prog 33 #[.int .i64 n] w fun e w' => e = .returned (.tuple #[.int .i64 (shV n), .int .i64 (shE n)]) ∧ Below w.heap.size w w' := by
  have hV : shV n = 0 := if_pos hn
  have hE : shE n = 1 := if_pos hn
  rw [hV, hE]
  clear hV hE
  refine (callsIn_wide (n := 6)).1 ?_
  refine callsIn_of_wp_marks Try.func33 rfl trivial ?_ rfl
  simp only [Try.ntmps33, List.size_toArray, List.length_cons, List.length_nil, Nat.reduceAdd, Nat.reduceSub, Array.replicate_succ, Array.replicate_zero, List.push_toArray, List.append_toArray, List.nil_append, List.cons_append]
  refine wpIn_wide.2 ?_
  go_wp2_with fail
  refine wp_scope_straight ?_
  go_wp2_with fail
  (try simp only [Exit.noGoto])
  refine ⟨.tuple #[.int .i64 0, .int .i64 1], ?_, rfl, (Below.refl _ _).alloc (Nat.le_refl _) _⟩
  simp [results, Try.f33, go_sem]
theorem shelf (n : Int) (hn : n ≤ 9223372036854775807) (w : World) : Calls Try.prog 33 #[.int .i64 n] w fun e w' => e = .returned (.tuple #[.int .i64 (shV n), .int .i64 (shE n)]) ∧ Below w.heap.size w w' := by
  by_cases h : n < 0
  · exact shelf_no n h w
  · exact shelf_go n ⟨by omega, hn⟩ w
theorem num8 (n : Int) (w : World) : Calls Try.prog 28 #[.int .i64 n] w fun e w' => e = .returned (.int .i64 n) ∧ w' = w := by
  go_enter Try.func28, Try.ntmps28
  go_wp2
  go_ret
  exact ⟨rfl, rfl⟩
theorem wakes8 (w : World) : Calls Try.prog 32 #[] w fun e w' => e = .returned (.bool true) ∧ Below w.heap.size w w' := by
  have HS : Hid (∀ w, Calls Try.prog 33 #[.int .i64 113] w fun e w' => e = .returned (.tuple #[.int .i64 1, .int .i64 0]) ∧ Below w.heap.size w w') := fun w => shelf 113 (by omega) w
  go_enter Try.func32, Try.ntmps32
  go_wp2_with fail
  refine (HS.out _).mono ?_
  rintro e w1 ⟨rfl, hb1⟩
  go_wp2_with (go_at_call 28; refine (num8 _ _).mono ?_; rintro e w1 ⟨rfl, rfl⟩)
  go_ret
  exact ⟨rfl, hb1⟩
theorem sh_facts (n : Int) (h : 0 ≤ n ∧ n ≤ 1008) : shE n = 0 ∧ (0 ≤ shV n ∧ shV n ≤ 3) ∧ slE (shV n) = 0 ∧ n + 16 ≤ slV (shV n) ∧ (0 < shV n → slE (shV n - 1) = 0 ∧ slV (shV n - 1) < n + 16 ∧ slV (shV n) = 2 * slV (shV n - 1)) := by
  have hE : shE n = 0 := by unfold shE; rw [if_neg (by omega), if_pos (by omega)]
  refine ⟨hE, ?_⟩
  unfold shV
  rw [if_neg (by omega)]
  split
  · exact ⟨by omega, rfl, by show n + 16 ≤ 128; omega, fun h => absurd h (by omega)⟩
  · split
    · exact ⟨by omega, rfl, by show n + 16 ≤ 256; omega, fun _ => ⟨rfl, by show (128 : Int) < n + 16; omega, rfl⟩⟩
    · split
      · exact ⟨by omega, rfl, by show n + 16 ≤ 512; omega, fun _ => ⟨rfl, by show (256 : Int) < n + 16; omega, rfl⟩⟩
      · rw [if_pos (by omega)]
        exact ⟨by omega, rfl, by show n + 16 ≤ 1024; omega, fun _ => ⟨rfl, by show (512 : Int) < n + 16; omega, rfl⟩⟩
end Go.Proofs.Ytapjonmgjccpbaa
end

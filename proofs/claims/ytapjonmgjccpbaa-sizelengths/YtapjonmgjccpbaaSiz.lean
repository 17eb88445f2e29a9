import Derived.Test.YtapjonmgjccpbaaRF
import Derived.Test.YtapjonmgjccpbaaBlk
import Derived.Test.YtapjonmgjccpbaaMk
set_option linter.unusedSimpArgs false
set_option linter.unusedVariables false
namespace Go.Proofs.Ytapjonmgjccpbaa
open Go.RowKit Go.Shelf
attribute [local go_sem] Oper.semAt_some

/-! Package size: Slot, slots, Shelf. -/
def slV (k : Int) : Int := if k = 0 then 128 else if k = 1 then 256 else if k = 2 then 512 else if k = 3 then 1024 else 0
def slE (k : Int) : Int := if 0 ≤ k ∧ k < 4 then 0 else 1
theorem slot (k : Int) (hk : -9223372036854775808 ≤ k ∧ k ≤ 9223372036854775807) (w : World) : Calls Try.prog 34 #[.int .i64 k] w fun e w' => e = .returned (.tuple #[.int .i64 (slV k), .int .i64 (slE k)]) ∧ w' = w := by
  by_cases h : 0 ≤ k ∧ k < 4
  · have : k = 0 ∨ k = 1 ∨ k = 2 ∨ k = 3 := by omega
    rcases this with rfl | rfl | rfl | rfl
    all_goals
      clear h hk
      go_enter Try.func34, Try.ntmps34
      go_wp2_with fail
      go_ret2
      exact ⟨rfl, rfl⟩
  · have hV : slV k = 0 := by unfold slV; rw [if_neg (by omega), if_neg (by omega), if_neg (by omega), if_neg (by omega)]
    have hE : slE k = 1 := if_neg h
    rw [hV, hE]
    clear hV hE
    by_cases h0 : k < 0
    · clear h
      go_enter Try.func34, Try.ntmps34
      go_wp2_with fail
      go_ret2
      exact ⟨rfl, rfl⟩
    · have h4 : 4 ≤ k := by omega
      have h4' : ¬ k < 4 := by omega
      clear h
      go_enter Try.func34, Try.ntmps34
      go_wp2_with fail
      go_ret2
      exact ⟨rfl, rfl⟩
theorem slots8 (w : World) : Calls Try.prog 62 #[] w fun e w' => e = .returned (.func (.func 93) #[] #[]) ∧ w' = w := by
  go_enter Try.func62, Try.ntmps62
  go_wp2_with fail
  go_ret
  exact ⟨rfl, rfl⟩
/-- Every shelf with its slots. -/
def slL : List Nat := [0, 1, 2, 3]
def slenc (x : Nat) : Array Value := #[.int .i64 (x : Int), .int .i64 (slV x)]
set_option maxRecDepth 100000 in
set_option maxHeartbeats 2000000 in
theorem slots_seq (m o : Nat) (hm : 1 ≤ m) (w : World) :
    SeqB Fence.wide m Try.prog 93 #[] slenc (KpX o (o + 1)) (fun xs => xs = slL) (fun xs => ∃ k, k < 4 ∧ xs = slL.take (k + 1)) w := by
  intro l J Jx W hbW hJ hJx hY h0
  have HY : Hid (∀ pre x A, J pre A → YieldAt Fence.wide (m - 1) Try.prog l (slenc x) A fun e B => (e = .returned (.bool true) ∧ J (pre ++ [x]) B ∧ KpX o (o + 1) A B) ∨ (e = .returned (.bool false) ∧ Jx (pre ++ [x]) B)) := hY
  clear hY hJ hJx hbW
  show CallsIn Fence.wide m Try.prog 93 #[.func (.yield l) #[] #[]] W _
  refine callsIn_of_wp Try.func93 rfl trivial ?_ rfl
  simp only [Try.ntmps93, List.size_toArray, List.length_cons, List.length_nil, Nat.reduceAdd, Nat.reduceSub, Array.replicate_succ, Array.replicate_zero, List.push_toArray, List.append_toArray, List.nil_append, List.cons_append]
  gi_wp2
  gi_loopw [5] (fun i wr => ∃ j : Nat, j ≤ 4 ∧ i = .int .i64 (j : Int) ∧ J (slL.take j) wr) (fun i _ => 4 - (intOf i).toNat)
  case atStart => exact ⟨0, by omega, rfl, h0⟩
  case round =>
    clear h0
    obtain ⟨j, hj, rfl, hJk⟩ := hrel
    by_cases hlt : j < 4
    · have hS : ∀ w, Calls Try.prog 34 #[.int .i64 (j : Int)] w fun e w' => e = .returned (.tuple #[.int .i64 (slV j), .int .i64 (slE j)]) ∧ w' = w := fun w => slot j (by omega) w
      have hbs : slL.take (j + 1) = slL.take j ++ [j] := by
        have : j = 0 ∨ j = 1 ∨ j = 2 ∨ j = 3 := by omega
        rcases this with rfl | rfl | rfl | rfl <;> rfl
      have HS : Hid (∀ w, Calls Try.prog 34 #[.int .i64 (j : Int)] w fun e w' => e = .returned (.tuple #[.int .i64 (slV j), .int .i64 (slE j)]) ∧ w' = w) := hS
      have HBs : Hid (slL.take (j + 1) = slL.take j ++ [j]) := hbs
      obtain ⟨fn, tmps, assign, body, hy, hR⟩ := HY.out _ j wr hJk
      simp only [slenc] at hy
      have hlt' : (j : Int) < 4 := by omega
      clear hS hbs
      generalize slV (j : Int) = sv at *
      generalize slE (j : Int) = se at *
      gi_wp2_with (refine ⟨trivial, ?_⟩; gi_at_call 34; refine (callsIn_wide.2 (HS.out _)).mono ?_; rintro e w2 ⟨rfl, rfl⟩)
      refine hR.mono ?_
      rintro e W3 (⟨rfl, hJ3, hk3⟩ | ⟨rfl, hJx3⟩)
      · gi_wp2
        go_roundw
        case rel => exact ⟨j + 1, by omega, by go_num, by rw [HBs.out]; exact hJ3⟩
        case measure => simp [intOf]; omega
      · gi_wp2
        refine bodyPost_ret (results_none rfl _ _ _) rfl ?_
        exact ⟨⟨_, rfl⟩, .inr ⟨_, ⟨j, by omega, HBs.out.symm⟩, hJx3⟩⟩
    · obtain rfl : j = 4 := by omega
      gi_wp2
      go_end0
      exact ⟨⟨_, rfl⟩, .inl ⟨_, rfl, hJk⟩⟩
/-- The first shelf whose slots are great enough. -/
def shV (n : Int) : Int := if n < 0 then 0 else if n ≤ 112 then 0 else if n ≤ 240 then 1 else if n ≤ 496 then 2 else if n ≤ 1008 then 3 else 0
def shE (n : Int) : Int := if n < 0 then 1 else if n ≤ 1008 then 0 else 2
structure HI8 (w W : World) (n : Int) (X : Nat) (pre : List Nat) : Prop where
  bN : Bk W X #[.int .i64 n] 3
  bF : Bk W (X + 1) #[.int .i64 0] 3
  bE : Bk W (X + 1 + 1) #[.int .i64 2] 33
  no : ∀ x ∈ pre, ¬ n ≤ slV x - 16
  hB : Below w.heap.size w W
structure HX8 (w W : World) (n : Int) (X : Nat) (pre : List Nat) : Prop where
  bF : ∃ (p : List Nat) (x : Nat), pre = p ++ [x] ∧ (∀ y ∈ p, ¬ n ≤ slV y - 16) ∧ n ≤ slV x - 16 ∧ Bk W (X + 1) #[.int .i64 (x : Int)] 3
  bE : Bk W (X + 1 + 1) #[.int .i64 0] 33
  hB : Below w.heap.size w W
theorem HI8.below {w A B : World} {n : Int} {X k : Nat} {pre : List Nat} (h : HI8 w A n X pre) (hb : Below k A B) (h1 : X + 1 + 1 < k) (h3 : w.heap.size ≤ k) : HI8 w B n X pre :=
  ⟨h.bN.below hb (by omega), h.bF.below hb (by omega), h.bE.below hb (by omega), h.no, h.hB.trans (hb.mono (by omega))⟩
theorem HX8.below {w A B : World} {n : Int} {X k : Nat} {pre : List Nat} (h : HX8 w A n X pre) (hb : Below k A B) (h1 : X + 1 + 1 < k) (h3 : w.heap.size ≤ k) : HX8 w B n X pre := by
  obtain ⟨p, x, e1, e2, e3, e4⟩ := h.bF
  exact ⟨⟨p, x, e1, e2, e3, e4.below hb (by omega)⟩, h.bE.below hb (by omega), h.hB.trans (hb.mono (by omega))⟩
end Go.Proofs.Ytapjonmgjccpbaa

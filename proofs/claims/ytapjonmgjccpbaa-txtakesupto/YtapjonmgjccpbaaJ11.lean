/- Texts joined: Shr ROf. -/
import Derived.Test.YtapjonmgjccpbaaJ0
import Derived.Test.YtapjonmgjccpbaaJ10
import Derived.Test.YtapjonmgjccpbaaJ7
import Derived.Test.YtapjonmgjccpbaaJ2
section
set_option linter.unusedSimpArgs false
set_option linter.unusedVariables false
namespace Go.Proofs.Ytapjonmgjccpbaa
open Go.RowKit Go.Shelf
attribute [local go_sem] Oper.semAt_some

/-! tx.shares, as a sequence. -/
theorem shares_any (t : TX) (u v : Value) (w : World) : Calls Try.prog 88 #[.agg (txc t u v)] w fun e w' => e = .returned (.func (.func 107) #[] #[.pointer (some ⟨w.heap.size, 0, none⟩)]) ∧ w' = w.alloc (.cells (txc t u v) 30) := by
  go_enter Try.func88, Try.ntmps88
  go_wp2
  go_ret
  exact ⟨rfl, rfl⟩
/-- What a round keeps: all blocks of cells but two, and no block goes. -/
def KpS (o p : Nat) (A B : World) : Prop := KpX o p A B ∧ A.heap.size ≤ B.heap.size
theorem KpS.trans {o p : Nat} (A B C : World) (h : KpS o p A B) (k : KpS o p B C) : KpS o p A C := ⟨KpX.trans A B C h.1 k.1, Nat.le_trans h.2 k.2⟩
def shenc (x : Nat × Nat) : Array Value := #[V x.1, V x.2]
def shL (t : TX) (g : Nat) : List (Nat × Nat) := [(t.ca, g), (t.bc, 131072 * t.bs.length), (t.va, 1)]
theorem gas_ok (n : Nat) (h1 : 1 ≤ n) (h4 : n ≤ 4) : gasV (n : Int) = ((131072 * n : Nat) : Int) := by
  have : n = 1 ∨ n = 2 ∨ n = 3 ∨ n = 4 := by omega
  rcases this with rfl | rfl | rfl | rfl <;> decide
set_option maxRecDepth 100000 in
set_option maxHeartbeats 4000000 in
theorem shares_seq (m : Nat) (t : TX) (u : Value) (aB : Option Addr) (cB X o p g : Nat) (hm : 1 ≤ m) (w : World) (bX : Bk w X (txc t u (.slice aB t.bs.length cB)) 30) (ho : X ≠ o) (hp : X ≠ p)
    (hg : t.ga = (g : Int)) (hg2 : g ≤ 1073741824) (hn1 : 1 ≤ t.bs.length) (hn4 : t.bs.length ≤ 4) :
    SeqB Fence.wide m Try.prog 107 #[.pointer (some ⟨X, 0, none⟩)] shenc (KpS o p) (fun xs => xs = shL t g) (fun xs => ∃ k, xs = (shL t g).take (k + 1)) w := by
  intro l J Jx W hbW hJ hJx hY h0
  have bX := bX.below hbW bX.lt
  have HY : Hid (∀ pre x A, J pre A → YieldAt Fence.wide (m - 1) Try.prog l (shenc x) A fun e B => (e = .returned (.bool true) ∧ J (pre ++ [x]) B ∧ KpS o p A B) ∨ (e = .returned (.bool false) ∧ Jx (pre ++ [x]) B)) := hY
  have HJ : Hid (∀ s A B, J s A → Below W.heap.size A B → J s B) := hJ
  have HG : Hid (∀ w, Calls Try.prog 108 #[.int .i64 (t.bs.length : Int)] w fun e w' => e = .returned (.tuple #[.int .i64 (gasV t.bs.length), .int .i64 (gasE t.bs.length)]) ∧ w' = w) := fun w => gas _ w
  rw [gas_ok _ hn1 hn4] at HG
  have HW1 : Hid (∀ w, Calls Try.prog 81 #[.int .i64 (g : Int)] w fun e w' => e = .returned (V g) ∧ Below w.heap.size w w') := fun w => whole g (by omega) w
  have HW2 : Hid (∀ w, Calls Try.prog 81 #[.int .i64 ((131072 * t.bs.length : Nat) : Int)] w fun e w' => e = .returned (V (131072 * t.bs.length)) ∧ Below w.heap.size w w') := fun w => whole _ (by omega) w
  have HW3 : Hid (∀ w, Calls Try.prog 81 #[.int .i64 1] w fun e w' => e = .returned (V 1) ∧ Below w.heap.size w w') := fun w => whole 1 (by omega) w
  have HL : Hid (shL t g = [(t.ca, g), (t.bc, 131072 * t.bs.length), (t.va, 1)]) := rfl
  obtain ⟨fr, no, ti, ca, bc, va, ga, hs, bs⟩ := t
  dsimp only at *
  subst hg
  generalize 131072 * bs.length = gs at *
  generalize gasE (bs.length : Int) = ge at *
  generalize hbl : bs.length = bl at *
  clear hY hJ hJx hbl
  show CallsIn Fence.wide m Try.prog 107 #[.func (.yield l) #[] #[], .pointer (some ⟨X, 0, none⟩)] W _
  refine callsIn_of_wp Try.func107 rfl trivial ?_ rfl
  simp only [Try.ntmps107, List.size_toArray, List.length_cons, List.length_nil, Nat.reduceAdd, Nat.reduceSub, Array.replicate_succ, Array.replicate_zero, List.push_toArray, List.append_toArray, List.nil_append, List.cons_append]
  have x6 := bX.cell 6
  have x7 := bX.cell 7
  have x8 := bX.cell 8
  have x9 := bX.cell 9
  have x10 := bX.cell 10
  have x11 := bX.cell 11
  have x12 := bX.cell 12
  have x13 := bX.cell 13
  have x14 := bX.cell 14
  have x15 := bX.cell 15
  have x16 := bX.cell 16
  have x17 := bX.cell 17
  have x18 := bX.cell 18
  have x20 := bX.cell 20
  simp only [List.getElem?_toArray, List.getElem?_cons_zero, List.getElem?_cons_succ] at x6 x7 x8 x9 x10 x11 x12 x13 x14 x15 x16 x17 x18 x20
  gi_wp2_with (refine ⟨trivial, ?_⟩; gi_at_call 108; refine (callsIn_wide.2 (HG.out _)).mono ?_; rintro e w' ⟨rfl, hww⟩; obtain rfl : W = w' := hww.symm)
  refine wpIn_region_any (by kernel_rfl) ?_
  (try (change wpAnyIn _ _ _ _ _ _ _ _ _ (World.drew _)))
  refine wpAnyIn_take (i := 0) (v := ?_) rfl rfl (by kernel_rfl) (by kernel_rfl) (by kernel_rfl) (fun _ _ _ h => h) ⟨Or.inl ⟨by rfl, ?_⟩, fun _ => rfl⟩ ?_
  rotate_left
  · (intro w; go_simp; try (with_reducible rfl))
  (try dsimp only); (try simp only [Act.put, List.setIfInBounds_toArray, List.set_cons_zero, List.set_cons_succ])
  refine wpAnyIn_take (i := 1) (v := ?_) rfl rfl (by kernel_rfl) (by kernel_rfl) (by kernel_rfl) (fun _ _ _ h => h) ⟨Or.inl ⟨by rfl, ?_⟩, fun _ => rfl⟩ ?_
  rotate_left
  · (intro w; go_simp; try (with_reducible rfl))
  (try dsimp only); (try simp only [Act.put, List.setIfInBounds_toArray, List.set_cons_zero, List.set_cons_succ])
  refine wpAnyIn_take (i := 3) (v := ?_) rfl rfl (by kernel_rfl) (by kernel_rfl) (by kernel_rfl) (fun _ _ _ h => h) ⟨Or.inl ⟨by rfl, ?_⟩, fun _ => rfl⟩ ?_
  rotate_left
  · (intro w; go_simp; try (with_reducible rfl))
  (try dsimp only); (try simp only [Act.put, List.setIfInBounds_toArray, List.set_cons_zero, List.set_cons_succ])
  refine (@id ((∀ w5, Below W.heap.size W w5 → (?T : World → Prop) w5) → _) (fun key => ?main)) ?pf
  case main =>
    refine wpAnyIn_ready (rs := [2, 4]) (by kernel_rfl) (by simp) ?_
    refine AllReadyIn.cons rfl (fun K hK => ?_) (AllReadyIn.cons rfl (fun K hK => ?_) AllReadyIn.nil)
    · go_simp
      refine hK _ _ ?_
      clear hK K
      (try dsimp only); (try simp only [Act.put, List.setIfInBounds_toArray, List.set_cons_zero, List.set_cons_succ])
      refine wpAnyIn_ready (rs := [4]) (by kernel_rfl) (by simp) ?_
      refine AllReadyIn.cons rfl (fun K hK => ?_) AllReadyIn.nil
      · go_simp
        refine hK _ _ ?_
        clear hK K
        (try dsimp only); (try simp only [Act.put, List.setIfInBounds_toArray, List.set_cons_zero, List.set_cons_succ])
        refine wpAnyIn_ready (rs := [5]) (by kernel_rfl) (by simp) ?_
        refine AllReadyIn.cons rfl (fun K hK => ?_) AllReadyIn.nil
        · go_simp
          gi_wp2_with (refine ⟨trivial, ?_⟩; gi_at_call 81; refine (callsIn_wide.2 (HW1.out _)).mono ?_; rintro e w5 ⟨rfl, hb5⟩)
          have bX := (bX.drew).below hb5 (bX.drew).lt
          have x6 := bX.cell 6
          have x7 := bX.cell 7
          have x8 := bX.cell 8
          have x9 := bX.cell 9
          have x10 := bX.cell 10
          have x11 := bX.cell 11
          have x12 := bX.cell 12
          have x13 := bX.cell 13
          have x14 := bX.cell 14
          have x15 := bX.cell 15
          have x16 := bX.cell 16
          have x17 := bX.cell 17
          have x18 := bX.cell 18
          have x20 := bX.cell 20
          simp only [List.getElem?_toArray, List.getElem?_cons_zero, List.getElem?_cons_succ] at x6 x7 x8 x9 x10 x11 x12 x13 x14 x15 x16 x17 x18 x20
          (try dsimp only); (try simp only [Act.put, List.setIfInBounds_toArray, List.set_cons_zero, List.set_cons_succ])
          exact key w5 ((Below.refl _ W).drew.trans (hb5.mono (by simp)))
    · go_simp
      refine hK _ _ ?_
      clear hK K
      (try dsimp only); (try simp only [Act.put, List.setIfInBounds_toArray, List.set_cons_zero, List.set_cons_succ])
      refine wpAnyIn_ready (rs := [2, 5]) (by kernel_rfl) (by simp) ?_
      refine AllReadyIn.cons rfl (fun K hK => ?_) (AllReadyIn.cons rfl (fun K hK => ?_) AllReadyIn.nil)
      · go_simp
        refine hK _ _ ?_
        clear hK K
        (try dsimp only); (try simp only [Act.put, List.setIfInBounds_toArray, List.set_cons_zero, List.set_cons_succ])
        refine wpAnyIn_ready (rs := [5]) (by kernel_rfl) (by simp) ?_
        refine AllReadyIn.cons rfl (fun K hK => ?_) AllReadyIn.nil
        · go_simp
          gi_wp2_with (refine ⟨trivial, ?_⟩; gi_at_call 81; refine (callsIn_wide.2 (HW1.out _)).mono ?_; rintro e w5 ⟨rfl, hb5⟩)
          have bX := (bX.drew).below hb5 (bX.drew).lt
          have x6 := bX.cell 6
          have x7 := bX.cell 7
          have x8 := bX.cell 8
          have x9 := bX.cell 9
          have x10 := bX.cell 10
          have x11 := bX.cell 11
          have x12 := bX.cell 12
          have x13 := bX.cell 13
          have x14 := bX.cell 14
          have x15 := bX.cell 15
          have x16 := bX.cell 16
          have x17 := bX.cell 17
          have x18 := bX.cell 18
          have x20 := bX.cell 20
          simp only [List.getElem?_toArray, List.getElem?_cons_zero, List.getElem?_cons_succ] at x6 x7 x8 x9 x10 x11 x12 x13 x14 x15 x16 x17 x18 x20
          (try dsimp only); (try simp only [Act.put, List.setIfInBounds_toArray, List.set_cons_zero, List.set_cons_succ])
          exact key w5 ((Below.refl _ W).drew.trans (hb5.mono (by simp)))
      · go_simp
        gi_wp2_with (refine ⟨trivial, ?_⟩; gi_at_call 81; refine (callsIn_wide.2 (HW1.out _)).mono ?_; rintro e w5 ⟨rfl, hb5⟩)
        have bX := (bX.drew).below hb5 (bX.drew).lt
        have x6 := bX.cell 6
        have x7 := bX.cell 7
        have x8 := bX.cell 8
        have x9 := bX.cell 9
        have x10 := bX.cell 10
        have x11 := bX.cell 11
        have x12 := bX.cell 12
        have x13 := bX.cell 13
        have x14 := bX.cell 14
        have x15 := bX.cell 15
        have x16 := bX.cell 16
        have x17 := bX.cell 17
        have x18 := bX.cell 18
        have x20 := bX.cell 20
        simp only [List.getElem?_toArray, List.getElem?_cons_zero, List.getElem?_cons_succ] at x6 x7 x8 x9 x10 x11 x12 x13 x14 x15 x16 x17 x18 x20
        (try dsimp only); (try simp only [Act.put, List.setIfInBounds_toArray, List.set_cons_zero, List.set_cons_succ])
        refine wpAnyIn_ready (rs := [2]) (by kernel_rfl) (by simp) ?_
        refine AllReadyIn.cons rfl (fun K hK => ?_) AllReadyIn.nil
        · go_simp
          refine hK _ _ ?_
          clear hK K
          (try dsimp only); (try simp only [Act.put, List.setIfInBounds_toArray, List.set_cons_zero, List.set_cons_succ])
          exact key w5 ((Below.refl _ W).drew.trans (hb5.mono (by simp)))
  case pf =>
    intro w5 hb5
    have hJ5 : J [] w5 := HJ.out _ _ _ h0 hb5
    have bX := bX.below hb5 bX.lt
    clear x6 x7 x8 x9 x10 x11 x12 x13 x14 x15 x16 x17 x18 x20
    clear h0 HW1
    have hWs5 : W.heap.size ≤ w5.heap.size := hb5.size
    refine wpAnyIn_ready (rs := [6]) (by kernel_rfl) (by simp) ?_
    refine AllReadyIn.cons rfl (fun K hK => ?_) AllReadyIn.nil
    obtain ⟨fn, tmps, assign, body, hy, hR⟩ := HY.out [] (ca, g) w5 hJ5
    simp only [shenc] at hy
    go_simp
    refine hR.mono ?_
    clear hR hy
    rintro e W3 (⟨rfl, hJ3, hk3⟩ | ⟨rfl, hJx3⟩)
    case inr =>
      refine hK _ _ ?_
      clear hK K
      (try dsimp only); (try simp only [Act.put, List.setIfInBounds_toArray, List.set_cons_zero, List.set_cons_succ])
      refine wpAnyIn_take (i := 7) (v := ?_) rfl rfl (by kernel_rfl) (by kernel_rfl) (by kernel_rfl) (fun _ _ _ h => h) ⟨Or.inl ⟨by rfl, ?_⟩, fun _ => rfl⟩ ?_
      rotate_left
      · (intro w; go_simp; try (with_reducible rfl))
      (try dsimp only); (try simp only [Act.put, List.setIfInBounds_toArray, List.set_cons_zero, List.set_cons_succ])
      refine wpAnyIn_take (i := 8) (v := undef) rfl rfl (by kernel_rfl) (by kernel_rfl) (by kernel_rfl) (fun _ _ _ h => h) ⟨Or.inr ⟨by rfl, rfl⟩, fun _ => rfl⟩ ?_
      (try dsimp only); (try simp only [Act.put, List.setIfInBounds_toArray, List.set_cons_zero, List.set_cons_succ])
      refine wpAnyIn_take (i := 9) (v := undef) rfl rfl (by kernel_rfl) (by kernel_rfl) (by kernel_rfl) (fun _ _ _ h => h) ⟨Or.inr ⟨by rfl, rfl⟩, fun _ => rfl⟩ ?_
      (try dsimp only); (try simp only [Act.put, List.setIfInBounds_toArray, List.set_cons_zero, List.set_cons_succ])
      refine wpAnyIn_take (i := 10) (v := undef) rfl rfl (by kernel_rfl) (by kernel_rfl) (by kernel_rfl) (fun _ _ _ h => h) ⟨Or.inr ⟨by rfl, rfl⟩, fun _ => rfl⟩ ?_
      (try dsimp only); (try simp only [Act.put, List.setIfInBounds_toArray, List.set_cons_zero, List.set_cons_succ])
      refine wpAnyIn_take (i := 11) (v := undef) rfl rfl (by kernel_rfl) (by kernel_rfl) (by kernel_rfl) (fun _ _ _ h => h) ⟨Or.inr ⟨by rfl, rfl⟩, fun _ => rfl⟩ ?_
      (try dsimp only); (try simp only [Act.put, List.setIfInBounds_toArray, List.set_cons_zero, List.set_cons_succ])
      refine wpAnyIn_ready (rs := [12]) (by kernel_rfl) (by simp) ?_
      refine AllReadyIn.cons rfl (fun K hK => ?_) AllReadyIn.nil
      go_simp
      (first | refine ⟨trivial, hK _ _ ?_⟩ | refine ⟨fun _ _ => trivial, hK _ _ ?_⟩ | refine hK _ _ ?_)
      clear hK K
      (try dsimp only); (try simp only [Act.put, List.setIfInBounds_toArray, List.set_cons_zero, List.set_cons_succ])
      refine wpAnyIn_ready (rs := [13]) (by kernel_rfl) (by simp) ?_
      refine AllReadyIn.cons rfl (fun K hK => ?_) AllReadyIn.nil
      go_simp
      (first | refine ⟨trivial, hK _ _ ?_⟩ | refine ⟨fun _ _ => trivial, hK _ _ ?_⟩ | refine hK _ _ ?_)
      clear hK K
      (try dsimp only); (try simp only [Act.put, List.setIfInBounds_toArray, List.set_cons_zero, List.set_cons_succ])
      refine wpAnyIn_take (i := 14) (v := ?_) rfl rfl (by kernel_rfl) (by kernel_rfl) (by kernel_rfl) (fun _ _ _ h => h) ⟨Or.inl ⟨by rfl, ?_⟩, fun _ => rfl⟩ ?_
      rotate_left
      · (intro w; go_simp; try (with_reducible rfl))
      (try dsimp only); (try simp only [Act.put, List.setIfInBounds_toArray, List.set_cons_zero, List.set_cons_succ])
      refine wpAnyIn_take (i := 15) (v := ?_) rfl rfl (by kernel_rfl) (by kernel_rfl) (by kernel_rfl) (fun _ _ _ h => h) ⟨Or.inl ⟨by rfl, ?_⟩, fun _ => rfl⟩ ?_
      rotate_left
      · (intro w; go_simp; try (with_reducible rfl))
      (try dsimp only); (try simp only [Act.put, List.setIfInBounds_toArray, List.set_cons_zero, List.set_cons_succ])
      refine wpAnyIn_take (i := 16) (v := undef) rfl rfl (by kernel_rfl) (by kernel_rfl) (by kernel_rfl) (fun _ _ _ h => h) ⟨Or.inr ⟨by rfl, rfl⟩, fun _ => rfl⟩ ?_
      (try dsimp only); (try simp only [Act.put, List.setIfInBounds_toArray, List.set_cons_zero, List.set_cons_succ])
      refine wpAnyIn_take (i := 17) (v := undef) rfl rfl (by kernel_rfl) (by kernel_rfl) (by kernel_rfl) (fun _ _ _ h => h) ⟨Or.inr ⟨by rfl, rfl⟩, fun _ => rfl⟩ ?_
      (try dsimp only); (try simp only [Act.put, List.setIfInBounds_toArray, List.set_cons_zero, List.set_cons_succ])
      refine wpAnyIn_take (i := 18) (v := undef) rfl rfl (by kernel_rfl) (by kernel_rfl) (by kernel_rfl) (fun _ _ _ h => h) ⟨Or.inr ⟨by rfl, rfl⟩, fun _ => rfl⟩ ?_
      (try dsimp only); (try simp only [Act.put, List.setIfInBounds_toArray, List.set_cons_zero, List.set_cons_succ])
      refine wpAnyIn_ready (rs := [19]) (by kernel_rfl) (by simp) ?_
      refine AllReadyIn.cons rfl (fun K hK => ?_) AllReadyIn.nil
      go_simp
      (first | refine ⟨trivial, hK _ _ ?_⟩ | refine ⟨fun _ _ => trivial, hK _ _ ?_⟩ | refine hK _ _ ?_)
      clear hK K
      (try dsimp only); (try simp only [Act.put, List.setIfInBounds_toArray, List.set_cons_zero, List.set_cons_succ])
      refine wpAnyIn_ready (rs := [20]) (by kernel_rfl) (by simp) ?_
      refine AllReadyIn.cons rfl (fun K hK => ?_) AllReadyIn.nil
      go_simp
      (first | refine ⟨trivial, hK _ _ ?_⟩ | refine ⟨fun _ _ => trivial, hK _ _ ?_⟩ | refine hK _ _ ?_)
      clear hK K
      (try dsimp only); (try simp only [Act.put, List.setIfInBounds_toArray, List.set_cons_zero, List.set_cons_succ])
      refine wpAnyIn_take (i := 21) (v := ?_) rfl rfl (by kernel_rfl) (by kernel_rfl) (by kernel_rfl) (fun _ _ _ h => h) ⟨Or.inl ⟨by rfl, ?_⟩, fun _ => rfl⟩ ?_
      rotate_left
      · (intro w; go_simp; try (with_reducible rfl))
      (try dsimp only); (try simp only [Act.put, List.setIfInBounds_toArray, List.set_cons_zero, List.set_cons_succ])
      refine wpAnyIn_done (by kernel_rfl) ?_ _
      (try simp only [Exit.inBlock])
      go_end0
      exact ⟨⟨_, rfl⟩, .inr ⟨_, ⟨0, by rw [HL.out]; rfl⟩, hJx3⟩⟩
    refine hK _ _ ?_
    clear hK K
    (try dsimp only); (try simp only [Act.put, List.setIfInBounds_toArray, List.set_cons_zero, List.set_cons_succ])
    have bX := hk3.1 X _ _ ho hp bX
    have x6 := bX.cell 6
    have x7 := bX.cell 7
    have x8 := bX.cell 8
    have x9 := bX.cell 9
    have x10 := bX.cell 10
    have x11 := bX.cell 11
    have x12 := bX.cell 12
    have x13 := bX.cell 13
    have x14 := bX.cell 14
    have x15 := bX.cell 15
    have x16 := bX.cell 16
    have x17 := bX.cell 17
    have x18 := bX.cell 18
    have x20 := bX.cell 20
    simp only [List.getElem?_toArray, List.getElem?_cons_zero, List.getElem?_cons_succ] at x6 x7 x8 x9 x10 x11 x12 x13 x14 x15 x16 x17 x18 x20
    refine wpAnyIn_take (i := 7) (v := ?_) rfl rfl (by kernel_rfl) (by kernel_rfl) (by kernel_rfl) (fun _ _ _ h => h) ⟨Or.inl ⟨by rfl, ?_⟩, fun _ => rfl⟩ ?_
    rotate_left
    · (intro w; go_simp; try (with_reducible rfl))
    (try dsimp only); (try simp only [Act.put, List.setIfInBounds_toArray, List.set_cons_zero, List.set_cons_succ])
    refine wpAnyIn_take (i := 8) (v := ?_) rfl rfl (by kernel_rfl) (by kernel_rfl) (by kernel_rfl) (fun _ _ _ h => h) ⟨Or.inl ⟨by rfl, ?_⟩, fun _ => rfl⟩ ?_
    rotate_left
    · (intro w; go_simp; try (with_reducible rfl))
    (try dsimp only); (try simp only [Act.put, List.setIfInBounds_toArray, List.set_cons_zero, List.set_cons_succ])
    refine wpAnyIn_take (i := 9) (v := ?_) rfl rfl (by kernel_rfl) (by kernel_rfl) (by kernel_rfl) (fun _ _ _ h => h) ⟨Or.inl ⟨by rfl, ?_⟩, fun _ => rfl⟩ ?_
    rotate_left
    · (intro w; go_simp; try (with_reducible rfl))
    (try dsimp only); (try simp only [Act.put, List.setIfInBounds_toArray, List.set_cons_zero, List.set_cons_succ])
    refine wpAnyIn_take (i := 11) (v := ?_) rfl rfl (by kernel_rfl) (by kernel_rfl) (by kernel_rfl) (fun _ _ _ h => h) ⟨Or.inl ⟨by rfl, ?_⟩, fun _ => rfl⟩ ?_
    rotate_left
    · (intro w; go_simp; try (with_reducible rfl))
    (try dsimp only); (try simp only [Act.put, List.setIfInBounds_toArray, List.set_cons_zero, List.set_cons_succ])
    have hWs3 : W.heap.size ≤ W3.heap.size := by have := hk3.2; omega
    refine (@id ((∀ w5, Below W3.heap.size W3 w5 → (?T2 : World → Prop) w5) → _) (fun key => ?main)) ?pf
    case main =>
      refine wpAnyIn_ready (rs := [10, 12]) (by kernel_rfl) (by simp) ?_
      refine AllReadyIn.cons rfl (fun K hK => ?_) (AllReadyIn.cons rfl (fun K hK => ?_) AllReadyIn.nil)
      · go_simp
        refine hK _ _ ?_
        clear hK K
        (try dsimp only); (try simp only [Act.put, List.setIfInBounds_toArray, List.set_cons_zero, List.set_cons_succ])
        refine wpAnyIn_ready (rs := [12]) (by kernel_rfl) (by simp) ?_
        refine AllReadyIn.cons rfl (fun K hK => ?_) AllReadyIn.nil
        · go_simp
          gi_wp2_with (refine ⟨trivial, ?_⟩; gi_at_call 81; refine (callsIn_wide.2 (HW2.out _)).mono ?_; rintro e w5 ⟨rfl, hb5⟩)
          have bX := (bX).below hb5 (bX).lt
          have x6 := bX.cell 6
          have x7 := bX.cell 7
          have x8 := bX.cell 8
          have x9 := bX.cell 9
          have x10 := bX.cell 10
          have x11 := bX.cell 11
          have x12 := bX.cell 12
          have x13 := bX.cell 13
          have x14 := bX.cell 14
          have x15 := bX.cell 15
          have x16 := bX.cell 16
          have x17 := bX.cell 17
          have x18 := bX.cell 18
          have x20 := bX.cell 20
          simp only [List.getElem?_toArray, List.getElem?_cons_zero, List.getElem?_cons_succ] at x6 x7 x8 x9 x10 x11 x12 x13 x14 x15 x16 x17 x18 x20
          (try dsimp only); (try simp only [Act.put, List.setIfInBounds_toArray, List.set_cons_zero, List.set_cons_succ])
          exact key w5 hb5
      · go_simp
        gi_wp2_with (refine ⟨trivial, ?_⟩; gi_at_call 81; refine (callsIn_wide.2 (HW2.out _)).mono ?_; rintro e w5 ⟨rfl, hb5⟩)
        have bX := (bX).below hb5 (bX).lt
        have x6 := bX.cell 6
        have x7 := bX.cell 7
        have x8 := bX.cell 8
        have x9 := bX.cell 9
        have x10 := bX.cell 10
        have x11 := bX.cell 11
        have x12 := bX.cell 12
        have x13 := bX.cell 13
        have x14 := bX.cell 14
        have x15 := bX.cell 15
        have x16 := bX.cell 16
        have x17 := bX.cell 17
        have x18 := bX.cell 18
        have x20 := bX.cell 20
        simp only [List.getElem?_toArray, List.getElem?_cons_zero, List.getElem?_cons_succ] at x6 x7 x8 x9 x10 x11 x12 x13 x14 x15 x16 x17 x18 x20
        (try dsimp only); (try simp only [Act.put, List.setIfInBounds_toArray, List.set_cons_zero, List.set_cons_succ])
        refine wpAnyIn_ready (rs := [10]) (by kernel_rfl) (by simp) ?_
        refine AllReadyIn.cons rfl (fun K hK => ?_) AllReadyIn.nil
        · go_simp
          refine hK _ _ ?_
          clear hK K
          (try dsimp only); (try simp only [Act.put, List.setIfInBounds_toArray, List.set_cons_zero, List.set_cons_succ])
          exact key w5 hb5
    case pf =>
      intro w6 hb6
      have hJ5 : J [(ca, g)] w6 := HJ.out _ _ _ hJ3 (hb6.mono hWs3)
      have bX := bX.below hb6 bX.lt
      clear x6 x7 x8 x9 x10 x11 x12 x13 x14 x15 x16 x17 x18 x20
      clear HW2 hJ3 hk3
      have hWs6 : W.heap.size ≤ w6.heap.size := Nat.le_trans hWs3 hb6.size
      clear hWs3 hb6
      refine wpAnyIn_ready (rs := [13]) (by kernel_rfl) (by simp) ?_
      refine AllReadyIn.cons rfl (fun K hK => ?_) AllReadyIn.nil
      obtain ⟨fn, tmps, assign, body, hy, hR⟩ := HY.out [(ca, g)] (bc, gs) w6 hJ5
      simp only [shenc] at hy
      go_simp
      refine hR.mono ?_
      clear hR hy
      rintro e W3 (⟨rfl, hJ3, hk3⟩ | ⟨rfl, hJx3⟩)
      case inr =>
        refine hK _ _ ?_
        clear hK K
        (try dsimp only); (try simp only [Act.put, List.setIfInBounds_toArray, List.set_cons_zero, List.set_cons_succ])
        refine wpAnyIn_take (i := 14) (v := ?_) rfl rfl (by kernel_rfl) (by kernel_rfl) (by kernel_rfl) (fun _ _ _ h => h) ⟨Or.inl ⟨by rfl, ?_⟩, fun _ => rfl⟩ ?_
        rotate_left
        · (intro w; go_simp; try (with_reducible rfl))
        (try dsimp only); (try simp only [Act.put, List.setIfInBounds_toArray, List.set_cons_zero, List.set_cons_succ])
        refine wpAnyIn_take (i := 15) (v := ?_) rfl rfl (by kernel_rfl) (by kernel_rfl) (by kernel_rfl) (fun _ _ _ h => h) ⟨Or.inl ⟨by rfl, ?_⟩, fun _ => rfl⟩ ?_
        rotate_left
        · (intro w; go_simp; try (with_reducible rfl))
        (try dsimp only); (try simp only [Act.put, List.setIfInBounds_toArray, List.set_cons_zero, List.set_cons_succ])
        refine wpAnyIn_take (i := 16) (v := undef) rfl rfl (by kernel_rfl) (by kernel_rfl) (by kernel_rfl) (fun _ _ _ h => h) ⟨Or.inr ⟨by rfl, rfl⟩, fun _ => rfl⟩ ?_
        (try dsimp only); (try simp only [Act.put, List.setIfInBounds_toArray, List.set_cons_zero, List.set_cons_succ])
        refine wpAnyIn_take (i := 17) (v := undef) rfl rfl (by kernel_rfl) (by kernel_rfl) (by kernel_rfl) (fun _ _ _ h => h) ⟨Or.inr ⟨by rfl, rfl⟩, fun _ => rfl⟩ ?_
        (try dsimp only); (try simp only [Act.put, List.setIfInBounds_toArray, List.set_cons_zero, List.set_cons_succ])
        refine wpAnyIn_take (i := 18) (v := undef) rfl rfl (by kernel_rfl) (by kernel_rfl) (by kernel_rfl) (fun _ _ _ h => h) ⟨Or.inr ⟨by rfl, rfl⟩, fun _ => rfl⟩ ?_
        (try dsimp only); (try simp only [Act.put, List.setIfInBounds_toArray, List.set_cons_zero, List.set_cons_succ])
        refine wpAnyIn_ready (rs := [19]) (by kernel_rfl) (by simp) ?_
        refine AllReadyIn.cons rfl (fun K hK => ?_) AllReadyIn.nil
        go_simp
        (first | refine ⟨trivial, hK _ _ ?_⟩ | refine ⟨fun _ _ => trivial, hK _ _ ?_⟩ | refine hK _ _ ?_)
        clear hK K
        (try dsimp only); (try simp only [Act.put, List.setIfInBounds_toArray, List.set_cons_zero, List.set_cons_succ])
        refine wpAnyIn_ready (rs := [20]) (by kernel_rfl) (by simp) ?_
        refine AllReadyIn.cons rfl (fun K hK => ?_) AllReadyIn.nil
        go_simp
        (first | refine ⟨trivial, hK _ _ ?_⟩ | refine ⟨fun _ _ => trivial, hK _ _ ?_⟩ | refine hK _ _ ?_)
        clear hK K
        (try dsimp only); (try simp only [Act.put, List.setIfInBounds_toArray, List.set_cons_zero, List.set_cons_succ])
        refine wpAnyIn_take (i := 21) (v := ?_) rfl rfl (by kernel_rfl) (by kernel_rfl) (by kernel_rfl) (fun _ _ _ h => h) ⟨Or.inl ⟨by rfl, ?_⟩, fun _ => rfl⟩ ?_
        rotate_left
        · (intro w; go_simp; try (with_reducible rfl))
        (try dsimp only); (try simp only [Act.put, List.setIfInBounds_toArray, List.set_cons_zero, List.set_cons_succ])
        refine wpAnyIn_done (by kernel_rfl) ?_ _
        (try simp only [Exit.inBlock])
        go_end0
        exact ⟨⟨_, rfl⟩, .inr ⟨_, ⟨1, by rw [HL.out]; rfl⟩, hJx3⟩⟩
      refine hK _ _ ?_
      clear hK K
      (try dsimp only); (try simp only [Act.put, List.setIfInBounds_toArray, List.set_cons_zero, List.set_cons_succ])
      have hWs3 : W.heap.size ≤ W3.heap.size := by have := hk3.2; omega
      have bX := hk3.1 X _ _ ho hp bX
      have x6 := bX.cell 6
      have x7 := bX.cell 7
      have x8 := bX.cell 8
      have x9 := bX.cell 9
      have x10 := bX.cell 10
      have x11 := bX.cell 11
      have x12 := bX.cell 12
      have x13 := bX.cell 13
      have x14 := bX.cell 14
      have x15 := bX.cell 15
      have x16 := bX.cell 16
      have x17 := bX.cell 17
      have x18 := bX.cell 18
      have x20 := bX.cell 20
      simp only [List.getElem?_toArray, List.getElem?_cons_zero, List.getElem?_cons_succ] at x6 x7 x8 x9 x10 x11 x12 x13 x14 x15 x16 x17 x18 x20
      refine wpAnyIn_take (i := 14) (v := ?_) rfl rfl (by kernel_rfl) (by kernel_rfl) (by kernel_rfl) (fun _ _ _ h => h) ⟨Or.inl ⟨by rfl, ?_⟩, fun _ => rfl⟩ ?_
      rotate_left
      · (intro w; go_simp; try (with_reducible rfl))
      (try dsimp only); (try simp only [Act.put, List.setIfInBounds_toArray, List.set_cons_zero, List.set_cons_succ])
      refine wpAnyIn_take (i := 15) (v := ?_) rfl rfl (by kernel_rfl) (by kernel_rfl) (by kernel_rfl) (fun _ _ _ h => h) ⟨Or.inl ⟨by rfl, ?_⟩, fun _ => rfl⟩ ?_
      rotate_left
      · (intro w; go_simp; try (with_reducible rfl))
      (try dsimp only); (try simp only [Act.put, List.setIfInBounds_toArray, List.set_cons_zero, List.set_cons_succ])
      refine wpAnyIn_take (i := 16) (v := ?_) rfl rfl (by kernel_rfl) (by kernel_rfl) (by kernel_rfl) (fun _ _ _ h => h) ⟨Or.inl ⟨by rfl, ?_⟩, fun _ => rfl⟩ ?_
      rotate_left
      · (intro w; go_simp; try (with_reducible rfl))
      (try dsimp only); (try simp only [Act.put, List.setIfInBounds_toArray, List.set_cons_zero, List.set_cons_succ])
      refine wpAnyIn_take (i := 17) (v := ?_) rfl rfl (by kernel_rfl) (by kernel_rfl) (by kernel_rfl) (fun _ _ _ h => h) ⟨Or.inl ⟨by rfl, ?_⟩, fun _ => rfl⟩ ?_
      rotate_left
      · (intro w; go_simp; try (with_reducible rfl))
      (try dsimp only); (try simp only [Act.put, List.setIfInBounds_toArray, List.set_cons_zero, List.set_cons_succ])
      refine (@id ((∀ w5, Below W3.heap.size W3 w5 → (?T3 : World → Prop) w5) → _) (fun key => ?main)) ?pf
      case main =>
        refine wpAnyIn_ready (rs := [18, 19]) (by kernel_rfl) (by simp) ?_
        refine AllReadyIn.cons rfl (fun K hK => ?_) (AllReadyIn.cons rfl (fun K hK => ?_) AllReadyIn.nil)
        · go_simp
          refine hK _ _ ?_
          clear hK K
          (try dsimp only); (try simp only [Act.put, List.setIfInBounds_toArray, List.set_cons_zero, List.set_cons_succ])
          refine wpAnyIn_ready (rs := [19]) (by kernel_rfl) (by simp) ?_
          refine AllReadyIn.cons rfl (fun K hK => ?_) AllReadyIn.nil
          · go_simp
            gi_wp2_with (refine ⟨trivial, ?_⟩; gi_at_call 81; refine (callsIn_wide.2 (HW3.out _)).mono ?_; rintro e w5 ⟨rfl, hb5⟩)
            have bX := (bX).below hb5 (bX).lt
            have x6 := bX.cell 6
            have x7 := bX.cell 7
            have x8 := bX.cell 8
            have x9 := bX.cell 9
            have x10 := bX.cell 10
            have x11 := bX.cell 11
            have x12 := bX.cell 12
            have x13 := bX.cell 13
            have x14 := bX.cell 14
            have x15 := bX.cell 15
            have x16 := bX.cell 16
            have x17 := bX.cell 17
            have x18 := bX.cell 18
            have x20 := bX.cell 20
            simp only [List.getElem?_toArray, List.getElem?_cons_zero, List.getElem?_cons_succ] at x6 x7 x8 x9 x10 x11 x12 x13 x14 x15 x16 x17 x18 x20
            (try dsimp only); (try simp only [Act.put, List.setIfInBounds_toArray, List.set_cons_zero, List.set_cons_succ])
            exact key w5 hb5
        · go_simp
          gi_wp2_with (refine ⟨trivial, ?_⟩; gi_at_call 81; refine (callsIn_wide.2 (HW3.out _)).mono ?_; rintro e w5 ⟨rfl, hb5⟩)
          have bX := (bX).below hb5 (bX).lt
          have x6 := bX.cell 6
          have x7 := bX.cell 7
          have x8 := bX.cell 8
          have x9 := bX.cell 9
          have x10 := bX.cell 10
          have x11 := bX.cell 11
          have x12 := bX.cell 12
          have x13 := bX.cell 13
          have x14 := bX.cell 14
          have x15 := bX.cell 15
          have x16 := bX.cell 16
          have x17 := bX.cell 17
          have x18 := bX.cell 18
          have x20 := bX.cell 20
          simp only [List.getElem?_toArray, List.getElem?_cons_zero, List.getElem?_cons_succ] at x6 x7 x8 x9 x10 x11 x12 x13 x14 x15 x16 x17 x18 x20
          (try dsimp only); (try simp only [Act.put, List.setIfInBounds_toArray, List.set_cons_zero, List.set_cons_succ])
          refine wpAnyIn_ready (rs := [18]) (by kernel_rfl) (by simp) ?_
          refine AllReadyIn.cons rfl (fun K hK => ?_) AllReadyIn.nil
          · go_simp
            refine hK _ _ ?_
            clear hK K
            (try dsimp only); (try simp only [Act.put, List.setIfInBounds_toArray, List.set_cons_zero, List.set_cons_succ])
            exact key w5 hb5
      case pf =>
        intro w7 hb7
        have hJ5 : J [(ca, g), (bc, gs)] w7 := HJ.out _ _ _ hJ3 (hb7.mono hWs3)
        have bX := bX.below hb7 bX.lt
        clear x6 x7 x8 x9 x10 x11 x12 x13 x14 x15 x16 x17 x18 x20
        refine wpAnyIn_ready (rs := [20]) (by kernel_rfl) (by simp) ?_
        refine AllReadyIn.cons rfl (fun K hK => ?_) AllReadyIn.nil
        obtain ⟨fn, tmps, assign, body, hy, hR⟩ := HY.out [(ca, g), (bc, gs)] (va, 1) w7 hJ5
        simp only [shenc] at hy
        go_simp
        refine hR.mono ?_
        clear hR hy
        rintro e W3 (⟨rfl, hJ3, hk3⟩ | ⟨rfl, hJx3⟩)
        case inr =>
          refine hK _ _ ?_
          clear hK K
          (try dsimp only); (try simp only [Act.put, List.setIfInBounds_toArray, List.set_cons_zero, List.set_cons_succ])
          refine wpAnyIn_take (i := 21) (v := ?_) rfl rfl (by kernel_rfl) (by kernel_rfl) (by kernel_rfl) (fun _ _ _ h => h) ⟨Or.inl ⟨by rfl, ?_⟩, fun _ => rfl⟩ ?_
          rotate_left
          · (intro w; go_simp; try (with_reducible rfl))
          (try dsimp only); (try simp only [Act.put, List.setIfInBounds_toArray, List.set_cons_zero, List.set_cons_succ])
          refine wpAnyIn_done (by kernel_rfl) ?_ _
          (try simp only [Exit.inBlock])
          go_end0
          exact ⟨⟨_, rfl⟩, .inr ⟨_, ⟨2, by rw [HL.out]; rfl⟩, hJx3⟩⟩
        refine hK _ _ ?_
        clear hK K
        (try dsimp only); (try simp only [Act.put, List.setIfInBounds_toArray, List.set_cons_zero, List.set_cons_succ])
        refine wpAnyIn_take (i := 21) (v := ?_) rfl rfl (by kernel_rfl) (by kernel_rfl) (by kernel_rfl) (fun _ _ _ h => h) ⟨Or.inl ⟨by rfl, ?_⟩, fun _ => rfl⟩ ?_
        rotate_left
        · (intro w; go_simp; try (with_reducible rfl))
        (try dsimp only); (try simp only [Act.put, List.setIfInBounds_toArray, List.set_cons_zero, List.set_cons_succ])
        refine wpAnyIn_done (by kernel_rfl) ?_ _
        (try simp only [Exit.inBlock])
        go_end0
        exact ⟨⟨_, rfl⟩, .inl ⟨_, HL.out.symm, hJ3⟩⟩
end Go.Proofs.Ytapjonmgjccpbaa
end
section
set_option linter.unusedSimpArgs false
set_option linter.unusedVariables false
namespace Go.Proofs.Ytapjonmgjccpbaa
open Go.RowKit

/-! tarnref1.Of. -/
theorem rofn (n : Nat) (h : n ≤ 9223372036854775807) (w : World) :
    Calls Try.prog 77 #[.int .i64 n] w fun e w' => e = .returned (V n) ∧ Below w.heap.size w w' := by
  rw [V_small n (by omega)]
  have hw : IntKind.u64.wrap (n : Int) = n := by rw [IntKind.wrap_u64]; omega
  go_enter Try.func77, Try.ntmps77
  go_wp2
  refine bodyPost_ret (v := .agg (A4 n 0 0 0)) ?_ rfl ⟨rfl, ?_⟩
  · simp [results, Try.results77, go_sem]
  · exact (Below.refl _ _).alloc (Nat.le_refl _) _
end Go.Proofs.Ytapjonmgjccpbaa
end

import Derived.Test.YtljfenjpnanoiaaLvlM
import Derived.Test.YtljfenjpnanoiaaRBits
set_option linter.unusedSimpArgs false
set_option linter.unusedVariables false
namespace Go.Proofs.Ytljfenjpnanoiaa
open Go.RowKit

/-- What the page's level has summed up behind j of its three bits. -/
def rl (n top : Nat) : Nat → Nat
  | 0 => 0
  | j + 1 => 2 * rl n top j + cb n top j
theorem rl_three (n top : Nat) : rl n top 3 = pt n top := by rw [pt_eq]; simp only [rl]; omega
theorem cb_lt (n top j : Nat) : cb n top j < 2 := by unfold cb; split; exact bitn_lt _ _; omega
theorem rl_lt (n top j : Nat) : rl n top j < 2 ^ j := by
  induction j with
  | zero => simp [rl]
  | succ j ih => have := cb_lt n top j; simp only [rl, Nat.pow_succ]; omega
theorem bitAt_cb (n i : Nat) : (bitAt n i = true → bitn n i = 1) ∧ (bitAt n i = false → bitn n i = 0) := by
  have := bitn_lt n i
  unfold bitAt bitn at *
  constructor
  · intro h; simpa using h
  · intro h; simp at h; omega
set_option maxHeartbeats 1000000 in
theorem rlevel (n : Nat) (hn : n < M256) (w : World) :
    Calls Try.prog 12 #[V n] w fun e w' => e = .returned (.int .i64 (lvl n : Int)) ∧ Below w.heap.size w w' := by
  have Hb := fun w => rbits n hn w
  have h256 := bl_le256 hn
  by_cases h0 : n = 0
  · subst h0
    have e0 : bl 0 = 0 := rfl
    rw [e0] at Hb
    clear hn h256
    go_enter Try.func12, Try.ntmps12
    go_wp2_with (go_at_call 30; refine (Hb _).mono ?_; rintro e w1 ⟨rfl, hb1⟩)
    go_ret
    exact ⟨rfl, ((Below.refl _ _).alloc (Nat.le_refl _) _).trans (hb1.mono (by simp))⟩
  · obtain ⟨_, _, hp⟩ := bl_top h0
    have hl : lvl n = 8 * (bl n - 1) + pt n (bl n - 1) + 1 := if_neg h0
    obtain ⟨t, ht⟩ : ∃ t, bl n = t + 1 := ⟨bl n - 1, by omega⟩
    rw [ht] at Hb hl h256
    rw [Nat.add_sub_cancel] at hl
    have HL : Hid (lvl n = 8 * t + pt n t + 1) := hl
    have hc : (((t + 1 : Nat) : Int)) = (t : Int) + 1 := by omega
    rw [hc] at Hb
    have hw : ((t : Int) + 1 == 0) = false := by rw [beq_eq_false_iff_ne]; omega
    clear hn h0 hp hl ht hc
    go_enter Try.func12, Try.ntmps12
    have bA := Bk.new w (A4 (lb n 0) (lb n 1) (lb n 2) (lb n 3)) 25
    go_wp2_with (go_at_call 30; refine (Hb _).mono ?_; rintro e w1 ⟨rfl, hb1⟩)
    have bA1 := bA.below hb1 bA.lt
    have hB := ((Below.refl _ w).alloc (Nat.le_refl _) (.cells (A4 (lb n 0) (lb n 1) (lb n 2) (lb n 3)) 25)).trans (hb1.mono (by simp))
    clear bA hb1 Hb
    go_loopw [4, 5] (fun low k wr => ∃ j : Nat, j ≤ 3 ∧ low = .int .i64 (rl n t j : Int) ∧ k = .int .i64 ((j : Int) + 2) ∧ Bk wr w.heap.size (A4 (lb n 0) (lb n 1) (lb n 2) (lb n 3)) 25 ∧ Below w.heap.size w wr) (fun low k _ => (5 - intOf k).toNat)
    case atStart => exact ⟨0, by omega, rfl, rfl, bA1, hB⟩
    case round =>
      clear bA1 hB
      obtain ⟨j, hj, rfl, rfl, bA, hB⟩ := hrel
      have hrl := rl_lt n t j
      have hsz := hB.size
      have a0 := bA.cell 0
      have a1 := bA.cell 1
      have a2 := bA.cell 2
      have a3 := bA.cell 3
      simp only [List.getElem?_toArray, List.getElem?_cons_zero, List.getElem?_cons_succ] at a0 a1 a2 a3
      by_cases h3 : j = 3
      · subst h3
        have hpt := rl_three n t
        have hple := pt_le n t
        rw [hpt]
        clear hpt hrl
        go_wp2
        go_ret
        exact ⟨by rw [HL.out]; go_num, hB⟩
      · have hr8 : rl n t j < 8 := Nat.lt_of_lt_of_le hrl (Nat.le_trans (Nat.pow_le_pow_right (by omega) (show j ≤ 3 by omega)) (by decide))
        have hrs0 : rl n t (j + 1) = 2 * rl n t j + cb n t j := rfl
        clear hrl
        obtain ⟨r, hr⟩ : ∃ r, r = rl n t j := ⟨_, rfl⟩
        rw [← hr] at hr8 hrs0 ⊢
        clear hr
        obtain ⟨r', hr'⟩ : ∃ r', r' = rl n t (j + 1) := ⟨_, rfl⟩
        rw [← hr'] at hrs0
        have HR' : Hid (r' = rl n t (j + 1)) := hr'
        clear hr'
        by_cases hjt : j < t
        · have hcb : cb n t j = bitn n (t - 1 - j) := if_pos hjt
          have hbt := bitAt_cb n (t - 1 - j)
          have hrs := hrs0
          clear hrs0
          obtain ⟨i, hi⟩ : ∃ i, t = i + 1 + j := ⟨t - 1 - j, by omega⟩
          have hi' : t - 1 - j = i := by omega
          rw [hi'] at hcb hbt
          have hge : decide (0 ≤ (t : Int) + 1 - ((j : Int) + 2)) = true := by simp; omega
          have hii : (t : Int) + 1 - ((j : Int) + 2) = (i : Int) := by omega
          have hi6 : i < 256 := by omega
          clear hi hi'
          cases hbit : bitAt n i with
          | true =>
            rw [hcb, hbt.1 hbit] at hrs
            have HR : Hid (r' = 2 * r + 1) := hrs
            clear hrs hbt hcb
            go_wp2_with (go_at_call 31; (try rw [hii]); refine (bit_x n i hi6 _).mono ?_; rw [hbit]; rintro e w2 ⟨rfl, hb2⟩)
            go_roundw
            case rel => exact ⟨j + 1, by omega, by rw [← HR'.out, HR.out]; go_num, by go_num, bA.below hb2 bA.lt, hB.trans (hb2.mono hsz)⟩
            case measure => simp [intOf]; omega
          | false =>
            rw [hcb, hbt.2 hbit] at hrs
            have HR : Hid (r' = 2 * r) := hrs
            clear hrs hbt hcb
            go_wp2_with (go_at_call 31; (try rw [hii]); refine (bit_x n i hi6 _).mono ?_; rw [hbit]; rintro e w2 ⟨rfl, hb2⟩)
            go_roundw
            case rel => exact ⟨j + 1, by omega, by rw [← HR'.out, HR.out]; go_num, by go_num, bA.below hb2 bA.lt, hB.trans (hb2.mono hsz)⟩
            case measure => simp [intOf]; omega
        · have hcb : cb n t j = 0 := if_neg hjt
          have hrs : r' = 2 * r := by rw [hrs0, hcb]; omega
          have HR : Hid (r' = 2 * r) := hrs
          clear hrs0
          have hge : decide (0 ≤ (t : Int) + 1 - ((j : Int) + 2)) = false := by simp; omega
          clear hrs hcb
          go_wp2
          go_roundw
          case rel => exact ⟨j + 1, by omega, by rw [← HR'.out, HR.out]; go_num, by go_num, bA, hB⟩
          case measure => simp [intOf]; omega
end Go.Proofs.Ytljfenjpnanoiaa

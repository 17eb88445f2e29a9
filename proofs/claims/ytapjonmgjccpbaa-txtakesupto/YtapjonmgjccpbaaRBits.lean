import Derived.Test.YtapjonmgjccpbaaJ2
import Derived.Laws.Bits64b
set_option linter.unusedSimpArgs false
set_option linter.unusedVariables false
namespace Go.Proofs.Ytapjonmgjccpbaa
open Go.RowKit

def bitAt (n i : Nat) : Bool := n / 2 ^ i % 2 == 1
theorem limb_bit (n i : Nat) (hi : i < 256) : lb n (i / 64) / 2 ^ (i % 64) % 2 = ((n / 2 ^ i % 2 : Nat) : Int) := by
  have e : 2 ^ i = 2 ^ (64 * (i / 64)) * 2 ^ (i % 64) := by rw [← Nat.pow_add]; congr 1; omega
  rw [e, ← Nat.div_div_eq_div_mul]
  unfold lb
  generalize n / 2 ^ (64 * (i / 64)) = m
  have hr : i % 64 < 64 := Nat.mod_lt _ (by omega)
  generalize i % 64 = r at hr
  have e2 : ((m % 18446744073709551616 : Nat) : Int) / 2 ^ r % 2 = ((m % 18446744073709551616 / 2 ^ r % 2 : Nat) : Int) := by
    generalize m % 18446744073709551616 = z
    rw [Int.natCast_emod, Int.natCast_ediv, Int.natCast_pow]; rfl
  rw [e2]
  congr 1
  have h64 : (18446744073709551616 : Nat) = 2 ^ r * 2 ^ (64 - r) := by rw [← Nat.pow_add]; rw [show r + (64 - r) = 64 by omega]
  rw [h64, Nat.mod_mul_right_div_self]
  have h2 : (2 : Nat) ^ (64 - r) = 2 * 2 ^ (63 - r) := by rw [← Nat.pow_succ', show (63 - r).succ = 64 - r by omega]
  rw [h2, Nat.mod_mul_right_mod]
theorem bit_eq (n i : Nat) (hi : i < 256) : (Go.bits BinOp.and IntKind.u64 (lb n (i / 64) / 2 ^ (i % 64)) 1 == 1) = bitAt n i := by
  have h := limb_bit n i hi
  have hb := lb_bd n (i / 64)
  have hp : (0 : Int) < 2 ^ (i % 64) := Int.pow_pos (by omega)
  have h1 : 0 ≤ lb n (i / 64) / 2 ^ (i % 64) := Int.ediv_nonneg hb.1 (by omega)
  have h2 : lb n (i / 64) / 2 ^ (i % 64) ≤ lb n (i / 64) := Int.ediv_le_self _ hb.1
  obtain ⟨x, hx⟩ := Int.eq_ofNat_of_zero_le h1
  rw [hx] at h h2 ⊢
  have e := bits_and_u64_nat x 1 (by omega) (by omega)
  rw [show ((1 : Nat) : Int) = 1 from rfl] at e
  rw [e, Nat.and_one_is_mod]
  unfold bitAt
  rw [Bool.eq_iff_iff]
  simp only [beq_iff_eq]
  omega
set_option maxHeartbeats 1000000 in
theorem bit_x (n i : Nat) (hi : i < 256) (w : World) :
    Calls Try.prog 64 #[V n, .int .i64 i] w fun e w' => e = .returned (.bool (bitAt n i)) ∧ Below w.heap.size w w' := by
  have hk := fun W => lb_cells (Bk.new W (A4 (lb n 0) (lb n 1) (lb n 2) (lb n 3)) 26) (i / 64) (by omega)
  go_enter Try.func64, Try.ntmps64
  go_wp2
  go_ret
  exact ⟨by rw [← bit_eq n i hi]; rfl, (Below.refl _ _).alloc (Nat.le_refl _) _⟩
theorem bit_top (n i : Nat) (h : n < 2 ^ (i + 1)) : (bitAt n i = true → bl n = i + 1) ∧ (bitAt n i = false → n < 2 ^ i) := by
  have hp := Nat.two_pow_pos i
  have h1 : n / 2 ^ i < 2 := by rw [Nat.div_lt_iff_lt_mul hp]; rw [Nat.pow_succ] at h; omega
  constructor
  · intro hb
    unfold bitAt at hb
    simp only [beq_iff_eq] at hb
    have h2 : n / 2 ^ i = 1 := by generalize n / 2 ^ i = q at h1 hb; omega
    have h3 : 2 ^ i ≤ n := by
      apply Nat.le_of_not_lt
      intro hlt
      rw [Nat.div_eq_of_lt hlt] at h2
      omega
    apply Nat.le_antisymm
    · exact (bl_iff n (i + 1)).2 h
    · apply Nat.le_of_not_lt
      intro hlt
      have := (bl_iff n i).1 (by omega)
      omega
  · intro hb
    unfold bitAt at hb
    simp only [beq_eq_false_iff_ne] at hb
    have h2 : n / 2 ^ i = 0 := by generalize n / 2 ^ i = q at h1 hb; omega
    apply Nat.lt_of_not_le
    intro hle
    have := (Nat.le_div_iff_mul_le hp).2 (by omega : 1 * 2 ^ i ≤ n)
    omega
set_option maxHeartbeats 1000000 in
theorem rbits (n : Nat) (hn : n < M256) (w : World) :
    Calls Try.prog 36 #[V n] w fun e w' => e = .returned (.int .i64 (bl n)) ∧ Below w.heap.size w w' := by
  have Hn : Hid (n < M256) := hn
  clear hn
  go_enter Try.func36, Try.ntmps36
  go_wp2
  go_loopw [3] (fun i wr => ∃ (k : Nat), k ≤ 256 ∧ i = .int .i64 ((k : Int) - 1) ∧ Bk wr w.heap.size (A4 (lb n 0) (lb n 1) (lb n 2) (lb n 3)) 26 ∧ Below w.heap.size w wr ∧ Hid (n < 2 ^ k)) (fun i _ => (intOf i + 1).toNat)
  case atStart => exact ⟨256, by omega, rfl, Bk.new _ _ _, (Below.refl _ _).alloc (Nat.le_refl _) _, by have := Hn.out; unfold M256 at this; show n < 2 ^ 256; simpa using this⟩
  case round =>
    obtain ⟨k, hk, rfl, ha, hbl, hinv⟩ := hrel
    cases k with
    | zero =>
      have h0 : n = 0 := by have := hinv.out; simpa using this
      subst h0
      go_wp2
      go_ret
      exact ⟨rfl, hbl⟩
    | succ i =>
      have ha0 := ha.cell 0
      have ha1 := ha.cell 1
      have ha2 := ha.cell 2
      have ha3 := ha.cell 3
      simp only [List.getElem?_toArray, List.getElem?_cons_zero, List.getElem?_cons_succ] at ha0 ha1 ha2 ha3
      have ht := bit_top n i hinv.out
      have HT : Hid (_ ∧ _) := ht
      have hsz := hbl.size
      have e : ((i + 1 : Nat) : Int) - 1 = (i : Int) := by omega
      rw [e]
      clear ht e
      cases hbit : bitAt n i with
      | true =>
        have HB : Hid (bl n = i + 1) := HT.out.1 hbit
        clear HT
        go_wp2_with (go_at_call 64; refine (bit_x n i (by omega) _).mono ?_; rw [hbit]; rintro e w1 ⟨rfl, hb1⟩)
        go_ret
        exact ⟨by rw [HB.out]; go_num, hbl.trans (hb1.mono hsz)⟩
      | false =>
        have hlt : Hid (n < 2 ^ i) := HT.out.2 hbit
        clear HT
        go_wp2_with (go_at_call 64; refine (bit_x n i (by omega) _).mono ?_; rw [hbit]; rintro e w1 ⟨rfl, hb1⟩)
        go_roundw
        case rel => exact ⟨i, by omega, rfl, ha.below hb1 ha.lt, hbl.trans (hb1.mono hsz), hlt⟩
        case measure => simp [intOf]
end Go.Proofs.Ytapjonmgjccpbaa

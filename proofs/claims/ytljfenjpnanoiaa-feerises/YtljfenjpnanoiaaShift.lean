import Derived.Test.YtljfenjpnanoiaaRMulM
import Derived.Test.YtljfenjpnanoiaaHalf
set_option linter.unusedSimpArgs false
set_option linter.unusedVariables false
namespace Go.Proofs.Ytljfenjpnanoiaa
open Go.RowKit

def su (N j p : Nat) : Int := if p < j then lb N p else 0
theorem su_set (N j : Nat) (hj : j < 4) (a : Value) : ((A4 (su N j 0) (su N j 1) (su N j 2) (su N j 3)).setIfInBounds j a).setIfInBounds j (.int .u64 (lb N j)) = A4 (su N (j + 1) 0) (su N (j + 1) 1) (su N (j + 1) 2) (su N (j + 1) 3) := by
  have : j = 0 ∨ j = 1 ∨ j = 2 ∨ j = 3 := by omega
  rcases this with rfl | rfl | rfl | rfl <;> simp [su]
theorem su_set1 (N j : Nat) (hj : j < 4) : (A4 (su N j 0) (su N j 1) (su N j 2) (su N j 3)).setIfInBounds j (.int .u64 (lb N j)) = A4 (su N (j + 1) 0) (su N (j + 1) 1) (su N (j + 1) 2) (su N (j + 1) 3) := by
  have : j = 0 ∨ j = 1 ∨ j = 2 ∨ j = 3 := by omega
  rcases this with rfl | rfl | rfl | rfl <;> simp [su]
theorem su_cell {w : World} {b N j : Nat} {t : TypeId} (h : Bk w b (A4 (su N j 0) (su N j 1) (su N j 2) (su N j 3)) t) (i : Nat) (hi : i < 4) : w.cell? ⟨b, i, none⟩ = some (.int .u64 (su N j i)) := by
  rw [h.cell]
  have : i = 0 ∨ i = 1 ∨ i = 2 ∨ i = 3 := by omega
  rcases this with rfl | rfl | rfl | rfl <;> rfl
/-- A number times 2^r, seen from bit 64(i+1) on. -/
theorem up_div (n r i : Nat) (hr : r < 64) : n * 2 ^ r / 2 ^ (64 * (i + 1)) = n / 2 ^ (64 * (i + 1)) * 2 ^ r + n / 2 ^ (64 * i) % 2 ^ 64 / 2 ^ (64 - r) := by
  have hs : 2 ^ (64 * (i + 1)) = 2 ^ (64 * i) * 2 ^ 64 := by rw [← Nat.pow_add, Nat.mul_add]
  have h64 : 2 ^ 64 = 2 ^ (64 - r) * 2 ^ r := (Nat.pow_sub_mul_pow 2 (Nat.le_of_lt hr)).symm
  have h1 : n / (2 ^ (64 * i) * 2 ^ 64) = n / 2 ^ (64 * i) / 2 ^ 64 := by rw [Nat.div_div_eq_div_mul]
  have h2 : n * 2 ^ r / (2 ^ (64 * i) * 2 ^ 64) = n / 2 ^ (64 * i) / 2 ^ (64 - r) := by
    rw [h64, ← Nat.mul_assoc, Nat.mul_div_mul_right _ _ (Nat.two_pow_pos r), Nat.div_div_eq_div_mul]
  rw [hs, h1, h2]
  generalize n / 2 ^ (64 * i) = m
  have hm := Nat.div_add_mod m (2 ^ 64)
  generalize m / 2 ^ 64 = x at *
  generalize m % 2 ^ 64 = y at *
  rw [← hm, h64, Nat.mul_assoc, Nat.mul_add_div (Nat.two_pow_pos _), Nat.mul_comm]
theorem up_lb (n L r i : Nat) (hr : r < 64) : lb (n * 2 ^ (64 * L + r)) (L + (i + 1)) = ((n / 2 ^ (64 * (i + 1)) % 2 ^ (64 - r) * 2 ^ r + n / 2 ^ (64 * i) % 2 ^ 64 / 2 ^ (64 - r) : Nat) : Int) := by
  unfold lb
  congr 1
  have e : n * 2 ^ (64 * L + r) / 2 ^ (64 * (L + (i + 1))) = n * 2 ^ r / 2 ^ (64 * (i + 1)) := by
    rw [Nat.pow_add, Nat.mul_add, Nat.pow_add 2 (64 * L), Nat.mul_comm (2 ^ (64 * L)) (2 ^ r), ← Nat.mul_assoc, Nat.mul_comm (2 ^ (64 * L)) (2 ^ (64 * (i + 1))), Nat.mul_div_mul_right _ _ (Nat.two_pow_pos _)]
  rw [e, up_div n r i hr]
  have h64 : 2 ^ 64 = 2 ^ (64 - r) * 2 ^ r := (Nat.pow_sub_mul_pow 2 (Nat.le_of_lt hr)).symm
  generalize hA : n / 2 ^ (64 * (i + 1)) = A
  have hc : n / 2 ^ (64 * i) % 2 ^ 64 / 2 ^ (64 - r) < 2 ^ r := by
    rw [Nat.div_lt_iff_lt_mul (Nat.two_pow_pos _), Nat.mul_comm (2 ^ r), ← h64]
    exact Nat.mod_lt _ (by omega)
  generalize n / 2 ^ (64 * i) % 2 ^ 64 / 2 ^ (64 - r) = c at *
  have hd := Nat.div_add_mod A (2 ^ (64 - r))
  have hlt := Nat.mod_lt A (Nat.two_pow_pos (64 - r))
  generalize A / 2 ^ (64 - r) = x at *
  generalize A % 2 ^ (64 - r) = y at *
  rw [show (18446744073709551616 : Nat) = 2 ^ 64 from rfl, ← hd, Nat.add_mul, Nat.mul_right_comm, ← h64, Nat.add_assoc, Nat.mul_add_mod]
  apply Nat.mod_eq_of_lt
  rw [h64]
  have : (y + 1) * 2 ^ r ≤ 2 ^ (64 - r) * 2 ^ r := Nat.mul_le_mul_right _ hlt
  rw [Nat.add_mul] at this
  omega
theorem up_low (n L r p : Nat) (h : p < L) : lb (n * 2 ^ (64 * L + r)) p = 0 := by
  unfold lb
  have e : n * 2 ^ (64 * L + r) = n * 2 ^ (64 * (L - p - 1) + r) * 2 ^ 64 * 2 ^ (64 * p) := by
    rw [Nat.mul_assoc, Nat.mul_assoc, ← Nat.pow_add, ← Nat.pow_add]; congr 2; omega
  rw [e, Nat.mul_div_cancel _ (Nat.two_pow_pos _), show (18446744073709551616 : Nat) = 2 ^ 64 from rfl, Nat.mul_mod_left]
  rfl
theorem up_at (n L r : Nat) (hr : r < 64) : lb (n * 2 ^ (64 * L + r)) L = ((n % 2 ^ 64 * 2 ^ r % 2 ^ 64 : Nat) : Int) := by
  unfold lb
  congr 1
  rw [Nat.pow_add, Nat.mul_comm (2 ^ (64 * L)), ← Nat.mul_assoc, Nat.mul_div_cancel _ (Nat.two_pow_pos _), show (18446744073709551616 : Nat) = 2 ^ 64 from rfl, Nat.mod_mul_mod]
theorem up_wrap (n r i : Nat) (hr : r < 64) : IntKind.u64.wrap (lb n i * 2 ^ r) = ((n / 2 ^ (64 * i) % 2 ^ (64 - r) * 2 ^ r : Nat) : Int) := by
  have h64 : 2 ^ 64 = 2 ^ (64 - r) * 2 ^ r := (Nat.pow_sub_mul_pow 2 (Nat.le_of_lt hr)).symm
  rw [IntKind.wrap_u64]
  unfold lb
  generalize n / 2 ^ (64 * i) = A
  have e : (((A % 18446744073709551616 : Nat) : Int) * 2 ^ r) % 18446744073709551616 = ((A % 18446744073709551616 * 2 ^ r % 18446744073709551616 : Nat) : Int) := by
    generalize A % 18446744073709551616 = B
    have e2 : (B : Int) * 2 ^ r = ((B * 2 ^ r : Nat) : Int) := by rw [Int.natCast_mul, Int.natCast_pow]; rfl
    rw [e2]
    omega
  rw [e, show (18446744073709551616 : Nat) = 2 ^ 64 from rfl, Nat.mod_mul_mod, h64, Nat.mul_mod_mul_right]
theorem up_first (n L r : Nat) (hr : r < 64) : IntKind.u64.wrap (lb n 0 * 2 ^ r) = lb (n * 2 ^ (64 * L + r)) L := by
  have h64 : 2 ^ 64 = 2 ^ (64 - r) * 2 ^ r := (Nat.pow_sub_mul_pow 2 (Nat.le_of_lt hr)).symm
  rw [up_wrap n r 0 hr, up_at n L r hr, Nat.mod_mul_mod, h64, Nat.mul_mod_mul_right, Nat.mul_zero, Nat.pow_zero, Nat.div_one]
theorem up_or (n L r i : Nat) (hr : r < 64) : Go.bits BinOp.or IntKind.u64 (IntKind.u64.wrap (lb n (i + 1) * 2 ^ r)) (lb n i / 2 ^ (64 - r)) = lb (n * 2 ^ (64 * L + r)) (L + (i + 1)) := by
  have h64 : 2 ^ 64 = 2 ^ (64 - r) * 2 ^ r := (Nat.pow_sub_mul_pow 2 (Nat.le_of_lt hr)).symm
  rw [up_wrap n r _ hr, up_lb n L r i hr]
  have e : lb n i / 2 ^ (64 - r) = ((n / 2 ^ (64 * i) % 2 ^ 64 / 2 ^ (64 - r) : Nat) : Int) := by
    unfold lb
    rw [show (18446744073709551616 : Nat) = 2 ^ 64 from rfl]
    generalize n / 2 ^ (64 * i) % 2 ^ 64 = c
    rw [Int.natCast_ediv, Int.natCast_pow]; rfl
  rw [e]
  have hc : n / 2 ^ (64 * i) % 2 ^ 64 / 2 ^ (64 - r) < 2 ^ r := by
    rw [Nat.div_lt_iff_lt_mul (Nat.two_pow_pos _), Nat.mul_comm (2 ^ r), ← h64]
    exact Nat.mod_lt _ (by omega)
  generalize n / 2 ^ (64 * i) % 2 ^ 64 / 2 ^ (64 - r) = c at *
  have hlt := Nat.mod_lt (n / 2 ^ (64 * (i + 1))) (Nat.two_pow_pos (64 - r))
  generalize n / 2 ^ (64 * (i + 1)) % 2 ^ (64 - r) = y at *
  have h1 : (y + 1) * 2 ^ r ≤ 2 ^ (64 - r) * 2 ^ r := Nat.mul_le_mul_right _ hlt
  rw [← h64, Nat.add_mul] at h1
  have h2 : (2 : Nat) ^ r ≤ 2 ^ 63 := Nat.pow_le_pow_right (by omega) (by omega)
  rw [bits_or_u64_nat _ _ (by omega) (by omega), Nat.or_comm, or_field c y r (64 - r) hlt (by rw [Nat.div_eq_of_lt hc, Nat.zero_mod]), Nat.add_comm]
set_option maxHeartbeats 1000000 in
theorem shift_pos (n L r k : Nat) (ek : k = 64 * L + r) (hL : L < 4) (hr : r < 64) (h0 : 0 < k) (hk : k < 256) (hn : n < M256) (hN : n * 2 ^ k < M256) (w : World) :
    Calls Try.prog 45 #[V n, .int .i64 (k : Int)] w fun e w' => e = .returned (V (n * 2 ^ k)) ∧ Below w.heap.size w w' := by
  have HN : Hid (n * 2 ^ k < M256) := hN
  have Hn : Hid (n < M256) := hn
  have H1 : Hid ((k : Int) / 64 = L) := (by omega : (k : Int) / 64 = L)
  have H2 : Hid ((k : Int) % 64 = r) := (by omega : (k : Int) % 64 = r)
  have HE : Hid (k = 64 * L + r) := ek
  clear hN hn ek
  go_enter Try.func45, Try.ntmps45
  go_wp2
  rw [H1.out, H2.out]
  go_loopw [8] (fun i wr => ∃ (j : Nat), L ≤ j ∧ j ≤ 4 ∧ i = .int .i64 j ∧ Bk wr w.heap.size (A4 (lb n 0) (lb n 1) (lb n 2) (lb n 3)) 25 ∧ Bk wr (w.heap.size + 1) (A4 0 0 0 0) 25 ∧ Bk wr (w.heap.size + 1 + 1) (A4 (su (n * 2 ^ k) (j) 0) (su (n * 2 ^ k) (j) 1) (su (n * 2 ^ k) (j) 2) (su (n * 2 ^ k) (j) 3)) 25 ∧ Below w.heap.size w wr) (fun i _ => 4 - (intOf i).toNat)
  case atStart =>
    refine ⟨L, by omega, by omega, rfl, ((Bk.new _ _ _).alloc _).alloc _, (Bk.new' _ _ _ (by simp)).alloc _, ?_, (((Below.refl _ _).alloc (Nat.le_refl _) _).alloc (by simp) _).alloc (by simp; omega) _⟩
    have hz : ∀ p, su (n * 2 ^ k) L p = 0 := fun p => by
      unfold su
      split
      · rename_i hp
        rw [HE.out]; exact up_low n L r p hp
      · rfl
    rw [hz, hz, hz, hz]
    exact Bk.new' _ _ _ (by simp)
  case round =>
    obtain ⟨j, hLj, hj4, rfl, ha, hz, hx, hbl⟩ := hrel
    by_cases hlt : j < 4
    · have hxj := su_cell hx j hlt
      have hxf := hx.frozen j
      have haj := lb_cells ha (j - L) (by omega)
      by_cases hgt : L < j
      · have hbj := lb_cells ha (j - L - 1) (by omega)
        go_wp2
        go_region
        go_wp2
        go_roundw
        case rel =>
          have hv := up_or n L r (j - L - 1) hr
          rw [show j - L - 1 + 1 = j - L by omega, show L + (j - L) = j by omega, ← HE.out] at hv
          rw [hv]
          exact ⟨j + 1, by omega, by omega, by go_num, ((ha.other (by simp; omega) _).other (by simp; omega) _).drew, ((hz.other (by simp) _).other (by simp) _).drew, ((hx.set j _ rfl).set j _ (su_set _ j hlt _)).drew, ((hbl.setCell (by simp; omega) _).setCell (by simp; omega) _).drew⟩
        case measure => simp [intOf]; omega
      · have eL : j = L := by omega
        subst eL
        have ha0 := ha.cell 0
        simp only [List.getElem?_toArray, List.getElem?_cons_zero, List.getElem?_cons_succ] at ha0
        clear haj
        go_wp2
        go_roundw
        case rel =>
          rw [up_first n j r hr, ← HE.out]
          exact ⟨j + 1, by omega, by omega, by go_num, ha.other (by simp; omega) _, hz.other (by simp) _, hx.set j _ (su_set1 _ j hlt), hbl.setCell (by simp; omega) _⟩
        case measure => simp [intOf]; omega
    · have ej : j = 4 := by omega
      subst ej
      have hz0 := hz.cell 0
      have hz1 := hz.cell 1
      have hz2 := hz.cell 2
      have hz3 := hz.cell 3
      have hf0 := hz.frozen 0
      have hf1 := hz.frozen 1
      have hf2 := hz.frozen 2
      have hf3 := hz.frozen 3
      have hx0 := hx.cell 0
      have hx1 := hx.cell 1
      have hx2 := hx.cell 2
      have hx3 := hx.cell 3
      have ha0 := ha.cell 0
      have ha1 := ha.cell 1
      have ha2 := ha.cell 2
      have ha3 := ha.cell 3
      simp only [List.getElem?_toArray, List.getElem?_cons_zero, List.getElem?_cons_succ] at hz0 hz1 hz2 hz3 hx0 hx1 hx2 hx3
      simp only [su, if_pos (show 0 < 4 by omega), if_pos (show 1 < 4 by omega), if_pos (show 2 < 4 by omega), if_pos (show 3 < 4 by omega)] at hx0 hx1 hx2 hx3
      go_wp2
      refine bodyPost_ret (v := V (n * 2 ^ k)) ?_ rfl ⟨rfl, ?_⟩
      · simp [results, Try.results45, go_sem, hz0, hz1, hz2, hz3]
      · exact (((hbl.setCell (by simp) _).setCell (by simp) _).setCell (by simp) _).setCell (by simp) _
set_option maxHeartbeats 1000000 in
theorem shift_none (n : Nat) (k : Int) (hk : k < 1) (w : World) :
    Calls Try.prog 45 #[V n, .int .i64 k] w fun e w' => e = .returned (V n) ∧ Below w.heap.size w w' := by
  go_enter Try.func45, Try.ntmps45
  go_wp2
  refine bodyPost_ret (v := V n) ?_ rfl ⟨rfl, ?_⟩
  · simp [results, Try.results45, go_sem]
  · exact ((Below.refl _ _).alloc (Nat.le_refl _) _).alloc (by simp) _
theorem shift (n : Nat) (k : Int) (hk : k < 256) (hn : n < M256) (hN : n * 2 ^ k.toNat < M256) (w : World) :
    Calls Try.prog 45 #[V n, .int .i64 k] w fun e w' => e = .returned (V (n * 2 ^ k.toNat)) ∧ Below w.heap.size w w' := by
  by_cases h : k < 1
  · have e : k.toNat = 0 := by omega
    rw [e, Nat.pow_zero, Nat.mul_one]
    exact shift_none n k h w
  · obtain ⟨i, rfl⟩ := Int.eq_ofNat_of_zero_le (show 0 ≤ k by omega)
    exact shift_pos n (i / 64) (i % 64) i (by omega) (by omega) (by omega) (by omega) (by omega) hn hN w
end Go.Proofs.Ytljfenjpnanoiaa

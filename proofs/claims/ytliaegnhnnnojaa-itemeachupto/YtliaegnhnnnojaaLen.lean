import Derived.Test.YtliaegnhnnnojaaSubM
import Derived.Lib.BitFns
import Derived.Deep.Light
set_option linter.unusedSimpArgs false
set_option linter.unusedVariables false
namespace Go.Proofs.Ytliaegnhnnnojaa
open Go.RowKit

theorem tab_get (y : Int) (h : y.toNat < Lib.len8tab.size) : ((Lib.len8tab[y.toNat]'h).toNat : Int) = Lib.len8 y := by
  unfold Lib.len8
  rw [getElem?_pos Lib.len8tab y.toNat h]
  rfl
theorem wr1 (k a b : Nat) (hk : k ≤ 56) (ha : a ≤ 8) (hb : b = k + a) : wrap64 ((k : Int) + wrap64 (a : Int)) = (b : Int) := by
  unfold wrap64; omega
theorem wr2 (a : Nat) (ha : a ≤ 8) : wrap64 (wrap64 (a : Int)) = (a : Int) := by
  unfold wrap64; omega
theorem wr3 (a : Nat) (ha : a ≤ 8) : wrap64 (a : Int) = (a : Int) := by
  unfold wrap64; omega
theorem tab_size : (Lib.len8tab.size : Int) = 256 := by rw [Lib.len8tab_size]; rfl
set_option maxHeartbeats 4000000 in
set_option maxRecDepth 100000 in
theorem len64 (x : Int) (w : World) (h0 : 0 ≤ x) (h1 : x ≤ 18446744073709551615) :
    Calls Try.prog 69 #[.int .u64 x] w fun e w' => e = .returned (.int .i64 (Lib.bitLen x.toNat)) ∧ w' = w := by
  go_enter Try.func69, Try.ntmps69
  go_wp2
  all_goals first
    | (go_ret; refine ⟨congrArg Ending.returned (congrArg (Value.int IntKind.i64) ?_), rfl⟩; go_light)
    | (exfalso; go_light; have hs := tab_size; omega)
  all_goals first
    | (rw [tab_get (x / 4294967296 / 65536 / 256) _, Lib.len8_of (x / 4294967296 / 65536 / 256) (by omega) (by omega)]; have e : (x / 4294967296 / 65536 / 256).toNat = x.toNat / 72057594037927936 := by omega
       have l := Lib.bitLen_le8' (x / 4294967296 / 65536 / 256) (by omega) (by omega)
       have s := Lib.bitLen_shift56 x.toNat (by omega) (by omega)
       rw [e] at l ⊢
       exact wr1 56 _ _ (by omega) l s)
    | (rw [tab_get (x / 4294967296 / 65536) _, Lib.len8_of (x / 4294967296 / 65536) (by omega) (by omega)]; have e : (x / 4294967296 / 65536).toNat = x.toNat / 281474976710656 := by omega
       have l := Lib.bitLen_le8' (x / 4294967296 / 65536) (by omega) (by omega)
       have s := Lib.bitLen_shift48 x.toNat (by omega) (by omega)
       rw [e] at l ⊢
       exact wr1 48 _ _ (by omega) l s)
    | (rw [tab_get (x / 4294967296 / 256) _, Lib.len8_of (x / 4294967296 / 256) (by omega) (by omega)]; have e : (x / 4294967296 / 256).toNat = x.toNat / 1099511627776 := by omega
       have l := Lib.bitLen_le8' (x / 4294967296 / 256) (by omega) (by omega)
       have s := Lib.bitLen_shift40 x.toNat (by omega) (by omega)
       rw [e] at l ⊢
       exact wr1 40 _ _ (by omega) l s)
    | (rw [tab_get (x / 4294967296) _, Lib.len8_of (x / 4294967296) (by omega) (by omega)]; have e : (x / 4294967296).toNat = x.toNat / 4294967296 := by omega
       have l := Lib.bitLen_le8' (x / 4294967296) (by omega) (by omega)
       have s := Lib.bitLen_shift32 x.toNat (by omega) (by omega)
       rw [e] at l ⊢
       exact wr1 32 _ _ (by omega) l s)
    | (rw [tab_get (x / 65536 / 256) _, Lib.len8_of (x / 65536 / 256) (by omega) (by omega)]; have e : (x / 65536 / 256).toNat = x.toNat / 16777216 := by omega
       have l := Lib.bitLen_le8' (x / 65536 / 256) (by omega) (by omega)
       have s := Lib.bitLen_shift24 x.toNat (by omega) (by omega)
       rw [e] at l ⊢
       exact wr1 24 _ _ (by omega) l s)
    | (rw [tab_get (x / 65536) _, Lib.len8_of (x / 65536) (by omega) (by omega)]; have e : (x / 65536).toNat = x.toNat / 65536 := by omega
       have l := Lib.bitLen_le8' (x / 65536) (by omega) (by omega)
       have s := Lib.bitLen_shift16 x.toNat (by omega) (by omega)
       rw [e] at l ⊢
       exact wr1 16 _ _ (by omega) l s)
    | (rw [tab_get (x / 256) _, Lib.len8_of (x / 256) (by omega) (by omega)]; have e : (x / 256).toNat = x.toNat / 256 := by omega
       have l := Lib.bitLen_le8' (x / 256) (by omega) (by omega)
       have s := Lib.bitLen_shift8 x.toNat (by omega) (by omega)
       rw [e] at l ⊢
       exact wr1 8 _ _ (by omega) l s)
    | (rw [tab_get x _, Lib.len8_of x (by omega) (by omega)]; have l := Lib.bitLen_le8' x (by omega) (by omega)
       first | exact wr2 _ l | exact wr3 _ l)
/-- How many bits a number has. -/
def bl (n : Nat) : Nat := if n = 0 then 0 else Nat.log2 n + 1
theorem bitLen_bl (x : Nat) (h : x < 18446744073709551616) : Lib.bitLen x = bl x := by
  induction x using Nat.strongRecOn with
  | ind x ih =>
    by_cases hx : x = 0
    · subst hx; rfl
    · rw [Lib.bitLen_half x hx h, ih (x / 2) (by omega) (by omega)]
      unfold bl
      rw [if_neg hx]
      by_cases h2 : x / 2 = 0
      · have : x = 1 := by omega
        subst this; rfl
      · rw [if_neg h2]
        have : Nat.log2 x = Nat.log2 (x / 2) + 1 := by
          rw [Nat.log2_def x, if_pos (by omega)]
        omega
theorem bl_iff (n k : Nat) : bl n ≤ k ↔ n < 2 ^ k := by
  unfold bl
  split
  · next h => subst h; have := Nat.two_pow_pos k; omega
  · next h => rw [Nat.add_one_le_iff]; exact Nat.log2_lt h
theorem bl_add (k a b : Nat) (ha : a ≠ 0) (hb : b < 2 ^ k) : bl (b + 2 ^ k * a) = k + bl a := by
  apply Nat.le_antisymm
  · rw [bl_iff]
    have h2 := (bl_iff a (bl a)).1 (Nat.le_refl _)
    rw [Nat.pow_add]
    have h3 : a + 1 ≤ 2 ^ bl a := h2
    have h4 : 2 ^ k * (a + 1) ≤ 2 ^ k * 2 ^ bl a := Nat.mul_le_mul_left _ h3
    rw [Nat.mul_add] at h4
    omega
  · apply Nat.le_of_not_lt
    intro hlt
    have hpos : bl a ≠ 0 := by unfold bl; rw [if_neg ha]; omega
    have h5 : bl (b + 2 ^ k * a) ≤ k + (bl a - 1) := by omega
    rw [bl_iff, Nat.pow_add] at h5
    have h6 : ¬ bl a ≤ bl a - 1 := by omega
    rw [bl_iff] at h6
    have h7 : 2 ^ k * 2 ^ (bl a - 1) ≤ 2 ^ k * a := Nat.mul_le_mul_left _ (by omega)
    omega
end Go.Proofs.Ytliaegnhnnnojaa

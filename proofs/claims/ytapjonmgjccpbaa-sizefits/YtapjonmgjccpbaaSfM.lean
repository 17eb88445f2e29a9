import Derived.Test.YtapjonmgjccpbaaOf8
import Derived.Test.YtapjonmgjccpbaaZb
set_option linter.unusedSimpArgs false
set_option linter.unusedVariables false
set_option maxRecDepth 100000
namespace Go.Proofs.Ytapjonmgjccpbaa
open Go.RowKit

/-! The greatest transactions: so many blobs of so many noughts. -/
def T192 : Nat := 6277101735386680763835789423207666416102355444464034512896
def T254 : Nat := 28948022309329048855892746252171976963317496166410141009864396001978282409984
def hz (b : Nat) : Nat := mk (blp (zb b))
def tjb (b j : Nat) : TX := ⟨7, 1099511627776, T192, T192, T192, T254, 1073741824, List.replicate j (hz b), List.replicate j (zb b)⟩
theorem tjb_w (b j : Nat) (hb : b ≤ 64) : TXw (tjb b j) := by
  refine ⟨by show T192 < M256; decide +kernel, by show T192 < M256; decide +kernel, by show T192 < M256; decide +kernel, by show T254 < M256; decide +kernel, (show (-9223372036854775808 : Int) ≤ 7 ∧ (7 : Int) ≤ 9223372036854775807 by omega), (show (-9223372036854775808 : Int) ≤ 1099511627776 ∧ (1099511627776 : Int) ≤ 9223372036854775807 by omega), (show (-9223372036854775808 : Int) ≤ 1073741824 ∧ (1073741824 : Int) ≤ 9223372036854775807 by omega), fun x hx => ?_, fun x hx => ?_⟩
  · obtain rfl : x = hz b := List.eq_of_mem_replicate hx
    exact mk_lt _
  · obtain rfl : x = zb b := List.eq_of_mem_replicate hx
    rw [zb_size]; unfold maxLen; omega
theorem tjb_len (b j : Nat) : (tjb b j).hs.length = j ∧ (tjb b j).bs.length = j := ⟨List.length_replicate .., List.length_replicate ..⟩
theorem tjb_ok (b n : Nat) (hb : b ≤ 64) (h1 : 1 ≤ n) (h4 : n ≤ 4) : TxOk (tjb b n) := by
  refine ⟨⟨by show (0 : Int) ≤ 7; omega, by show (7 : Int) ≤ 7; omega⟩, ⟨by show (0 : Int) ≤ 1099511627776; omega, by show (1099511627776 : Int) ≤ 1099511627776; omega⟩, ⟨by show (0 : Int) ≤ 1073741824; omega, by show (1073741824 : Int) ≤ 1073741824; omega⟩, Nat.le_refl _, ?_, ?_⟩
  · unfold fitT
    rw [(tjb_len b n).1, (tjb_len b n).2]
    unfold fitE
    have hg : ∀ k, k < n → (tjb b n).hs.getD k 0 = hz b := fun k hk => by
      show (List.replicate n (hz b)).getD k 0 = hz b
      simp [List.getD_eq_getElem?_getD, List.getElem?_replicate, hk]
    have hf : ∀ k, k < n → (tjb b n).bs.getD k ByteArray.empty = zb b := fun k hk => by
      show (List.replicate n (zb b)).getD k ByteArray.empty = zb b
      simp [List.getD_eq_getElem?_getD, List.getElem?_replicate, hk]
    rw [if_pos ⟨by simp [cnts]; omega, rfl⟩, any_prs_false (p := big) fun k hk => by simp only [big, hf k hk, zb_size]; simp; omega, any_prs_false (p := unfit) fun k hk => by simp only [unfit, hg k hk, hf k hk]; simp [hz]]
    rfl
  · unfold costN
    rw [(tjb_len b n).2]
    have : n = 1 ∨ n = 2 ∨ n = 3 ∨ n = 4 := by omega
    show T192 * (1073741824 : Int).toNat + T192 * (131072 * n) + T254 < M256
    rcases this with rfl | rfl | rfl | rfl <;> decide +kernel
theorem bl_mono {n m : Nat} (h : n ≤ m) : bl n ≤ bl m := (bl_iff n (bl m)).2 (Nat.lt_of_le_of_lt h ((bl_iff m (bl m)).1 (Nat.le_refl _)))
theorem hd_mono (b : Nat) {n m : Nat} (h : n ≤ m) : (hd b n).length ≤ (hd b m).length := by
  rw [hd_length, hd_length]
  have h1 := bl_mono h
  have : tlen n ≤ tlen m := by unfold tlen; omega
  split <;> split <;> omega
theorem raws_rep (x : IT) : ∀ n, (IT.raws (List.replicate n x)).length = n * x.raw.length
  | 0 => by simp [IT.raws]
  | n + 1 => by rw [List.replicate_succ, IT.raws, List.length_append, raws_rep x n, Nat.succ_mul]; omega
theorem raw_mono (x : IT) {n m : Nat} (h : n ≤ m) : (IT.mk true ⟨#[]⟩ (List.replicate n x)).raw.length ≤ (IT.mk true ⟨#[]⟩ (List.replicate m x)).raw.length := by
  rw [raw_list, raw_list, List.length_append, List.length_append, raws_rep, raws_rep]
  have h2 : n * x.raw.length ≤ m * x.raw.length := Nat.mul_le_mul_right _ h
  have := hd_mono 192 h2
  omega
theorem tjb_size (b n m : Nat) (hb : b ≤ 64) (h1 : 1 ≤ n) (hnm : n ≤ m) (h4 : m ≤ 4) : (itS (txI (tjb b n))).size ≤ (itS (txI (tjb b m))).size := by
  have e1 : itS (txI (tjb b n)) = st (txI (tjb b n)).raw := if_pos (txI_ok _ (tjb_ok b n hb h1 (by omega)) (tjb_w b n hb)).1
  have e2 : itS (txI (tjb b m)) = st (txI (tjb b m)).raw := if_pos (txI_ok _ (tjb_ok b m hb (by omega) h4) (tjb_w b m hb)).1
  rw [e1, e2, st_size, st_size]
  have h7 : ∀ j, hsI (tjb b j) = List.replicate j (txtI ⟨(mbs (hz b)).toArray⟩) := fun j => by unfold hsI; show (List.replicate j (hz b)).map _ = _; rw [List.map_replicate]
  have h8 : ∀ j, bsI (tjb b j) = List.replicate j (txtI (zb b)) := fun j => by unfold bsI; show (List.replicate j (zb b)).map _ = _; rw [List.map_replicate]
  have r7 := raw_mono (txtI ⟨(mbs (hz b)).toArray⟩) hnm
  have r8 := raw_mono (txtI (zb b)) hnm
  rw [← h7, ← h7] at r7
  rw [← h8, ← h8] at r8
  unfold txI
  rw [raw_list, raw_list, List.length_append, List.length_append]
  have hs : (IT.raws [txtI (nT (tjb b n).fr.toNat), txtI (nT (tjb b n).no.toNat), txtI (nT (tjb b n).ti), txtI (nT (tjb b n).ca), txtI (nT (tjb b n).bc), txtI (nT (tjb b n).va), txtI (nT (tjb b n).ga.toNat), .mk true ⟨#[]⟩ (hsI (tjb b n)), .mk true ⟨#[]⟩ (bsI (tjb b n))]).length ≤ (IT.raws [txtI (nT (tjb b m).fr.toNat), txtI (nT (tjb b m).no.toNat), txtI (nT (tjb b m).ti), txtI (nT (tjb b m).ca), txtI (nT (tjb b m).bc), txtI (nT (tjb b m).va), txtI (nT (tjb b m).ga.toNat), .mk true ⟨#[]⟩ (hsI (tjb b m)), .mk true ⟨#[]⟩ (bsI (tjb b m))]).length := by
    have q : ∀ j, (tjb b j).fr = 7 ∧ (tjb b j).no = 1099511627776 ∧ (tjb b j).ti = T192 ∧ (tjb b j).ca = T192 ∧ (tjb b j).bc = T192 ∧ (tjb b j).va = T254 ∧ (tjb b j).ga = 1073741824 := fun j => ⟨rfl, rfl, rfl, rfl, rfl, rfl, rfl⟩
    obtain ⟨a1, a2, a3, a4, a5, a6, a7⟩ := q n
    obtain ⟨b1, b2, b3, b4, b5, b6, b7⟩ := q m
    rw [a1, a2, a3, a4, a5, a6, a7, b1, b2, b3, b4, b5, b6, b7]
    simp only [IT.raws, List.length_append, List.length_nil]
    omega
  have := hd_mono 192 hs
  omega
end Go.Proofs.Ytapjonmgjccpbaa

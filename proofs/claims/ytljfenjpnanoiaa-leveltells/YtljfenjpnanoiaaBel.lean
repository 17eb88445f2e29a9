import Derived.Test.YtljfenjpnanoiaaRF
import Derived.Test.YtljfenjpnanoiaaRBits
import Derived.Test.YtljfenjpnanoiaaBack
import Derived.Test.YtljfenjpnanoiaaSls
import Derived.Test.YtljfenjpnanoiaaBlk
set_option linter.unusedSimpArgs false
set_option linter.unusedVariables false
namespace Go.Proofs.Ytljfenjpnanoiaa
open Go.RowKit Go.Shelf
attribute [local go_sem] Oper.semAt_some

/-! The bits of a number below a place, the highest first, as level.below tells them. -/
def bitn (n i : Nat) : Nat := n / 2 ^ i % 2
def bls (n top k : Nat) : List Nat := (List.range k).map fun j => bitn n (top - 1 - j)
theorem bls_succ (n top k : Nat) : bls n top (k + 1) = bls n top k ++ [bitn n (top - 1 - k)] := by simp [bls, List.range_succ]
theorem bls_length (n top k : Nat) : (bls n top k).length = k := by simp [bls]
def benc (x : Nat) : Array Value := #[.int .u64 (x : Int)]
theorem bit_val (n i : Nat) (hi : i < 256) : Go.bits BinOp.and IntKind.u64 (lb n (i / 64) / 2 ^ (i % 64)) 1 = ((bitn n i : Nat) : Int) := by
  have h := limb_bit n i hi
  have hb := lb_bd n (i / 64)
  have hp : (0 : Int) < 2 ^ (i % 64) := Int.pow_pos (by omega)
  have h1 : 0 ≤ lb n (i / 64) / 2 ^ (i % 64) := Int.ediv_nonneg hb.1 (by omega)
  have h2 : lb n (i / 64) / 2 ^ (i % 64) ≤ lb n (i / 64) := Int.ediv_le_self _ hb.1
  obtain ⟨x, hx⟩ := Int.eq_ofNat_of_zero_le h1
  rw [hx] at h h2 ⊢
  have e := bits_and_u64_nat x 1 (by omega) (by omega)
  rw [show ((1 : Nat) : Int) = 1 from rfl] at e
  rw [e, Nat.and_one_is_mod]
  unfold bitn
  omega
set_option maxRecDepth 100000 in
set_option maxHeartbeats 2000000 in
theorem below_seq (m n top Ba Bt o p : Nat) (hm : 1 ≤ m) (ht : top ≤ 256) (w : World)
    (bA : Bk w Ba (A4 (lb n 0) (lb n 1) (lb n 2) (lb n 3)) 25) (bT : Bk w Bt #[.int .i64 (top : Int)] 3) (nA : Ba ≠ o ∧ Ba ≠ p) :
    SeqB Fence.wide m Try.prog 50 #[.pointer (some ⟨Bt, 0, none⟩), .pointer (some ⟨Ba, 0, none⟩)] benc (KpX o p) (fun xs => xs = bls n top top) (fun xs => ∃ k, k < top ∧ xs = bls n top (k + 1)) w := by
  intro l J Jx W hbW hJ hJx hY h0
  have bA := bA.below hbW bA.lt
  have bT := bT.below hbW bT.lt
  have HY : Hid (∀ pre x A, J pre A → YieldAt Fence.wide (m - 1) Try.prog l (benc x) A fun e B => (e = .returned (.bool true) ∧ J (pre ++ [x]) B ∧ KpX o p A B) ∨ (e = .returned (.bool false) ∧ Jx (pre ++ [x]) B)) := hY
  clear hY hJ hJx hbW
  show CallsIn Fence.wide m Try.prog 50 #[.func (.yield l) #[] #[], .pointer (some ⟨Bt, 0, none⟩), .pointer (some ⟨Ba, 0, none⟩)] W _
  refine callsIn_of_wp Try.func50 rfl trivial ?_ rfl
  simp only [Try.ntmps50, List.size_toArray, List.length_cons, List.length_nil, Nat.reduceAdd, Nat.reduceSub, Array.replicate_succ, Array.replicate_zero, List.push_toArray, List.append_toArray, List.nil_append, List.cons_append]
  have t0 := bT.cell 0
  simp only [List.getElem?_toArray, List.getElem?_cons_zero] at t0
  gi_wp2
  gi_loopw [4] (fun i wr => ∃ j : Nat, j ≤ top ∧ i = .int .i64 ((j : Int) - 1) ∧ Bk wr Ba (A4 (lb n 0) (lb n 1) (lb n 2) (lb n 3)) 25 ∧ J (bls n top (top - j)) wr) (fun i _ => (intOf i + 1).toNat)
  case atStart => exact ⟨top, Nat.le_refl _, by go_num, bA, by rw [Nat.sub_self]; exact h0⟩
  case round =>
    clear bA bT t0 h0
    obtain ⟨j, hj, rfl, bA, hJk⟩ := hrel
    cases j with
    | zero =>
      gi_wp2
      go_end0
      exact ⟨⟨_, rfl⟩, .inl ⟨_, rfl, hJk⟩⟩
    | succ i =>
      have hbs : bls n top (top - i) = bls n top (top - (i + 1)) ++ [bitn n i] := by
        have e := bls_succ n top (top - (i + 1))
        rw [show top - (i + 1) + 1 = top - i by omega, show top - 1 - (top - (i + 1)) = i by omega] at e
        exact e
      have HBs : Hid (bls n top (top - i) = bls n top (top - (i + 1)) ++ [bitn n i]) := hbs
      have HA : Hid (Bk wr Ba (A4 (lb n 0) (lb n 1) (lb n 2) (lb n 3)) 25) := bA
      have hk := lb_cells bA (i / 64) (by omega)
      obtain ⟨fn, tmps, assign, body, hy, hR⟩ := HY.out _ (bitn n i) wr hJk
      simp only [benc] at hy
      rw [← bit_val n i (by omega)] at hy
      have e : ((i + 1 : Nat) : Int) - 1 = (i : Int) := by omega
      rw [e]
      clear hbs bA e
      gi_wp2
      refine hR.mono ?_
      rintro e W3 (⟨rfl, hJ3, hk3⟩ | ⟨rfl, hJx3⟩)
      · gi_wp2
        go_roundw
        case rel => exact ⟨i, by omega, rfl, hk3 _ _ _ nA.1 nA.2 HA.out, by rw [HBs.out]; exact hJ3⟩
        case measure => simp [intOf]
      · gi_wp2
        refine bodyPost_ret (results_none rfl _ _ _) rfl ?_
        exact ⟨⟨_, rfl⟩, .inr ⟨_, ⟨top - (i + 1), by omega, by rw [show top - (i + 1) + 1 = top - i by omega]; exact HBs.out.symm⟩, hJx3⟩⟩
end Go.Proofs.Ytljfenjpnanoiaa

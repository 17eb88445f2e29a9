import Derived.Test.YtapjonmgjccpbaaRF
import Derived.Test.YtapjonmgjccpbaaIdx
import Derived.Test.YtapjonmgjccpbaaBlk
import Derived.Deep.Light
import Derived.Lib.BitFns
import Derived.RangeFuncNested
import Derived.RangeFuncBound
import Derived.RangeFuncCalls
import Derived.RangeFuncLeaves
import Derived.RangeFuncBox
import Derived.Shelf.Abstract
import Derived.Shelf.RegionOpen
import Derived.OwnWalkIn
import Derived.TacticsInMore
import Derived.LoopNIn
import Derived.LoopIn
import Derived.Deep.OwnRows
import Derived.Laws.BytesArg
import Derived.Scope
import Derived.Laws.Bits64
set_option linter.unusedSimpArgs false
set_option linter.unusedVariables false
namespace Go.Proofs.Ytapjonmgjccpbaa
open Go.RowKit Go.Shelf
attribute [local go_sem] Oper.semAt_some

/-! mark: what each tells; Mark, Take. -/
def M64 : Nat := 18446744073709551616
def mstep (m b : Nat) : Nat := ((m ^^^ b) * 1099511628211) % 18446744073709551616
def mkg (i : Nat) (l : List (Nat × UInt8)) : Nat := l.foldl (fun m x => mstep m x.2.toNat) i
theorem mkg_snoc (i : Nat) (l : List (Nat × UInt8)) (x : Nat × UInt8) : mkg i (l ++ [x]) = mstep (mkg i l) x.2.toNat := by unfold mkg; rw [List.foldl_append, List.foldl_cons, List.foldl_nil]
theorem mstep_lt (m b : Nat) : mstep m b < 18446744073709551616 := by unfold mstep; omega
theorem mkg_lt (l : List (Nat × UInt8)) : ∀ i, i < 18446744073709551616 → mkg i l < 18446744073709551616 := by
  induction l with
  | nil => intro i h; exact h
  | cons x l ih => intro i h; unfold mkg; rw [List.foldl_cons]; exact ih _ (mstep_lt _ _)
def mkf (l : List (Nat × UInt8)) : Nat := mkg 14695981039346656037 l
theorem mkf_nil : mkf [] = 14695981039346656037 := by unfold mkf mkg; rw [List.foldl_nil]
theorem mkf_snoc (l : List (Nat × UInt8)) (x : Nat × UInt8) : mkf (l ++ [x]) = mstep (mkf l) x.2.toNat := by unfold mkf; rw [mkg_snoc]
theorem mkf_lt (l : List (Nat × UInt8)) : mkf l < 18446744073709551616 := by unfold mkf; exact mkg_lt l _ (by omega)
def byt (s : ByteArray) (j : Nat) : UInt8 := s.data.toList.getD j 0
theorem byt_eq (s : ByteArray) (j : Nat) (h : j < s.size) : byt s j = s[j] := by
  unfold byt
  rw [List.getD_eq_getElem?_getD, List.getElem?_eq_getElem (by rw [data_len]; exact h)]
  simp
  rfl
def ees (s : ByteArray) (k : Nat) : List (Nat × UInt8) := (List.range k).map fun j => (j, byt s j)
theorem ees_succ (s : ByteArray) (k : Nat) : ees s (k + 1) = ees s k ++ [(k, byt s k)] := by simp [ees, List.range_succ]
def eenc (x : Nat × UInt8) : Array Value := #[.int .i64 ((x.1 % 4611686018427387904 : Nat) : Int), .int .u8 (x.2.toNat : Int)]
def mk (s : ByteArray) : Nat := mkf (ees s s.size)
theorem mk_lt (s : ByteArray) : mk s < 18446744073709551616 := mkf_lt _
theorem mstep_val (m b : Nat) (hm : m < 18446744073709551616) (hb : b < 256) : IntKind.u64.wrap (Go.bits BinOp.xor IntKind.u64 (m : Int) (b : Int) * 1099511628211) = ((mstep m b : Nat) : Int) := by
  rw [bits_xor_u64_nat m b hm (by omega), IntKind.wrap_u64]
  unfold mstep
  omega
set_option maxRecDepth 100000 in
set_option maxHeartbeats 2000000 in
theorem each_seq (m : Nat) (s : ByteArray) (Bs o p : Nat) (hm : 1 ≤ m) (hs : s.size ≤ 4611686018427387904) (w : World)
    (bS : Bk w Bs #[.string s] 9) (nA : Bs ≠ o ∧ Bs ≠ p) :
    SeqB Fence.wide m Try.prog 117 #[.pointer (some ⟨Bs, 0, none⟩)] eenc (KpX o p) (fun xs => xs = ees s s.size) (fun xs => ∃ k, k < s.size ∧ xs = ees s (k + 1)) w := by
  intro l J Jx W hbW hJ hJx hY h0
  have bS := bS.below hbW bS.lt
  have HY : Hid (∀ pre x A, J pre A → YieldAt Fence.wide (m - 1) Try.prog l (eenc x) A fun e B => (e = .returned (.bool true) ∧ J (pre ++ [x]) B ∧ KpX o p A B) ∨ (e = .returned (.bool false) ∧ Jx (pre ++ [x]) B)) := hY
  clear hY hJ hJx hbW
  show CallsIn Fence.wide m Try.prog 117 #[.func (.yield l) #[] #[], .pointer (some ⟨Bs, 0, none⟩)] W _
  refine callsIn_of_wp Try.func117 rfl trivial ?_ rfl
  simp only [Try.ntmps117, List.size_toArray, List.length_cons, List.length_nil, Nat.reduceAdd, Nat.reduceSub, Array.replicate_succ, Array.replicate_zero, List.push_toArray, List.append_toArray, List.nil_append, List.cons_append]
  have t0 := bS.cell 0
  simp only [List.getElem?_toArray, List.getElem?_cons_zero] at t0
  gi_wp2
  gi_loopw [6] (fun i wr => ∃ j : Nat, j ≤ s.size ∧ i = .int .i64 (j : Int) ∧ Bk wr Bs #[.string s] 9 ∧ J (ees s j) wr) (fun i _ => s.size - (intOf i).toNat)
  case atStart => exact ⟨0, Nat.zero_le _, rfl, bS, h0⟩
  case round =>
    clear bS t0 h0
    obtain ⟨j, hj, rfl, bS, hJk⟩ := hrel
    by_cases hlt : j < s.size
    · have hlt' : (j : Int) < (s.size : Int) := by omega
      have HBs : Hid (ees s (j + 1) = ees s j ++ [(j, byt s j)]) := ees_succ s j
      have HA : Hid (Bk wr Bs #[.string s] 9) := bS
      have t0 := bS.cell 0
      simp only [List.getElem?_toArray, List.getElem?_cons_zero] at t0
      have hix := fun w => idx_str s (j : Int) j hlt rfl w
      obtain ⟨fn, tmps, assign, body, hy, hR⟩ := HY.out _ (j, byt s j) wr hJk
      simp only [eenc] at hy
      rw [Nat.mod_eq_of_lt (show j < 4611686018427387904 by omega)] at hy
      rw [byt_eq s j hlt] at hy
      clear bS
      gi_wp2
      refine hR.mono ?_
      rintro e W3 (⟨rfl, hJ3, hk3⟩ | ⟨rfl, hJx3⟩)
      · gi_wp2
        go_roundw
        case rel => exact ⟨j + 1, by omega, by go_num, hk3 _ _ _ nA.1 nA.2 HA.out, by rw [HBs.out]; exact hJ3⟩
        case measure => simp [intOf]; omega
      · gi_wp2
        refine bodyPost_ret (results_none rfl _ _ _) rfl ?_
        exact ⟨⟨_, rfl⟩, .inr ⟨_, ⟨j, hlt, HBs.out.symm⟩, hJx3⟩⟩
    · have hlt' : ¬ (j : Int) < (s.size : Int) := by omega
      obtain rfl : j = s.size := by omega
      gi_wp2
      go_end0
      refine ⟨⟨_, rfl⟩, .inl ?_⟩
      first | exact hJk | exact ⟨_, rfl, hJk⟩
end Go.Proofs.Ytapjonmgjccpbaa

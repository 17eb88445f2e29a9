import Derived.Test.YtgolpadmcalimaaNextT
set_option linter.unusedSimpArgs false
set_option linter.unusedVariables false
namespace Go.Proofs.Ytgolpadmcalimaa
open Go.RowKit

/-! The terms of fee.Fake's series: what stands ahead of step k + 1, and the error there. -/
def tm (f n d : Nat) : Nat → Nat × Int
  | 0 => (mulV f d, mulOkE f d)
  | k + 1 => (ntV (tm f n d k).1 n d (k + 1), ntE (tm f n d k).1 n d (k + 1))
def Alive (f n d k : Nat) : Prop := ∀ j, j < k → (tm f n d j).2 = 0 ∧ (tm f n d j).1 ≠ 0
def ys (f n d : Nat) (k : Nat) : List (Nat × Int) := (List.range k).map fun j => ((tm f n d j).1, 0)
theorem ys_succ (f n d k : Nat) : ys f n d (k + 1) = ys f n d k ++ [((tm f n d k).1, 0)] := by simp [ys, List.range_succ]
theorem mulV_lt (f d : Nat) : mulV f d < M256 := by
  unfold mulV; split
  · assumption
  · decide
theorem tm_lt (f n d k : Nat) : (tm f n d k).1 < M256 := by
  cases k with
  | zero => exact mulV_lt f d
  | succ k => exact ntV_lt _ _ _ _
theorem tm_err (f n d k : Nat) : (tm f n d k).2 = 0 ∨ (tm f n d k).2 = 8 := by
  cases k with
  | zero => simp only [tm, mulOkE]; split <;> simp
  | succ k => simp only [tm, ntE]; split <;> simp
theorem tm_end (f n d : Nat) : (tm f n d 4097).2 = 8 := by
  show ntE (tm f n d 4096).1 n d 4097 = 8
  unfold ntE
  rw [if_neg]
  simp [ntOk]
theorem alive_le {f n d k : Nat} (h : Alive f n d k) : k ≤ 4097 := by
  apply Nat.le_of_not_lt
  intro hk
  have := (h 4097 hk).1
  rw [tm_end] at this
  simp at this
theorem alive_succ {f n d k : Nat} (h : Alive f n d k) (h0 : (tm f n d k).2 = 0) (h1 : (tm f n d k).1 ≠ 0) : Alive f n d (k + 1) := by
  intro j hj
  by_cases e : j = k
  · subst e; exact ⟨h0, h1⟩
  · exact h j (by omega)
/-- What the sequence tells when nobody stops it; when somebody does. -/
def TS (f n d : Nat) (xs : List (Nat × Int)) : Prop := ∃ k, Alive f n d k ∧ (((tm f n d k).2 = 0 ∧ (tm f n d k).1 = 0 ∧ xs = ys f n d k) ∨ ((tm f n d k).2 = 8 ∧ xs = ys f n d k ++ [(0, 8)]))
def TP (f n d : Nat) (xs : List (Nat × Int)) : Prop := ∃ k, Alive f n d k ∧ (((tm f n d k).2 = 0 ∧ (tm f n d k).1 ≠ 0 ∧ xs = ys f n d (k + 1)) ∨ ((tm f n d k).2 = 8 ∧ xs = ys f n d k ++ [(0, 8)]))
def tenc (x : Nat × Int) : Array Value := #[V x.1, .int .i64 x.2]
/-- What a round keeps: all blocks of cells but two. -/
def KpX (o p : Nat) (A B : World) : Prop := ∀ b vs t, b ≠ o → b ≠ p → Bk A b vs t → Bk B b vs t
theorem KpX.trans {o p : Nat} (A B C : World) (h : KpX o p A B) (k : KpX o p B C) : KpX o p A C := fun b vs t h1 h2 h3 => k b vs t h1 h2 (h b vs t h1 h2 h3)
end Go.Proofs.Ytgolpadmcalimaa

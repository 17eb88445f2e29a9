import Derived.Test.YtapjonmgjccpbaaProg
import Derived.WalkKit
import Derived.WalkSpells
import Derived.WalkLawsBesides
import Derived.Deep.QuietTactic
import Derived.BigQuiet
import Derived.KernelRfl
import Derived.Laws.Externs
import Derived.Laws.ResultCell
namespace Go.Proofs.Ytapjonmgjccpbaa
open Go.RowKit

/-! Blocks of cells, whole. -/
def Bk (w : World) (b : Nat) (vs : Array Value) (t : TypeId) : Prop := w.heap[b]? = some (.cells vs t)
theorem Bk.cell {w : World} {b : Nat} {vs : Array Value} {t : TypeId} (h : Bk w b vs t) (i : Nat) : w.cell? ⟨b, i, none⟩ = vs[i]? := by
  simp only [World.cell?]; rw [show w.heap[b]? = _ from h]; rfl
theorem Bk.frozen {w : World} {b : Nat} {vs : Array Value} {t : TypeId} (h : Bk w b vs t) (i : Nat) : w.frozen? ⟨b, i, none⟩ = false := by
  simp only [World.frozen?]; rw [show w.heap[b]? = _ from h]; simp
theorem Bk.lt {w : World} {b : Nat} {vs : Array Value} {t : TypeId} (h : Bk w b vs t) : b < w.heap.size := (Array.getElem?_eq_some_iff.1 h).1
theorem Bk.alloc {w : World} {b : Nat} {vs : Array Value} {t : TypeId} (h : Bk w b vs t) (o : Obj) : Bk (w.alloc o) b vs t := (Below.heap_alloc w o b h.lt).trans h
theorem Bk.new (w : World) (vs : Array Value) (t : TypeId) : Bk (w.alloc (.cells vs t)) w.heap.size vs t := by
  show (w.heap.push _)[w.heap.size]? = _; simp
theorem Bk.new' (w : World) (vs : Array Value) (t : TypeId) {b : Nat} (h : b = w.heap.size) : Bk (w.alloc (.cells vs t)) b vs t := by
  subst h; exact Bk.new w vs t
theorem Bk.drew {w : World} {b : Nat} {vs : Array Value} {t : TypeId} (h : Bk w b vs t) : Bk w.drew b vs t := h
theorem Bk.drewN {w : World} {b : Nat} {vs : Array Value} {t : TypeId} (h : Bk w b vs t) (n : Nat) : Bk (w.drewN n) b vs t := h
theorem Bk.other {w : World} {b : Nat} {vs : Array Value} {t : TypeId} (h : Bk w b vs t) {a : Addr} (ha : b ≠ a.block) (u : Value) : Bk (w.setCell a u) b vs t := (Below.heap_setCell w a u b ha).trans h
theorem Bk.set {w : World} {b : Nat} {vs vs' : Array Value} {t : TypeId} (h : Bk w b vs t) (i : Nat) (u : Value) (e : vs.setIfInBounds i u = vs') : Bk (w.setCell ⟨b, i, none⟩ u) b vs' t := by
  subst e; simp only [Bk, World.setCell, Array.getElem?_modify]; rw [show w.heap[b]? = _ from h]; simp
theorem Bk.below {w w' : World} {b n : Nat} {vs : Array Value} {t : TypeId} (h : Bk w b vs t) (hb : Below n w w') (hn : b < n) : Bk w' b vs t := (hb.block b hn).trans h
theorem bdrewN {B : Nat} {a w : World} (h : Below B a w) (n : Nat) : Below B a (w.drewN n) := ⟨h.os, h.tape, h.output, h.size, h.block⟩

abbrev A4 (a b c d : Int) : Array Value := #[.int .u64 a, .int .u64 b, .int .u64 c, .int .u64 d]

/-- Four limbs, each below 2^64. -/
def Lim (a0 a1 a2 a3 : Int) : Prop := (0 ≤ a0 ∧ a0 < 18446744073709551616) ∧ (0 ≤ a1 ∧ a1 < 18446744073709551616) ∧ (0 ≤ a2 ∧ a2 < 18446744073709551616) ∧ (0 ≤ a3 ∧ a3 < 18446744073709551616)
def val (a0 a1 a2 a3 : Int) : Int := a0 + a1 * 18446744073709551616 + a2 * 340282366920938463463374607431768211456 + a3 * 6277101735386680763835789423207666416102355444464034512896
def lb (n : Nat) (i : Nat) : Int := ((n / 2 ^ (64 * i) % 18446744073709551616 : Nat) : Int)
abbrev V (n : Nat) : Value := .agg (A4 (lb n 0) (lb n 1) (lb n 2) (lb n 3))
def M256 : Nat := 115792089237316195423570985008687907853269984665640564039457584007913129639936

theorem lb_lim (n : Nat) : Lim (lb n 0) (lb n 1) (lb n 2) (lb n 3) := by unfold Lim lb; omega
theorem lb_val (n : Nat) (h : n < M256) : val (lb n 0) (lb n 1) (lb n 2) (lb n 3) = n := by
  unfold M256 at h; unfold val lb
  simp only [Nat.mul_zero, Nat.pow_zero, Nat.div_one, Nat.reduceMul, Nat.reducePow]
  omega
theorem lb_of (n : Nat) (x0 x1 x2 x3 : Int) (hl : Lim x0 x1 x2 x3) (hv : val x0 x1 x2 x3 = n) : x0 = lb n 0 ∧ x1 = lb n 1 ∧ x2 = lb n 2 ∧ x3 = lb n 3 := by
  unfold Lim at hl; unfold val at hv; unfold lb
  simp only [Nat.mul_zero, Nat.pow_zero, Nat.div_one, Nat.reduceMul, Nat.reducePow]
  omega
theorem lb_zero (i : Nat) : lb 0 i = 0 := by simp [lb]
theorem V_zero : V 0 = .agg (A4 0 0 0 0) := by simp [V, lb_zero]
theorem val_nonneg (a0 a1 a2 a3 : Int) (h : Lim a0 a1 a2 a3) : 0 ≤ val a0 a1 a2 a3 ∧ val a0 a1 a2 a3 < M256 := by
  unfold Lim at h; unfold val M256; omega
theorem V_of (x0 x1 x2 x3 : Int) (hl : Lim x0 x1 x2 x3) : ∃ n : Nat, n < M256 ∧ (Value.agg (A4 x0 x1 x2 x3)) = V n ∧ val x0 x1 x2 x3 = n := by
  have h := val_nonneg _ _ _ _ hl
  refine ⟨(val x0 x1 x2 x3).toNat, by omega, ?_, by omega⟩
  obtain ⟨e0, e1, e2, e3⟩ := lb_of (val x0 x1 x2 x3).toNat x0 x1 x2 x3 hl (by omega)
  rw [V, ← e0, ← e1, ← e2, ← e3]
theorem info_of {P : Program} {t : TypeId} {z : Value} {s b : Nat} (h : (P.info? t).map (fun i => (i.zero, i.size, i.bytes)) = some (some z, s, b)) : ∃ i, P.info? t = some i ∧ i.zero = some z ∧ i.size = s ∧ i.bytes = b := by
  cases hp : P.info? t with
  | none => rw [hp] at h; simp at h
  | some i => rw [hp] at h; simp at h; exact ⟨i, rfl, h⟩
end Go.Proofs.Ytapjonmgjccpbaa

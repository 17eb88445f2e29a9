import Derived.Test.YtapjonmgjccpbaaJ0
import Derived.Laws.IdiomStrings
set_option linter.unusedSimpArgs false
set_option linter.unusedVariables false
namespace Go.Proofs.Ytapjonmgjccpbaa
open Go.RowKit

/-! []byte(s), written, and string(b). -/
def Sb (w : World) (g : Nat) (l : List UInt8) : Prop := ∃ cur lo hi, w.heap[g]? = some (.cells cur 5 (lo, hi)) ∧ l.length ≤ lo ∧ ∀ j (h : j < l.length), cur[j]? = some (.int .u8 (l[j].toNat : Int))
theorem Sb.cell {w : World} {g : Nat} {l : List UInt8} (h : Sb w g l) (j : Nat) (hj : j < l.length) : w.cell? ⟨g, j, none⟩ = some (.int .u8 (l[j].toNat : Int)) := by
  obtain ⟨cur, lo, hi, h1, h2, h3⟩ := h
  simp [World.cell?, h1, h3 j hj]
theorem Sb.frozen {w : World} {g : Nat} {l : List UInt8} (h : Sb w g l) (j : Nat) (hj : j < l.length) : w.frozen? ⟨g, j, none⟩ = false := by
  obtain ⟨cur, lo, hi, h1, h2, h3⟩ := h
  simp [World.frozen?, h1]
  omega
theorem Sb.lt {w : World} {g : Nat} {l : List UInt8} (h : Sb w g l) : g < w.heap.size := by
  obtain ⟨cur, lo, hi, h1, _⟩ := h
  exact (Array.getElem?_eq_some_iff.1 h1).1
theorem Sb.below {w w' : World} {B g : Nat} {l : List UInt8} (h : Sb w g l) (hb : Below B w w') (hg : g < B) : Sb w' g l := by
  obtain ⟨cur, lo, hi, h1, h2, h3⟩ := h
  exact ⟨cur, lo, hi, (hb.block g hg).trans h1, h2, h3⟩
theorem Sb.drew {w : World} {g : Nat} {l : List UInt8} (h : Sb w g l) : Sb w.drew g l := h
theorem Sb.drewN {w : World} {g : Nat} {l : List UInt8} (h : Sb w g l) (n : Nat) : Sb (w.drewN n) g l := h
theorem Sb.set {w : World} {g : Nat} {l : List UInt8} (h : Sb w g l) (k : Nat) (c : UInt8) : Sb (w.setCell ⟨g, k, none⟩ (.int .u8 (c.toNat : Int))) g (l.set k c) := by
  obtain ⟨cur, lo, hi, h1, h2, h3⟩ := h
  refine ⟨cur.setIfInBounds k (.int .u8 (c.toNat : Int)), lo, hi, ?_, by simpa using h2, fun j hj => ?_⟩
  · simp [World.setCell, Array.getElem?_modify, h1]
  · have hj' : j < l.length := by simpa using hj
    have h4 := h3 j hj'
    by_cases e : k = j
    · subst e
      have : k < cur.size := by
        rcases Nat.lt_or_ge k cur.size with h | h
        · exact h
        · rw [Array.getElem?_eq_none h] at h4; cases h4
      simp [Array.getElem?_setIfInBounds, this]
    · simp [Array.getElem?_setIfInBounds, e, h4]
theorem Sb.string {w : World} {g : Nat} {l : List UInt8} (h : Sb w g l) (n c : Nat) (hn : n = l.length) : (convert 51 9 (.slice (some ⟨g, 0, none⟩) n c)).run Try.prog w = .ok (.string ⟨l.toArray⟩) w := by
  subst hn
  have e := run_convert_bytes_arg (P := Try.prog) w 51 5 Try.underlying51 Try.underlying5 g 0 l.length c (l.map fun b => (b.toNat : Int)) (by simp) (fun i hi => by
      rw [Nat.zero_add, h.cell i hi]
      simp [hi]) 9 Try.underlying9
  rw [str_of] at e
  exact e
theorem sb_new (s : ByteArray) (w : World) : ∃ W cap, (convert 9 51 (.string s)).run Try.prog w = .ok (.slice (some ⟨w.heap.size, 0, none⟩) s.size cap) W ∧ Sb W w.heap.size s.data.toList ∧ Below w.heap.size w W ∧ W.heap.size = w.heap.size + 1 ∧ s.size ≤ cap := by
  have e := run_bytes_of_string (P := Try.prog) w 9 51 5 s Try.underlying9 Try.underlying51 Try.underlying5
  refine ⟨_, _, e, ?_, ?_, ?_, ?_⟩
  · refine ⟨_, _, _, by show (w.heap.push _)[w.heap.size]? = _; simp; exact ⟨rfl, rfl, rfl⟩, ?_, fun j hj => ?_⟩
    · simp [bytesRow]
    · have hj' : j < s.data.size := by simpa using hj
      have hj2 : j < s.size := hj'
      simp [bytesRow, Array.getElem?_append, hj', hj2]
  · exact (Below.refl _ w).drew.alloc (Nat.le_refl _) _
  · simp
  · exact grownCap_ge _ _ _ _
theorem bits_xor_u8_nat (a b : Nat) (ha : a < 256) (hb : b < 256) : Go.bits BinOp.xor IntKind.u8 (a : Int) (b : Int) = ((a ^^^ b : Nat) : Int) := by
  have hx : a ^^^ b < 2 ^ 8 := Nat.xor_lt_two_pow (by omega) (by omega)
  have h1 : (BitVec.ofInt 8 (a : Int)).toNat = a := by
    rw [BitVec.ofInt_natCast, BitVec.toNat_ofNat]; exact Nat.mod_eq_of_lt (by omega)
  have h2 : (BitVec.ofInt 8 (b : Int)).toNat = b := by
    rw [BitVec.ofInt_natCast, BitVec.toNat_ofNat]; exact Nat.mod_eq_of_lt (by omega)
  show IntKind.u8.wrap ((BitVec.ofInt 8 (a : Int) ^^^ BitVec.ofInt 8 (b : Int)).toNat : Int) = _
  rw [BitVec.toNat_xor, h1, h2]
  simp [IntKind.wrap, IntKind.bits, IntKind.signed]
  omega
/-- Another byte, by a number that is not 0. -/
theorem xor_other (x : UInt8) (b : Nat) (hb : b < 256) (h0 : 0 < b) : ∃ c : UInt8, c ≠ x ∧ Go.bits BinOp.xor IntKind.u8 (x.toNat : Int) (b : Int) = (c.toNat : Int) := by
  have hx : x.toNat < 256 := UInt8.toNat_lt x
  have hl : x.toNat ^^^ b < 2 ^ 8 := Nat.xor_lt_two_pow (by omega) (by omega)
  have e : (UInt8.ofNat (x.toNat ^^^ b)).toNat = x.toNat ^^^ b := by rw [UInt8.toNat_ofNat']; exact Nat.mod_eq_of_lt hl
  refine ⟨UInt8.ofNat (x.toNat ^^^ b), fun h => ?_, by rw [bits_xor_u8_nat _ _ hx hb, e]⟩
  have h2 := congrArg UInt8.toNat h
  rw [e] at h2
  have h3 := congrArg (fun z => x.toNat ^^^ z) h2
  simp [← Nat.xor_assoc] at h3
  omega
end Go.Proofs.Ytapjonmgjccpbaa

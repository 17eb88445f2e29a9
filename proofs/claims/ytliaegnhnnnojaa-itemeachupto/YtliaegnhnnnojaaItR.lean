import Derived.Test.YtliaegnhnnnojaaItD
import Derived.Test.YtliaegnhnnnojaaBy
import Derived.Test.YtliaegnhnnnojaaText
set_option linter.unusedSimpArgs false
set_option linter.unusedVariables false
namespace Go.Proofs.Ytliaegnhnnnojaa
open Go.RowKit

/-! An item's bytes, in plain lists. -/
def tb (n : Nat) : List UInt8 := (tnums n).map fun x => UInt8.ofNat x.toNat
def hd (base n : Nat) : List UInt8 := if n ≤ 55 then [UInt8.ofNat (base + n)] else UInt8.ofNat (base + 55 + tlen n) :: tb n
def bare (t : List UInt8) : Bool := t.length == 1 && (t.headD 255).toNat < 128
def traw (t : List UInt8) : List UInt8 := if bare t then t else hd 128 t.length ++ t
mutual
def IT.raw : IT → List UInt8
  | .mk l t s => if l then hd 192 (IT.raws s).length ++ IT.raws s else traw t.data.toList
def IT.raws : List IT → List UInt8
  | [] => []
  | x :: xs => x.raw ++ IT.raws xs
end
theorem raws_append (xs ys : List IT) : IT.raws (xs ++ ys) = IT.raws xs ++ IT.raws ys := by
  induction xs with
  | nil => simp [IT.raws]
  | cons x xs ih => simp only [List.cons_append, IT.raws, ih, List.append_assoc]
theorem raws_take (xs : List IT) (k : Nat) (h : k < xs.length) : IT.raws (xs.take (k + 1)) = IT.raws (xs.take k) ++ xs[k].raw := by
  rw [List.take_succ_eq_append_getElem h, raws_append]; simp [IT.raws]
theorem raws_le (xs : List IT) (k : Nat) : (IT.raws (xs.take k)).length ≤ (IT.raws xs).length := by
  conv => rhs; rw [← List.take_append_drop k xs, raws_append, List.length_append]
  omega
theorem tb_length (n : Nat) : (tb n).length = tlen n := by simp [tb, tnums_length]
theorem tlen_lt {n k : Nat} (h : n < 2 ^ (8 * k)) : tlen n ≤ k := by
  have := (bl_iff n (8 * k)).2 h
  unfold tlen; omega
theorem hd_length (base n : Nat) : (hd base n).length = if n ≤ 55 then 1 else 1 + tlen n := by
  unfold hd; split <;> simp [tb_length]; omega
theorem hd_pos (base n : Nat) : 1 ≤ (hd base n).length := by rw [hd_length]; split <;> omega
theorem hd_le (base n : Nat) (h : n < 18446744073709551616) : (hd base n).length ≤ 9 := by
  have := tlen_lt (n := n) (k := 8) (by simpa using h)
  rw [hd_length]; split <;> omega
/-- A block among these; where block 0 is none of them, a block of cells that may be written. -/
def PW (P : Nat → Prop) (w : World) (b : Nat) : Prop := P b ∧ (P 0 ∨ ∃ vs t, w.heap[b]? = some (.cells vs t))
/-- A reading whose blocks are among these. -/
def RdP (w : World) (P : Nat → Prop) : Nat → List IT → Value → Prop
  | 0, _, _ => False
  | n + 1, xs, v => xs.length ≤ 9223372036854775807 ∧ ∃ ad cap, v = .slice ad xs.length cap ∧ ∀ i (hi : i < xs.length), ∃ b off, ad = some ⟨b, off, none⟩ ∧ PW P w b ∧
      ∃ a l c, w.cell? ⟨b, off + i * 3, none⟩ = some (.bool xs[i].list) ∧ w.cell? ⟨b, off + i * 3 + 1, none⟩ = some (.string xs[i].text) ∧ w.cell? ⟨b, off + i * 3 + 2, none⟩ = some (.slice a l c) ∧ RdP w P n xs[i].items (.slice a l c)
theorem RdP.rd {w : World} {P : Nat → Prop} : ∀ {n : Nat} {xs : List IT} {v : Value}, RdP w P n xs v → Rd w n xs v
  | 0, _, _, h => h
  | n + 1, xs, v, h => by
    obtain ⟨hl, ad, cap, hv, h⟩ := h
    refine ⟨hl, ad, cap, hv, fun i hi => ?_⟩
    obtain ⟨b, off, ha, _, a, l, c, h0, h1, h2, h3⟩ := h i hi
    exact ⟨b, off, ha, _, h0, h1, h2, ⟨a, l, c, rfl⟩, RdP.rd h3⟩
theorem RdP.same {w w' : World} {P : Nat → Prop} (hb : ∀ b, P b → w'.heap[b]? = w.heap[b]?) : ∀ {n : Nat} {xs : List IT} {v : Value}, RdP w P n xs v → RdP w' P n xs v
  | 0, _, _, h => h
  | n + 1, xs, v, h => by
    obtain ⟨hl, ad, cap, hv, h⟩ := h
    refine ⟨hl, ad, cap, hv, fun i hi => ?_⟩
    obtain ⟨b, off, ha, hP, a, l, c, h0, h1, h2, h3⟩ := h i hi
    exact ⟨b, off, ha, ⟨hP.1, hP.2.imp id fun ⟨vs, t, h⟩ => ⟨vs, t, (hb b hP.1).trans h⟩⟩, a, l, c, (World.cell?_of_block (hb b hP.1)).trans h0, (World.cell?_of_block (hb b hP.1)).trans h1, (World.cell?_of_block (hb b hP.1)).trans h2, RdP.same hb h3⟩
theorem RdP.weak {w : World} {P Q : Nat → Prop} (hpq : ∀ b, P b → Q b) : ∀ {n : Nat} {xs : List IT} {v : Value}, RdP w P n xs v → RdP w Q n xs v
  | 0, _, _, h => h
  | n + 1, xs, v, h => by
    obtain ⟨hl, ad, cap, hv, h⟩ := h
    refine ⟨hl, ad, cap, hv, fun i hi => ?_⟩
    obtain ⟨b, off, ha, hP, a, l, c, h0, h1, h2, h3⟩ := h i hi
    exact ⟨b, off, ha, ⟨hpq b hP.1, hP.2.imp (hpq 0) id⟩, a, l, c, h0, h1, h2, RdP.weak hpq h3⟩
theorem Rd.P {w : World} : ∀ {n : Nat} {xs : List IT} {v : Value}, Rd w n xs v → RdP w (· < w.heap.size) n xs v
  | 0, _, _, h => h
  | n + 1, xs, v, h => by
    obtain ⟨hl, ad, cap, hv, h⟩ := h
    refine ⟨hl, ad, cap, hv, fun i hi => ?_⟩
    obtain ⟨b, off, ha, _, h0, h1, h2, ⟨a, l, c, rfl⟩, h3⟩ := h i hi
    exact ⟨b, off, ha, ⟨cell_lt' h0, .inl (Nat.lt_of_le_of_lt (Nat.zero_le b) (cell_lt' h0))⟩, a, l, c, h0, h1, h2, Rd.P h3⟩
theorem RdP.below {w w' : World} {B n : Nat} {xs : List IT} {v : Value} (h : RdP w (· < B) n xs v) (hb : Below B w w') : RdP w' (· < B) n xs v := h.same fun b hl => hb.block b hl
theorem RdP.at {w : World} {P : Nat → Prop} {n : Nat} {xs : List IT} {v : Value} (h : RdP w P n xs v) : ∃ m, n = m + 1 ∧ ∃ ad cap, v = .slice ad xs.length cap ∧ xs.length ≤ 9223372036854775807 ∧ ∀ i (hi : i < xs.length), ∃ b off, ad = some ⟨b, off, none⟩ ∧ P b ∧
      ∃ a l c, w.cell? ⟨b, off + i * 3, none⟩ = some (.bool xs[i].list) ∧ w.cell? ⟨b, off + i * 3 + 1, none⟩ = some (.string xs[i].text) ∧ w.cell? ⟨b, off + i * 3 + 2, none⟩ = some (.slice a l c) ∧ RdP w P m xs[i].items (.slice a l c) := by
  cases n with
  | zero => exact h.elim
  | succ m =>
    obtain ⟨hl, ad, cap, hv, hat⟩ := h
    refine ⟨m, rfl, ad, cap, hv, hl, fun i hi => ?_⟩
    obtain ⟨b, off, ha, hP, hr⟩ := hat i hi
    exact ⟨b, off, ha, hP.1, hr⟩
end Go.Proofs.Ytliaegnhnnnojaa

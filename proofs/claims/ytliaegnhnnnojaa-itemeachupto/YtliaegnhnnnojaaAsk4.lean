import Derived.Test.YtliaegnhnnnojaaHvy
import Derived.Test.YtliaegnhnnnojaaRItm
set_option linter.unusedSimpArgs false
set_option linter.unusedVariables false
namespace Go.Proofs.Ytliaegnhnnnojaa
open Go.RowKit

/-! Questions (tarnlaw4.Ask): an item, and bytes; lists of them. -/
structure Q4 where
  it : IT
  s : ByteArray
def Sq (w : World) (n : Nat) (v : Value) (qs : List Q4) : Prop :=
  qs.length ≤ 9223372036854775807 ∧ ∃ ad cap, v = .slice ad qs.length cap ∧ ∀ i (hi : i < qs.length), ∃ b off, ad = some ⟨b, off, none⟩ ∧ ∃ a l c,
    w.cell? ⟨b, off + i * 4, none⟩ = some (.bool qs[i].it.list) ∧ w.cell? ⟨b, off + i * 4 + 1, none⟩ = some (.string qs[i].it.text) ∧ w.cell? ⟨b, off + i * 4 + 2, none⟩ = some (.slice a l c) ∧ w.cell? ⟨b, off + i * 4 + 3, none⟩ = some (.string qs[i].s) ∧ Rd w n qs[i].it.items (.slice a l c)
/-- All of them together are not too much. -/
def Small (qs : List Q4) : Prop := ∀ q ∈ qs, q.it.wt ≤ 1048576 ∧ q.s.size ≤ 1048576
/-- Two items in memory: one in a block of its own, one of a list. -/
def J2 (X b o : Nat) (l m : Bool) (t u : ByteArray) (sv sw : Value) (w0 w' : World) : Prop := w'.cell? ⟨X, 0, none⟩ = some (.bool l) ∧ w'.cell? ⟨X, 1, none⟩ = some (.string t) ∧ w'.cell? ⟨X, 2, none⟩ = some (sv) ∧ w'.cell? ⟨b, o, none⟩ = some (.bool m) ∧ w'.cell? ⟨b, o + 1, none⟩ = some (.string u) ∧ w'.cell? ⟨b, o + 2, none⟩ = some (sw) ∧ Below w0.heap.size w0 w'
theorem J2.below {X b o : Nat} {l m : Bool} {t u : ByteArray} {sv sw : Value} {w0 w w' : World} (h : J2 X b o l m t u sv sw w0 w) (hb : Below w.heap.size w w') : J2 X b o l m t u sv sw w0 w' := by
  obtain ⟨h0, h1, h2, h3, h4, h5, hB⟩ := h
  exact ⟨(hb.cell (cell_lt' h0)).trans h0, (hb.cell (cell_lt' h1)).trans h1, (hb.cell (cell_lt' h2)).trans h2, (hb.cell (cell_lt' h3)).trans h3, (hb.cell (cell_lt' h4)).trans h4, (hb.cell (cell_lt' h5)).trans h5, hB.trans (hb.mono hB.size)⟩
theorem J2.drew {X b o : Nat} {l m : Bool} {t u : ByteArray} {sv sw : Value} {w0 w : World} (h : J2 X b o l m t u sv sw w0 w) : J2 X b o l m t u sv sw w0 w.drew := h.below ((Below.refl _ w).drew)
theorem J2.bel {X b o : Nat} {l m : Bool} {t u : ByteArray} {sv sw : Value} {w0 w : World} (h : J2 X b o l m t u sv sw w0 w) : Below w0.heap.size w0 w := h.2.2.2.2.2.2
theorem bytes' (n : Nat) (a : IT) (ad : Option Addr) (l c : Nat) (w : World) (hr : Rd w n a.items (.slice ad l c)) (hw : a.wt ≤ 1152921504606846976) :
    Calls Try.prog 19 #[.agg #[.bool a.list, .string a.text, .slice ad l c]] w fun e w' => e = .returned (.tuple #[.string (itS a), .int .i64 (ckE a)]) ∧ Below w.heap.size w w' := by
  refine (bytes n a ad l c w hr hw).mono ?_
  rintro e w' ⟨(⟨hok, rfl⟩ | ⟨hno, rfl⟩), hb⟩
  · exact ⟨by rw [itS, ckE, if_pos hok, if_pos hok]; rfl, hb⟩
  · exact ⟨by rw [itS, ckE, if_neg hno, if_neg hno]; rfl, hb⟩
/-- An item is itself. -/
theorem eqSame (n m : Nat) (a : IT) (x y : Option Addr) (l c l' c' : Nat) (w : World) (h1 : Rd w n a.items (.slice x l c)) (h2 : Rd w m a.items (.slice y l' c')) :
    Calls Try.prog 15 #[.agg #[.bool a.list, .string a.text, .slice x l c], .agg #[.bool a.list, .string a.text, .slice y l' c']] w fun e w' => e = .returned (.bool true) ∧ Below w.heap.size w w' := by
  refine (eqItem (eqItems n) m a a _ _ w h1 h2 ⟨_, _, _, rfl⟩ ⟨_, _, _, rfl⟩).mono ?_
  rintro e w' ⟨⟨d, rfl, hd⟩, hB⟩
  exact ⟨by rw [hd.2 rfl], hB⟩
end Go.Proofs.Ytliaegnhnnnojaa

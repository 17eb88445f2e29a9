import Derived.Test.YtljfenjpnanoiaaSls
set_option linter.unusedSimpArgs false
set_option linter.unusedVariables false
namespace Go.Proofs.Ytljfenjpnanoiaa
open Go.RowKit

theorem below_at {w w' : World} {n b o : Nat} {v : Value} (hb : Below n w w') (hl : b < n) (h : w.cell? ⟨b, o, none⟩ = some v) : w'.cell? ⟨b, o, none⟩ = some v :=
  (hb.cell (p := ⟨b, o, none⟩) hl).trans h
/-- The eight cells of a number of the list and of a new variable. -/
def Two (b o B n m : Nat) (w' : World) : Prop := w'.cell? ⟨b, o, none⟩ = some (.int .u64 (lb n 0)) ∧ w'.cell? ⟨b, o + 1, none⟩ = some (.int .u64 (lb n 1)) ∧ w'.cell? ⟨b, o + 2, none⟩ = some (.int .u64 (lb n 2)) ∧ w'.cell? ⟨b, o + 3, none⟩ = some (.int .u64 (lb n 3)) ∧ w'.cell? ⟨B, 0, none⟩ = some (.int .u64 (lb m 0)) ∧ w'.cell? ⟨B, 1, none⟩ = some (.int .u64 (lb m 1)) ∧ w'.cell? ⟨B, 2, none⟩ = some (.int .u64 (lb m 2)) ∧ w'.cell? ⟨B, 3, none⟩ = some (.int .u64 (lb m 3))
theorem Two.below {b o B n m : Nat} {w w' : World} (h : Two b o B n m w) (hb : Below w.heap.size w w') : Two b o B n m w' := by
  obtain ⟨h0, h1, h2, h3, h4, h5, h6, h7⟩ := h
  exact ⟨below_at hb (cell_lt h0) h0, below_at hb (cell_lt h1) h1, below_at hb (cell_lt h2) h2, below_at hb (cell_lt h3) h3, below_at hb (cell_lt h4) h4, below_at hb (cell_lt h5) h5, below_at hb (cell_lt h6) h6, below_at hb (cell_lt h7) h7⟩
theorem Two.drew {b o B n m : Nat} {w : World} (h : Two b o B n m w) : Two b o B n m w.drew := h.below ((Below.refl _ w).drew)
theorem below_step {n : Nat} {a b c : World} (h : Below n a b) (h2 : Below b.drew.heap.size b.drew c) (hn : n ≤ a.heap.size := by exact Nat.le_refl _) : Below n a c :=
  h.drew.trans (h2.mono (Nat.le_trans hn h.size))
theorem below_step2 {n : Nat} {a b c : World} (h : Below n a b) (h2 : Below b.heap.size b c) (hn : n ≤ a.heap.size := by exact Nat.le_refl _) : Below n a c :=
  h.trans (h2.mono (Nat.le_trans hn h.size))
end Go.Proofs.Ytljfenjpnanoiaa

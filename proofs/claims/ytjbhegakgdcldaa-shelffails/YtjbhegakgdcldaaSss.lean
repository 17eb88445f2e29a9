import Derived.Test.YtjbhegakgdcldaaJ0
set_option linter.unusedSimpArgs false
set_option linter.unusedVariables false
namespace Go.Proofs.Ytjbhegakgdcldaa
open Go.RowKit

theorem cell_lt' {w : World} {a : Addr} {v : Value} (h : w.cell? a = some v) : a.block < w.heap.size := World.block_lt_of_cell? w a h
/-- A slice of strings, as the walk reads it. -/
def Ss (w : World) (v : Value) (f : Nat → ByteArray) (len : Nat) : Prop :=
  len ≤ maxLen ∧ (∀ i, i < len → (f i).size ≤ maxLen) ∧ ∃ ad cap, v = .slice ad len cap ∧ ∀ i, i < len → ∃ b off, ad = some ⟨b, off, none⟩ ∧ w.cell? ⟨b, off + i, none⟩ = some (.string (f i))
end Go.Proofs.Ytjbhegakgdcldaa

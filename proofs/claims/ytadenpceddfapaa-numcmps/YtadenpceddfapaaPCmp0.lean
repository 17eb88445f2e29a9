import Derived.Test.YtadenpceddfapaaAll
set_option linter.unusedSimpArgs false
set_option linter.unusedVariables false
namespace Go.Proofs.Ytadenpceddfapaa
open Go.RowKit

theorem below_at {w w' : World} {n b o : Nat} {v : Value} (hb : Below n w w') (hl : b < n) (h : w.cell? ⟨b, o, none⟩ = some v) : w'.cell? ⟨b, o, none⟩ = some v :=
  (hb.cell (p := ⟨b, o, none⟩) hl).trans h
end Go.Proofs.Ytadenpceddfapaa

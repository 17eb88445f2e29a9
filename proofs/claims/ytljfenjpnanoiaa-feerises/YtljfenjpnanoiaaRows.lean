/-
  No cell of these rows narrows 'for every input' (looked for: loops, veiled, ifaces, maps, wideKeys, modest, calm, conditions, laid).
  DERIVED. THE GIVEN ROWS OF THIS SEAT. 6 by the template 'for every input the law returns true; each argument reads behind the call as it read before'; 0 by the template 'total and deterministic' (their statements: YtljfenjpnanoiaaTotals.lean).
  GIVEN WITH THE SEED: the statements are not yours to turn. If you find one false, say at which input.
  Laid BY PROGRAM, IN A SANDBOX (cutbox-rows.mjs): the forced cells as the released guide's own fill.sh prints them over the translation 1877df264a11b9bc… (all of the seat's roots in one cut). By AI agents, Wed Nov 11 2026. No macro, syntax, notation, axiom, sorry.
-/
import Derived.Test.YtljfenjpnanoiaaChecked
import GoSem.Claim
import GoSem.ClaimJoined
import GoSem.ClaimMapViews
import Derived.JoinedTies
import Derived.KernelRfl
namespace Go.Proofs.Ytljfenjpnanoiaa
/- THE CELL 'sum', in the pinned program and in every row, IS THE sha256 OF THE DUMP (.gsa) THAT YtljfenjpnanoiaaProg.lean LOADS. Nothing in Lean hashes anything: it is a label: what it is worth is what the hold of that sum in a sandbox is worth. -/
noncomputable def Try.pinned : Pinned := { name := "ytljfenjpnanoiaa", sum := "1877df264a11b9bce2d16de1f583bbd2d09d0db36ff1842a172bddf46bd48c11", checked := Try.checked }
namespace Rows
def none {H : Type} : Left H := { results := [], args := [] }

/-- 'tarnlaw3.LevelTells': WHATEVER THE INPUT: true; the input reads as it did. -/
def levelTellsSpec : ChangeSpec := { name := "levelTells", fn := fun _ => fun
  | [d] => { results := [.lit (.bool true)], args := [d] }
  | _ => none }
def levelTellsRow : OpenClaim := { program := "ytljfenjpnanoiaa", sum := "1877df264a11b9bce2d16de1f583bbd2d09d0db36ff1842a172bddf46bd48c11", func := "tarn/tarnlaw3.LevelTells", spec := "levelTells", inPlace := ["math/bits.Add64"], unfollowed := true, recurses := true, apart := false }
def LevelTellsSaid : Prop := levelTellsRow.holds Try.pinned (OpenSpec.ofChange levelTellsSpec)

/-- ITS FALSE NEIGHBOUR: 'it returns false'. Refute it at one input. -/
def levelTellsWrong : ChangeSpec := { name := "levelTells", fn := fun _ => fun
  | [d] => { results := [.lit (.bool false)], args := [d] }
  | _ => none }
def LevelTellsWrongFalsely : Prop := levelTellsRow.holds Try.pinned (OpenSpec.ofChange levelTellsWrong)

/-- 'tarnlaw3.LevelRises': WHATEVER THE INPUT: true; the input reads as it did. -/
def levelRisesSpec : ChangeSpec := { name := "levelRises", fn := fun _ => fun
  | [d] => { results := [.lit (.bool true)], args := [d] }
  | _ => none }
def levelRisesRow : OpenClaim := { program := "ytljfenjpnanoiaa", sum := "1877df264a11b9bce2d16de1f583bbd2d09d0db36ff1842a172bddf46bd48c11", func := "tarn/tarnlaw3.LevelRises", spec := "levelRises", inPlace := ["math/bits.Add64", "math/bits.Sub64"], unfollowed := true, recurses := true, named := ["math/bits.divideError", "math/bits.overflowError"], apart := false }
def LevelRisesSaid : Prop := levelRisesRow.holds Try.pinned (OpenSpec.ofChange levelRisesSpec)

/-- ITS FALSE NEIGHBOUR: 'it returns false'. Refute it at one input. -/
def levelRisesWrong : ChangeSpec := { name := "levelRises", fn := fun _ => fun
  | [d] => { results := [.lit (.bool false)], args := [d] }
  | _ => none }
def LevelRisesWrongFalsely : Prop := levelRisesRow.holds Try.pinned (OpenSpec.ofChange levelRisesWrong)

/-- 'tarnlaw3.LevelDoubles': WHATEVER THE INPUT: true; the input reads as it did. -/
def levelDoublesSpec : ChangeSpec := { name := "levelDoubles", fn := fun _ => fun
  | [d] => { results := [.lit (.bool true)], args := [d] }
  | _ => none }
def levelDoublesRow : OpenClaim := { program := "ytljfenjpnanoiaa", sum := "1877df264a11b9bce2d16de1f583bbd2d09d0db36ff1842a172bddf46bd48c11", func := "tarn/tarnlaw3.LevelDoubles", spec := "levelDoubles", inPlace := ["math/bits.Add64"], unfollowed := true, recurses := true, apart := false }
def LevelDoublesSaid : Prop := levelDoublesRow.holds Try.pinned (OpenSpec.ofChange levelDoublesSpec)

/-- ITS FALSE NEIGHBOUR: 'it returns false'. Refute it at one input. -/
def levelDoublesWrong : ChangeSpec := { name := "levelDoubles", fn := fun _ => fun
  | [d] => { results := [.lit (.bool false)], args := [d] }
  | _ => none }
def LevelDoublesWrongFalsely : Prop := levelDoublesRow.holds Try.pinned (OpenSpec.ofChange levelDoublesWrong)

/-- 'tarnlaw3.LevelDists': WHATEVER THE INPUT: true; the input reads as it did. -/
def levelDistsSpec : ChangeSpec := { name := "levelDists", fn := fun _ => fun
  | [d] => { results := [.lit (.bool true)], args := [d] }
  | _ => none }
def levelDistsRow : OpenClaim := { program := "ytljfenjpnanoiaa", sum := "1877df264a11b9bce2d16de1f583bbd2d09d0db36ff1842a172bddf46bd48c11", func := "tarn/tarnlaw3.LevelDists", spec := "levelDists", unfollowed := true, recurses := true, apart := false }
def LevelDistsSaid : Prop := levelDistsRow.holds Try.pinned (OpenSpec.ofChange levelDistsSpec)

/-- ITS FALSE NEIGHBOUR: 'it returns false'. Refute it at one input. -/
def levelDistsWrong : ChangeSpec := { name := "levelDists", fn := fun _ => fun
  | [d] => { results := [.lit (.bool false)], args := [d] }
  | _ => none }
def LevelDistsWrongFalsely : Prop := levelDistsRow.holds Try.pinned (OpenSpec.ofChange levelDistsWrong)

/-- 'tarnlaw1.NumLaws': WHATEVER THE INPUT: true; the input reads as it did. -/
def numLawsSpec : ChangeSpec := { name := "numLaws", fn := fun _ => fun
  | [d] => { results := [.lit (.bool true)], args := [d] }
  | _ => none }
def numLawsRow : OpenClaim := { program := "ytljfenjpnanoiaa", sum := "1877df264a11b9bce2d16de1f583bbd2d09d0db36ff1842a172bddf46bd48c11", func := "tarn/tarnlaw1.NumLaws", spec := "numLaws", inPlace := ["math/bits.Add64", "math/bits.Sub64"], unfollowed := true, recurses := true, named := ["math/bits.divideError", "math/bits.overflowError"], apart := false }
def NumLawsSaid : Prop := numLawsRow.holds Try.pinned (OpenSpec.ofChange numLawsSpec)

/-- ITS FALSE NEIGHBOUR: 'it returns false'. Refute it at one input. -/
def numLawsWrong : ChangeSpec := { name := "numLaws", fn := fun _ => fun
  | [d] => { results := [.lit (.bool false)], args := [d] }
  | _ => none }
def NumLawsWrongFalsely : Prop := numLawsRow.holds Try.pinned (OpenSpec.ofChange numLawsWrong)

/-- 'tarnlaw2.FeeRises': WHATEVER THE INPUT: true; the input reads as it did. -/
def feeRisesSpec : ChangeSpec := { name := "feeRises", fn := fun _ => fun
  | [d] => { results := [.lit (.bool true)], args := [d] }
  | _ => none }
def feeRisesRow : OpenClaim := { program := "ytljfenjpnanoiaa", sum := "1877df264a11b9bce2d16de1f583bbd2d09d0db36ff1842a172bddf46bd48c11", func := "tarn/tarnlaw2.FeeRises", spec := "feeRises", inPlace := ["math/bits.Add64", "math/bits.Sub64"], unfollowed := true, recurses := true, named := ["math/bits.divideError", "math/bits.overflowError"], apart := false }
def FeeRisesSaid : Prop := feeRisesRow.holds Try.pinned (OpenSpec.ofChange feeRisesSpec)

/-- ITS FALSE NEIGHBOUR: 'it returns false'. Refute it at one input. -/
def feeRisesWrong : ChangeSpec := { name := "feeRises", fn := fun _ => fun
  | [d] => { results := [.lit (.bool false)], args := [d] }
  | _ => none }
def FeeRisesWrongFalsely : Prop := feeRisesRow.holds Try.pinned (OpenSpec.ofChange feeRisesWrong)

/- THE SECOND FORM. 'bulk': how many values and letters a reading holds, each counted each time it is reached (what is shared counts as often as it is met; a slice's spare places count too). A statement '..UptoSaid' is the law's where the arguments, and the package variables that the reading takes, are together of bulk at most 1048576: NARROWER than '..Said'. Prove '..Said' where nothing that the law and all that it calls make is longer than what came in: it says more and counts as full. Else prove '..UptoSaid'. A law counts once. -/
mutual
def uptoBulk {H : Type} : DataW H → Nat
  | .lit (.string bytes) => bytes.length + 1
  | .lit _ => 1
  | .nil => 1
  | .ptr d => uptoBulk d + 1
  | .slice elems spare => uptoBulkAll elems + uptoBulkAll spare + 1
  | .agg parts => uptoBulkAll parts + 1
  | .iface _ d => uptoBulk d + 1
  | .map entries => uptoBulkEntries entries + 1
  | .held _ => 1
def uptoBulkAll {H : Type} : List (DataW H) → Nat
  | [] => 0
  | d :: r => uptoBulk d + uptoBulkAll r
def uptoBulkEntries {H : Type} : List (Lit × DataW H) → Nat
  | [] => 0
  | x :: r => uptoBulkEntry x + uptoBulkEntries r
def uptoBulkEntry {H : Type} : Lit × DataW H → Nat
  | (.string bytes, d) => bytes.length + uptoBulk d + 1
  | (_, d) => uptoBulk d + 1
 end
def uptoSmall : (H : Type) → List (DataW H) → Bool := fun _ ds => decide (uptoBulkAll ds ≤ 1048576)
def OpenSpec.upto (s : _root_.Go.ChangeSpec) : _root_.Go.OpenSpec := { _root_.Go.OpenSpec.ofChange s with cond := some uptoSmall }

/-- 'tarnlaw3.LevelTells', WHERE WHAT IT READS IS OF BULK AT MOST 1048576: true; the input reads as it did. -/
def levelTellsUptoRow : OpenClaim := { program := "ytljfenjpnanoiaa", sum := "1877df264a11b9bce2d16de1f583bbd2d09d0db36ff1842a172bddf46bd48c11", func := "tarn/tarnlaw3.LevelTells", spec := "levelTells", inPlace := ["math/bits.Add64"], unfollowed := true, recurses := true, apart := false, narrowed := true }
def LevelTellsUptoSaid : Prop := levelTellsUptoRow.holds Try.pinned (OpenSpec.upto levelTellsSpec)

/-- 'tarnlaw3.LevelRises', WHERE WHAT IT READS IS OF BULK AT MOST 1048576: true; the input reads as it did. -/
def levelRisesUptoRow : OpenClaim := { program := "ytljfenjpnanoiaa", sum := "1877df264a11b9bce2d16de1f583bbd2d09d0db36ff1842a172bddf46bd48c11", func := "tarn/tarnlaw3.LevelRises", spec := "levelRises", inPlace := ["math/bits.Add64", "math/bits.Sub64"], unfollowed := true, recurses := true, named := ["math/bits.divideError", "math/bits.overflowError"], apart := false, narrowed := true }
def LevelRisesUptoSaid : Prop := levelRisesUptoRow.holds Try.pinned (OpenSpec.upto levelRisesSpec)

/-- 'tarnlaw3.LevelDoubles', WHERE WHAT IT READS IS OF BULK AT MOST 1048576: true; the input reads as it did. -/
def levelDoublesUptoRow : OpenClaim := { program := "ytljfenjpnanoiaa", sum := "1877df264a11b9bce2d16de1f583bbd2d09d0db36ff1842a172bddf46bd48c11", func := "tarn/tarnlaw3.LevelDoubles", spec := "levelDoubles", inPlace := ["math/bits.Add64"], unfollowed := true, recurses := true, apart := false, narrowed := true }
def LevelDoublesUptoSaid : Prop := levelDoublesUptoRow.holds Try.pinned (OpenSpec.upto levelDoublesSpec)

/-- 'tarnlaw3.LevelDists', WHERE WHAT IT READS IS OF BULK AT MOST 1048576: true; the input reads as it did. -/
def levelDistsUptoRow : OpenClaim := { program := "ytljfenjpnanoiaa", sum := "1877df264a11b9bce2d16de1f583bbd2d09d0db36ff1842a172bddf46bd48c11", func := "tarn/tarnlaw3.LevelDists", spec := "levelDists", unfollowed := true, recurses := true, apart := false, narrowed := true }
def LevelDistsUptoSaid : Prop := levelDistsUptoRow.holds Try.pinned (OpenSpec.upto levelDistsSpec)

/-- 'tarnlaw1.NumLaws', WHERE WHAT IT READS IS OF BULK AT MOST 1048576: true; the input reads as it did. -/
def numLawsUptoRow : OpenClaim := { program := "ytljfenjpnanoiaa", sum := "1877df264a11b9bce2d16de1f583bbd2d09d0db36ff1842a172bddf46bd48c11", func := "tarn/tarnlaw1.NumLaws", spec := "numLaws", inPlace := ["math/bits.Add64", "math/bits.Sub64"], unfollowed := true, recurses := true, named := ["math/bits.divideError", "math/bits.overflowError"], apart := false, narrowed := true }
def NumLawsUptoSaid : Prop := numLawsUptoRow.holds Try.pinned (OpenSpec.upto numLawsSpec)

/-- 'tarnlaw2.FeeRises', WHERE WHAT IT READS IS OF BULK AT MOST 1048576: true; the input reads as it did. -/
def feeRisesUptoRow : OpenClaim := { program := "ytljfenjpnanoiaa", sum := "1877df264a11b9bce2d16de1f583bbd2d09d0db36ff1842a172bddf46bd48c11", func := "tarn/tarnlaw2.FeeRises", spec := "feeRises", inPlace := ["math/bits.Add64", "math/bits.Sub64"], unfollowed := true, recurses := true, named := ["math/bits.divideError", "math/bits.overflowError"], apart := false, narrowed := true }
def FeeRisesUptoSaid : Prop := feeRisesUptoRow.holds Try.pinned (OpenSpec.upto feeRisesSpec)

end Rows
end Go.Proofs.Ytljfenjpnanoiaa

/-
  No cell of these rows narrows 'for every input' (looked for: loops, veiled, ifaces, maps, wideKeys, modest, calm, conditions, laid).
  DERIVED. THE GIVEN ROWS OF THIS SEAT. 7 by the template 'for every input the law returns true; each argument reads behind the call as it read before'; 0 by the template 'total and deterministic' (their statements: YtapjonmgjccpbaaTotals.lean).
  GIVEN WITH THE SEED: the statements are not yours to turn. If you find one false, say at which input.
  Laid BY PROGRAM, IN A SANDBOX (cutbox-rows.mjs): the forced cells as the released guide's own fill.sh prints them over the translation 8c890cc1b7acadcf… (all of the seat's roots in one cut). By AI agents, Wed Nov 11 2026. No macro, syntax, notation, axiom, sorry.
-/
import Derived.Test.YtapjonmgjccpbaaChecked
import GoSem.Claim
import GoSem.ClaimJoined
import GoSem.ClaimMapViews
import Derived.JoinedTies
import Derived.KernelRfl
namespace Go.Proofs.Ytapjonmgjccpbaa
/- THE CELL 'sum', in the pinned program and in every row, IS THE sha256 OF THE DUMP (.gsa) THAT YtapjonmgjccpbaaProg.lean LOADS. Nothing in Lean hashes anything: it is a label: what it is worth is what the hold of that sum in a sandbox is worth. -/
noncomputable def Try.pinned : Pinned := { name := "ytapjonmgjccpbaa", sum := "8c890cc1b7acadcfe274893da772230290e034bc34c4080cb4f4c92015fbb913", checked := Try.checked }
namespace Rows
def none {H : Type} : Left H := { results := [], args := [] }

/-- 'tarnlaw7.TxTakes': WHATEVER THE INPUT: true; the input reads as it did. -/
def txTakesSpec : ChangeSpec := { name := "txTakes", fn := fun _ => fun
  | [d] => { results := [.lit (.bool true)], args := [d] }
  | _ => none }
def txTakesRow : OpenClaim := { program := "ytapjonmgjccpbaa", sum := "8c890cc1b7acadcfe274893da772230290e034bc34c4080cb4f4c92015fbb913", func := "tarn/tarnlaw7.TxTakes", spec := "txTakes", inPlace := ["math/bits.Add64", "slices.overlaps[byte]"], unfollowed := true, recurses := true, apart := false }
def TxTakesSaid : Prop := txTakesRow.holds Try.pinned (OpenSpec.ofChange txTakesSpec)

/-- ITS FALSE NEIGHBOUR: 'it returns false'. Refute it at one input. -/
def txTakesWrong : ChangeSpec := { name := "txTakes", fn := fun _ => fun
  | [d] => { results := [.lit (.bool false)], args := [d] }
  | _ => none }
def TxTakesWrongFalsely : Prop := txTakesRow.holds Try.pinned (OpenSpec.ofChange txTakesWrong)

/-- 'tarnlaw7.TxPays': WHATEVER THE INPUT: true; the input reads as it did. -/
def txPaysSpec : ChangeSpec := { name := "txPays", fn := fun _ => fun
  | [d] => { results := [.lit (.bool true)], args := [d] }
  | _ => none }
def txPaysRow : OpenClaim := { program := "ytapjonmgjccpbaa", sum := "8c890cc1b7acadcfe274893da772230290e034bc34c4080cb4f4c92015fbb913", func := "tarn/tarnlaw7.TxPays", spec := "txPays", inPlace := ["math/bits.Add64", "math/bits.Sub64", "slices.overlaps[byte]"], unfollowed := true, recurses := true, apart := false }
def TxPaysSaid : Prop := txPaysRow.holds Try.pinned (OpenSpec.ofChange txPaysSpec)

/-- ITS FALSE NEIGHBOUR: 'it returns false'. Refute it at one input. -/
def txPaysWrong : ChangeSpec := { name := "txPays", fn := fun _ => fun
  | [d] => { results := [.lit (.bool false)], args := [d] }
  | _ => none }
def TxPaysWrongFalsely : Prop := txPaysRow.holds Try.pinned (OpenSpec.ofChange txPaysWrong)

/-- 'tarnlaw7.TxBack': WHATEVER THE INPUT: true; the input reads as it did. -/
def txBackSpec : ChangeSpec := { name := "txBack", fn := fun _ => fun
  | [d] => { results := [.lit (.bool true)], args := [d] }
  | _ => none }
def txBackRow : OpenClaim := { program := "ytapjonmgjccpbaa", sum := "8c890cc1b7acadcfe274893da772230290e034bc34c4080cb4f4c92015fbb913", func := "tarn/tarnlaw7.TxBack", spec := "txBack", inPlace := ["math/bits.Add64", "slices.overlaps[byte]"], unfollowed := true, recurses := true, apart := false }
def TxBackSaid : Prop := txBackRow.holds Try.pinned (OpenSpec.ofChange txBackSpec)

/-- ITS FALSE NEIGHBOUR: 'it returns false'. Refute it at one input. -/
def txBackWrong : ChangeSpec := { name := "txBack", fn := fun _ => fun
  | [d] => { results := [.lit (.bool false)], args := [d] }
  | _ => none }
def TxBackWrongFalsely : Prop := txBackRow.holds Try.pinned (OpenSpec.ofChange txBackWrong)

/-- 'tarnlaw7.TxWrongs': WHATEVER THE INPUT: true; the input reads as it did. -/
def txWrongsSpec : ChangeSpec := { name := "txWrongs", fn := fun _ => fun
  | [d] => { results := [.lit (.bool true)], args := [d] }
  | _ => none }
def txWrongsRow : OpenClaim := { program := "ytapjonmgjccpbaa", sum := "8c890cc1b7acadcfe274893da772230290e034bc34c4080cb4f4c92015fbb913", func := "tarn/tarnlaw7.TxWrongs", spec := "txWrongs", inPlace := ["math/bits.Add64", "slices.overlaps[byte]"], unfollowed := true, recurses := true, apart := false }
def TxWrongsSaid : Prop := txWrongsRow.holds Try.pinned (OpenSpec.ofChange txWrongsSpec)

/-- ITS FALSE NEIGHBOUR: 'it returns false'. Refute it at one input. -/
def txWrongsWrong : ChangeSpec := { name := "txWrongs", fn := fun _ => fun
  | [d] => { results := [.lit (.bool false)], args := [d] }
  | _ => none }
def TxWrongsWrongFalsely : Prop := txWrongsRow.holds Try.pinned (OpenSpec.ofChange txWrongsWrong)

/-- 'tarnlaw8.SizeTells': WHATEVER THE INPUT: true; the input reads as it did. -/
def sizeTellsSpec : ChangeSpec := { name := "sizeTells", fn := fun _ => fun
  | [d] => { results := [.lit (.bool true)], args := [d] }
  | _ => none }
def sizeTellsRow : OpenClaim := { program := "ytapjonmgjccpbaa", sum := "8c890cc1b7acadcfe274893da772230290e034bc34c4080cb4f4c92015fbb913", func := "tarn/tarnlaw8.SizeTells", spec := "sizeTells", inPlace := ["math/bits.Add64", "slices.overlaps[byte]"], unfollowed := true, recurses := true, apart := false }
def SizeTellsSaid : Prop := sizeTellsRow.holds Try.pinned (OpenSpec.ofChange sizeTellsSpec)

/-- ITS FALSE NEIGHBOUR: 'it returns false'. Refute it at one input. -/
def sizeTellsWrong : ChangeSpec := { name := "sizeTells", fn := fun _ => fun
  | [d] => { results := [.lit (.bool false)], args := [d] }
  | _ => none }
def SizeTellsWrongFalsely : Prop := sizeTellsRow.holds Try.pinned (OpenSpec.ofChange sizeTellsWrong)

/-- 'tarnlaw8.SizeLengths': WHATEVER THE INPUT: true; the input reads as it did. -/
def sizeLengthsSpec : ChangeSpec := { name := "sizeLengths", fn := fun _ => fun
  | [d] => { results := [.lit (.bool true)], args := [d] }
  | _ => none }
def sizeLengthsRow : OpenClaim := { program := "ytapjonmgjccpbaa", sum := "8c890cc1b7acadcfe274893da772230290e034bc34c4080cb4f4c92015fbb913", func := "tarn/tarnlaw8.SizeLengths", spec := "sizeLengths", unfollowed := true, recurses := true, apart := false }
def SizeLengthsSaid : Prop := sizeLengthsRow.holds Try.pinned (OpenSpec.ofChange sizeLengthsSpec)

/-- ITS FALSE NEIGHBOUR: 'it returns false'. Refute it at one input. -/
def sizeLengthsWrong : ChangeSpec := { name := "sizeLengths", fn := fun _ => fun
  | [d] => { results := [.lit (.bool false)], args := [d] }
  | _ => none }
def SizeLengthsWrongFalsely : Prop := sizeLengthsRow.holds Try.pinned (OpenSpec.ofChange sizeLengthsWrong)

/-- 'tarnlaw8.SizeFits': WHATEVER THE INPUT: true; the input reads as it did. -/
def sizeFitsSpec : ChangeSpec := { name := "sizeFits", fn := fun _ => fun
  | [d] => { results := [.lit (.bool true)], args := [d] }
  | _ => none }
def sizeFitsRow : OpenClaim := { program := "ytapjonmgjccpbaa", sum := "8c890cc1b7acadcfe274893da772230290e034bc34c4080cb4f4c92015fbb913", func := "tarn/tarnlaw8.SizeFits", spec := "sizeFits", inPlace := ["math/bits.Add64", "slices.overlaps[byte]"], unfollowed := true, recurses := true, apart := false }
def SizeFitsSaid : Prop := sizeFitsRow.holds Try.pinned (OpenSpec.ofChange sizeFitsSpec)

/-- ITS FALSE NEIGHBOUR: 'it returns false'. Refute it at one input. -/
def sizeFitsWrong : ChangeSpec := { name := "sizeFits", fn := fun _ => fun
  | [d] => { results := [.lit (.bool false)], args := [d] }
  | _ => none }
def SizeFitsWrongFalsely : Prop := sizeFitsRow.holds Try.pinned (OpenSpec.ofChange sizeFitsWrong)

/- THE SECOND FORM. 'bulk': how many values and letters a reading holds, each counted each time it is reached (what is shared counts as often as it is met; a slice's spare places count too). A statement '..UptoSaid' is the law's where the arguments, and the package variables that the reading takes, are together of bulk at most 1048576: NARROWER than '..Said'. Prove '..Said' where nothing that the law and all that it calls make is longer than what came in: it says more and counts as full. Else prove '..UptoSaid'. A law counts once. -/
mutual
def uptoBulk {H : Type} : DataW H → Nat
  | .lit (.string bytes) => bytes.length + 1
  | .lit _ => 1
  | .nil => 1
  | .ptr d => uptoBulk d + 1
  | .slice elems spare => uptoBulkAll elems + uptoBulkAll spare + 1
  | .agg parts => uptoBulkAll parts + 1
  | .iface _ d => uptoBulk d + 1
  | .map entries => uptoBulkEntries entries + 1
  | .held _ => 1
def uptoBulkAll {H : Type} : List (DataW H) → Nat
  | [] => 0
  | d :: r => uptoBulk d + uptoBulkAll r
def uptoBulkEntries {H : Type} : List (Lit × DataW H) → Nat
  | [] => 0
  | x :: r => uptoBulkEntry x + uptoBulkEntries r
def uptoBulkEntry {H : Type} : Lit × DataW H → Nat
  | (.string bytes, d) => bytes.length + uptoBulk d + 1
  | (_, d) => uptoBulk d + 1
 end
def uptoSmall : (H : Type) → List (DataW H) → Bool := fun _ ds => decide (uptoBulkAll ds ≤ 1048576)
def OpenSpec.upto (s : _root_.Go.ChangeSpec) : _root_.Go.OpenSpec := { _root_.Go.OpenSpec.ofChange s with cond := some uptoSmall }

/-- 'tarnlaw7.TxTakes', WHERE WHAT IT READS IS OF BULK AT MOST 1048576: true; the input reads as it did. -/
def txTakesUptoRow : OpenClaim := { program := "ytapjonmgjccpbaa", sum := "8c890cc1b7acadcfe274893da772230290e034bc34c4080cb4f4c92015fbb913", func := "tarn/tarnlaw7.TxTakes", spec := "txTakes", inPlace := ["math/bits.Add64", "slices.overlaps[byte]"], unfollowed := true, recurses := true, apart := false, narrowed := true }
def TxTakesUptoSaid : Prop := txTakesUptoRow.holds Try.pinned (OpenSpec.upto txTakesSpec)

/-- 'tarnlaw7.TxPays', WHERE WHAT IT READS IS OF BULK AT MOST 1048576: true; the input reads as it did. -/
def txPaysUptoRow : OpenClaim := { program := "ytapjonmgjccpbaa", sum := "8c890cc1b7acadcfe274893da772230290e034bc34c4080cb4f4c92015fbb913", func := "tarn/tarnlaw7.TxPays", spec := "txPays", inPlace := ["math/bits.Add64", "math/bits.Sub64", "slices.overlaps[byte]"], unfollowed := true, recurses := true, apart := false, narrowed := true }
def TxPaysUptoSaid : Prop := txPaysUptoRow.holds Try.pinned (OpenSpec.upto txPaysSpec)

/-- 'tarnlaw7.TxBack', WHERE WHAT IT READS IS OF BULK AT MOST 1048576: true; the input reads as it did. -/
def txBackUptoRow : OpenClaim := { program := "ytapjonmgjccpbaa", sum := "8c890cc1b7acadcfe274893da772230290e034bc34c4080cb4f4c92015fbb913", func := "tarn/tarnlaw7.TxBack", spec := "txBack", inPlace := ["math/bits.Add64", "slices.overlaps[byte]"], unfollowed := true, recurses := true, apart := false, narrowed := true }
def TxBackUptoSaid : Prop := txBackUptoRow.holds Try.pinned (OpenSpec.upto txBackSpec)

/-- 'tarnlaw7.TxWrongs', WHERE WHAT IT READS IS OF BULK AT MOST 1048576: true; the input reads as it did. -/
def txWrongsUptoRow : OpenClaim := { program := "ytapjonmgjccpbaa", sum := "8c890cc1b7acadcfe274893da772230290e034bc34c4080cb4f4c92015fbb913", func := "tarn/tarnlaw7.TxWrongs", spec := "txWrongs", inPlace := ["math/bits.Add64", "slices.overlaps[byte]"], unfollowed := true, recurses := true, apart := false, narrowed := true }
def TxWrongsUptoSaid : Prop := txWrongsUptoRow.holds Try.pinned (OpenSpec.upto txWrongsSpec)

/-- 'tarnlaw8.SizeTells', WHERE WHAT IT READS IS OF BULK AT MOST 1048576: true; the input reads as it did. -/
def sizeTellsUptoRow : OpenClaim := { program := "ytapjonmgjccpbaa", sum := "8c890cc1b7acadcfe274893da772230290e034bc34c4080cb4f4c92015fbb913", func := "tarn/tarnlaw8.SizeTells", spec := "sizeTells", inPlace := ["math/bits.Add64", "slices.overlaps[byte]"], unfollowed := true, recurses := true, apart := false, narrowed := true }
def SizeTellsUptoSaid : Prop := sizeTellsUptoRow.holds Try.pinned (OpenSpec.upto sizeTellsSpec)

/-- 'tarnlaw8.SizeLengths', WHERE WHAT IT READS IS OF BULK AT MOST 1048576: true; the input reads as it did. -/
def sizeLengthsUptoRow : OpenClaim := { program := "ytapjonmgjccpbaa", sum := "8c890cc1b7acadcfe274893da772230290e034bc34c4080cb4f4c92015fbb913", func := "tarn/tarnlaw8.SizeLengths", spec := "sizeLengths", unfollowed := true, recurses := true, apart := false, narrowed := true }
def SizeLengthsUptoSaid : Prop := sizeLengthsUptoRow.holds Try.pinned (OpenSpec.upto sizeLengthsSpec)

/-- 'tarnlaw8.SizeFits', WHERE WHAT IT READS IS OF BULK AT MOST 1048576: true; the input reads as it did. -/
def sizeFitsUptoRow : OpenClaim := { program := "ytapjonmgjccpbaa", sum := "8c890cc1b7acadcfe274893da772230290e034bc34c4080cb4f4c92015fbb913", func := "tarn/tarnlaw8.SizeFits", spec := "sizeFits", inPlace := ["math/bits.Add64", "slices.overlaps[byte]"], unfollowed := true, recurses := true, apart := false, narrowed := true }
def SizeFitsUptoSaid : Prop := sizeFitsUptoRow.holds Try.pinned (OpenSpec.upto sizeFitsSpec)

end Rows
end Go.Proofs.Ytapjonmgjccpbaa

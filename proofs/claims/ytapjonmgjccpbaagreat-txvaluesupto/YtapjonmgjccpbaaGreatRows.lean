/-
  No cell of these rows narrows 'for every input' (looked for: loops, veiled, ifaces, maps, wideKeys, modest, calm, conditions, laid).
  DERIVED. THE GIVEN ROWS OF THIS SEAT. 8 by the template 'for every input the law returns true; each argument reads behind the call as it read before'; 0 by the template 'total and deterministic' (their statements: YtapjonmgjccpbaaGreatTotals.lean).
  GIVEN WITH THE SEED: the statements are not yours to turn. If you find one false, say at which input.
  Laid BY PROGRAM, IN A SANDBOX (cutbox-rows.mjs): the forced cells as the released guide's own fill.sh prints them over the translation 044ef360eba9515e… (all of the seat's roots in one cut). By AI agents, Wed Nov 11 2026. No macro, syntax, notation, axiom, sorry.
-/
import Derived.Test.YtapjonmgjccpbaaGreatChecked
import GoSem.Claim
import GoSem.ClaimJoined
import GoSem.ClaimMapViews
import Derived.JoinedTies
import Derived.KernelRfl
namespace Go.Proofs.YtapjonmgjccpbaaGreat
/- THE CELL 'sum', in the pinned program and in every row, IS THE sha256 OF THE DUMP (.gsa) THAT YtapjonmgjccpbaaGreatProg.lean LOADS. Nothing in Lean hashes anything: it is a label: what it is worth is what the hold of that sum in a sandbox is worth. -/
noncomputable def Tryz.pinned : Pinned := { name := "ytapjonmgjccpbaagreat", sum := "044ef360eba9515e67c4341a21dd9f1503bd1b33dea9cab69753d26318b9dfe2", checked := Tryz.checked }
namespace Rows
def none {H : Type} : Left H := { results := [], args := [] }

/-- 'tarnlaw7.TxBytes': WHATEVER THE INPUT: true; the input reads as it did. -/
def txBytesSpec : ChangeSpec := { name := "txBytes", fn := fun _ => fun
  | [d] => { results := [.lit (.bool true)], args := [d] }
  | _ => none }
def txBytesRow : OpenClaim := { program := "ytapjonmgjccpbaagreat", sum := "044ef360eba9515e67c4341a21dd9f1503bd1b33dea9cab69753d26318b9dfe2", func := "tarn/tarnlaw7.TxBytes", spec := "txBytes", inPlace := ["math/bits.Add64", "slices.overlaps[byte]"], unfollowed := true, recurses := true, apart := false }
def TxBytesSaid : Prop := txBytesRow.holds Tryz.pinned (OpenSpec.ofChange txBytesSpec)

/-- ITS FALSE NEIGHBOUR: 'it returns false'. Refute it at one input. -/
def txBytesWrong : ChangeSpec := { name := "txBytes", fn := fun _ => fun
  | [d] => { results := [.lit (.bool false)], args := [d] }
  | _ => none }
def TxBytesWrongFalsely : Prop := txBytesRow.holds Tryz.pinned (OpenSpec.ofChange txBytesWrong)

/-- 'tarnlaw7.TxFroms': WHATEVER THE INPUT: true; the input reads as it did. -/
def txFromsSpec : ChangeSpec := { name := "txFroms", fn := fun _ => fun
  | [d] => { results := [.lit (.bool true)], args := [d] }
  | _ => none }
def txFromsRow : OpenClaim := { program := "ytapjonmgjccpbaagreat", sum := "044ef360eba9515e67c4341a21dd9f1503bd1b33dea9cab69753d26318b9dfe2", func := "tarn/tarnlaw7.TxFroms", spec := "txFroms", inPlace := ["math/bits.Add64", "slices.overlaps[byte]"], unfollowed := true, recurses := true, apart := false }
def TxFromsSaid : Prop := txFromsRow.holds Tryz.pinned (OpenSpec.ofChange txFromsSpec)

/-- ITS FALSE NEIGHBOUR: 'it returns false'. Refute it at one input. -/
def txFromsWrong : ChangeSpec := { name := "txFroms", fn := fun _ => fun
  | [d] => { results := [.lit (.bool false)], args := [d] }
  | _ => none }
def TxFromsWrongFalsely : Prop := txFromsRow.holds Tryz.pinned (OpenSpec.ofChange txFromsWrong)

/-- 'tarnlaw7.TxNonces': WHATEVER THE INPUT: true; the input reads as it did. -/
def txNoncesSpec : ChangeSpec := { name := "txNonces", fn := fun _ => fun
  | [d] => { results := [.lit (.bool true)], args := [d] }
  | _ => none }
def txNoncesRow : OpenClaim := { program := "ytapjonmgjccpbaagreat", sum := "044ef360eba9515e67c4341a21dd9f1503bd1b33dea9cab69753d26318b9dfe2", func := "tarn/tarnlaw7.TxNonces", spec := "txNonces", inPlace := ["math/bits.Add64", "slices.overlaps[byte]"], unfollowed := true, recurses := true, apart := false }
def TxNoncesSaid : Prop := txNoncesRow.holds Tryz.pinned (OpenSpec.ofChange txNoncesSpec)

/-- ITS FALSE NEIGHBOUR: 'it returns false'. Refute it at one input. -/
def txNoncesWrong : ChangeSpec := { name := "txNonces", fn := fun _ => fun
  | [d] => { results := [.lit (.bool false)], args := [d] }
  | _ => none }
def TxNoncesWrongFalsely : Prop := txNoncesRow.holds Tryz.pinned (OpenSpec.ofChange txNoncesWrong)

/-- 'tarnlaw7.TxGases': WHATEVER THE INPUT: true; the input reads as it did. -/
def txGasesSpec : ChangeSpec := { name := "txGases", fn := fun _ => fun
  | [d] => { results := [.lit (.bool true)], args := [d] }
  | _ => none }
def txGasesRow : OpenClaim := { program := "ytapjonmgjccpbaagreat", sum := "044ef360eba9515e67c4341a21dd9f1503bd1b33dea9cab69753d26318b9dfe2", func := "tarn/tarnlaw7.TxGases", spec := "txGases", inPlace := ["math/bits.Add64", "slices.overlaps[byte]"], unfollowed := true, recurses := true, apart := false }
def TxGasesSaid : Prop := txGasesRow.holds Tryz.pinned (OpenSpec.ofChange txGasesSpec)

/-- ITS FALSE NEIGHBOUR: 'it returns false'. Refute it at one input. -/
def txGasesWrong : ChangeSpec := { name := "txGases", fn := fun _ => fun
  | [d] => { results := [.lit (.bool false)], args := [d] }
  | _ => none }
def TxGasesWrongFalsely : Prop := txGasesRow.holds Tryz.pinned (OpenSpec.ofChange txGasesWrong)

/-- 'tarnlaw7.TxTips': WHATEVER THE INPUT: true; the input reads as it did. -/
def txTipsSpec : ChangeSpec := { name := "txTips", fn := fun _ => fun
  | [d] => { results := [.lit (.bool true)], args := [d] }
  | _ => none }
def txTipsRow : OpenClaim := { program := "ytapjonmgjccpbaagreat", sum := "044ef360eba9515e67c4341a21dd9f1503bd1b33dea9cab69753d26318b9dfe2", func := "tarn/tarnlaw7.TxTips", spec := "txTips", inPlace := ["math/bits.Add64", "slices.overlaps[byte]"], unfollowed := true, recurses := true, apart := false }
def TxTipsSaid : Prop := txTipsRow.holds Tryz.pinned (OpenSpec.ofChange txTipsSpec)

/-- ITS FALSE NEIGHBOUR: 'it returns false'. Refute it at one input. -/
def txTipsWrong : ChangeSpec := { name := "txTips", fn := fun _ => fun
  | [d] => { results := [.lit (.bool false)], args := [d] }
  | _ => none }
def TxTipsWrongFalsely : Prop := txTipsRow.holds Tryz.pinned (OpenSpec.ofChange txTipsWrong)

/-- 'tarnlaw7.TxCaps': WHATEVER THE INPUT: true; the input reads as it did. -/
def txCapsSpec : ChangeSpec := { name := "txCaps", fn := fun _ => fun
  | [d] => { results := [.lit (.bool true)], args := [d] }
  | _ => none }
def txCapsRow : OpenClaim := { program := "ytapjonmgjccpbaagreat", sum := "044ef360eba9515e67c4341a21dd9f1503bd1b33dea9cab69753d26318b9dfe2", func := "tarn/tarnlaw7.TxCaps", spec := "txCaps", inPlace := ["math/bits.Add64", "slices.overlaps[byte]"], unfollowed := true, recurses := true, apart := false }
def TxCapsSaid : Prop := txCapsRow.holds Tryz.pinned (OpenSpec.ofChange txCapsSpec)

/-- ITS FALSE NEIGHBOUR: 'it returns false'. Refute it at one input. -/
def txCapsWrong : ChangeSpec := { name := "txCaps", fn := fun _ => fun
  | [d] => { results := [.lit (.bool false)], args := [d] }
  | _ => none }
def TxCapsWrongFalsely : Prop := txCapsRow.holds Tryz.pinned (OpenSpec.ofChange txCapsWrong)

/-- 'tarnlaw7.TxBlobCaps': WHATEVER THE INPUT: true; the input reads as it did. -/
def txBlobCapsSpec : ChangeSpec := { name := "txBlobCaps", fn := fun _ => fun
  | [d] => { results := [.lit (.bool true)], args := [d] }
  | _ => none }
def txBlobCapsRow : OpenClaim := { program := "ytapjonmgjccpbaagreat", sum := "044ef360eba9515e67c4341a21dd9f1503bd1b33dea9cab69753d26318b9dfe2", func := "tarn/tarnlaw7.TxBlobCaps", spec := "txBlobCaps", inPlace := ["math/bits.Add64", "slices.overlaps[byte]"], unfollowed := true, recurses := true, apart := false }
def TxBlobCapsSaid : Prop := txBlobCapsRow.holds Tryz.pinned (OpenSpec.ofChange txBlobCapsSpec)

/-- ITS FALSE NEIGHBOUR: 'it returns false'. Refute it at one input. -/
def txBlobCapsWrong : ChangeSpec := { name := "txBlobCaps", fn := fun _ => fun
  | [d] => { results := [.lit (.bool false)], args := [d] }
  | _ => none }
def TxBlobCapsWrongFalsely : Prop := txBlobCapsRow.holds Tryz.pinned (OpenSpec.ofChange txBlobCapsWrong)

/-- 'tarnlaw7.TxValues': WHATEVER THE INPUT: true; the input reads as it did. -/
def txValuesSpec : ChangeSpec := { name := "txValues", fn := fun _ => fun
  | [d] => { results := [.lit (.bool true)], args := [d] }
  | _ => none }
def txValuesRow : OpenClaim := { program := "ytapjonmgjccpbaagreat", sum := "044ef360eba9515e67c4341a21dd9f1503bd1b33dea9cab69753d26318b9dfe2", func := "tarn/tarnlaw7.TxValues", spec := "txValues", inPlace := ["math/bits.Add64", "slices.overlaps[byte]"], unfollowed := true, recurses := true, apart := false }
def TxValuesSaid : Prop := txValuesRow.holds Tryz.pinned (OpenSpec.ofChange txValuesSpec)

/-- ITS FALSE NEIGHBOUR: 'it returns false'. Refute it at one input. -/
def txValuesWrong : ChangeSpec := { name := "txValues", fn := fun _ => fun
  | [d] => { results := [.lit (.bool false)], args := [d] }
  | _ => none }
def TxValuesWrongFalsely : Prop := txValuesRow.holds Tryz.pinned (OpenSpec.ofChange txValuesWrong)

/- THE SECOND FORM. 'bulk': how many values and letters a reading holds, each counted each time it is reached (what is shared counts as often as it is met; a slice's spare places count too). A statement '..UptoSaid' is the law's where the arguments, and the package variables that the reading takes, are together of bulk at most 1048576: NARROWER than '..Said'. Prove '..Said' where nothing that the law and all that it calls make is longer than what came in: it says more and counts as full. Else prove '..UptoSaid'. A law counts once. -/
mutual
def uptoBulk {H : Type} : DataW H → Nat
  | .lit (.string bytes) => bytes.length + 1
  | .lit _ => 1
  | .nil => 1
  | .ptr d => uptoBulk d + 1
  | .slice elems spare => uptoBulkAll elems + uptoBulkAll spare + 1
  | .agg parts => uptoBulkAll parts + 1
  | .iface _ d => uptoBulk d + 1
  | .map entries => uptoBulkEntries entries + 1
  | .held _ => 1
def uptoBulkAll {H : Type} : List (DataW H) → Nat
  | [] => 0
  | d :: r => uptoBulk d + uptoBulkAll r
def uptoBulkEntries {H : Type} : List (Lit × DataW H) → Nat
  | [] => 0
  | x :: r => uptoBulkEntry x + uptoBulkEntries r
def uptoBulkEntry {H : Type} : Lit × DataW H → Nat
  | (.string bytes, d) => bytes.length + uptoBulk d + 1
  | (_, d) => uptoBulk d + 1
 end
def uptoSmall : (H : Type) → List (DataW H) → Bool := fun _ ds => decide (uptoBulkAll ds ≤ 1048576)
def OpenSpec.upto (s : _root_.Go.ChangeSpec) : _root_.Go.OpenSpec := { _root_.Go.OpenSpec.ofChange s with cond := some uptoSmall }

/-- 'tarnlaw7.TxBytes', WHERE WHAT IT READS IS OF BULK AT MOST 1048576: true; the input reads as it did. -/
def txBytesUptoRow : OpenClaim := { program := "ytapjonmgjccpbaagreat", sum := "044ef360eba9515e67c4341a21dd9f1503bd1b33dea9cab69753d26318b9dfe2", func := "tarn/tarnlaw7.TxBytes", spec := "txBytes", inPlace := ["math/bits.Add64", "slices.overlaps[byte]"], unfollowed := true, recurses := true, apart := false, narrowed := true }
def TxBytesUptoSaid : Prop := txBytesUptoRow.holds Tryz.pinned (OpenSpec.upto txBytesSpec)

/-- 'tarnlaw7.TxFroms', WHERE WHAT IT READS IS OF BULK AT MOST 1048576: true; the input reads as it did. -/
def txFromsUptoRow : OpenClaim := { program := "ytapjonmgjccpbaagreat", sum := "044ef360eba9515e67c4341a21dd9f1503bd1b33dea9cab69753d26318b9dfe2", func := "tarn/tarnlaw7.TxFroms", spec := "txFroms", inPlace := ["math/bits.Add64", "slices.overlaps[byte]"], unfollowed := true, recurses := true, apart := false, narrowed := true }
def TxFromsUptoSaid : Prop := txFromsUptoRow.holds Tryz.pinned (OpenSpec.upto txFromsSpec)

/-- 'tarnlaw7.TxNonces', WHERE WHAT IT READS IS OF BULK AT MOST 1048576: true; the input reads as it did. -/
def txNoncesUptoRow : OpenClaim := { program := "ytapjonmgjccpbaagreat", sum := "044ef360eba9515e67c4341a21dd9f1503bd1b33dea9cab69753d26318b9dfe2", func := "tarn/tarnlaw7.TxNonces", spec := "txNonces", inPlace := ["math/bits.Add64", "slices.overlaps[byte]"], unfollowed := true, recurses := true, apart := false, narrowed := true }
def TxNoncesUptoSaid : Prop := txNoncesUptoRow.holds Tryz.pinned (OpenSpec.upto txNoncesSpec)

/-- 'tarnlaw7.TxGases', WHERE WHAT IT READS IS OF BULK AT MOST 1048576: true; the input reads as it did. -/
def txGasesUptoRow : OpenClaim := { program := "ytapjonmgjccpbaagreat", sum := "044ef360eba9515e67c4341a21dd9f1503bd1b33dea9cab69753d26318b9dfe2", func := "tarn/tarnlaw7.TxGases", spec := "txGases", inPlace := ["math/bits.Add64", "slices.overlaps[byte]"], unfollowed := true, recurses := true, apart := false, narrowed := true }
def TxGasesUptoSaid : Prop := txGasesUptoRow.holds Tryz.pinned (OpenSpec.upto txGasesSpec)

/-- 'tarnlaw7.TxTips', WHERE WHAT IT READS IS OF BULK AT MOST 1048576: true; the input reads as it did. -/
def txTipsUptoRow : OpenClaim := { program := "ytapjonmgjccpbaagreat", sum := "044ef360eba9515e67c4341a21dd9f1503bd1b33dea9cab69753d26318b9dfe2", func := "tarn/tarnlaw7.TxTips", spec := "txTips", inPlace := ["math/bits.Add64", "slices.overlaps[byte]"], unfollowed := true, recurses := true, apart := false, narrowed := true }
def TxTipsUptoSaid : Prop := txTipsUptoRow.holds Tryz.pinned (OpenSpec.upto txTipsSpec)

/-- 'tarnlaw7.TxCaps', WHERE WHAT IT READS IS OF BULK AT MOST 1048576: true; the input reads as it did. -/
def txCapsUptoRow : OpenClaim := { program := "ytapjonmgjccpbaagreat", sum := "044ef360eba9515e67c4341a21dd9f1503bd1b33dea9cab69753d26318b9dfe2", func := "tarn/tarnlaw7.TxCaps", spec := "txCaps", inPlace := ["math/bits.Add64", "slices.overlaps[byte]"], unfollowed := true, recurses := true, apart := false, narrowed := true }
def TxCapsUptoSaid : Prop := txCapsUptoRow.holds Tryz.pinned (OpenSpec.upto txCapsSpec)

/-- 'tarnlaw7.TxBlobCaps', WHERE WHAT IT READS IS OF BULK AT MOST 1048576: true; the input reads as it did. -/
def txBlobCapsUptoRow : OpenClaim := { program := "ytapjonmgjccpbaagreat", sum := "044ef360eba9515e67c4341a21dd9f1503bd1b33dea9cab69753d26318b9dfe2", func := "tarn/tarnlaw7.TxBlobCaps", spec := "txBlobCaps", inPlace := ["math/bits.Add64", "slices.overlaps[byte]"], unfollowed := true, recurses := true, apart := false, narrowed := true }
def TxBlobCapsUptoSaid : Prop := txBlobCapsUptoRow.holds Tryz.pinned (OpenSpec.upto txBlobCapsSpec)

/-- 'tarnlaw7.TxValues', WHERE WHAT IT READS IS OF BULK AT MOST 1048576: true; the input reads as it did. -/
def txValuesUptoRow : OpenClaim := { program := "ytapjonmgjccpbaagreat", sum := "044ef360eba9515e67c4341a21dd9f1503bd1b33dea9cab69753d26318b9dfe2", func := "tarn/tarnlaw7.TxValues", spec := "txValues", inPlace := ["math/bits.Add64", "slices.overlaps[byte]"], unfollowed := true, recurses := true, apart := false, narrowed := true }
def TxValuesUptoSaid : Prop := txValuesUptoRow.holds Tryz.pinned (OpenSpec.upto txValuesSpec)

end Rows
end Go.Proofs.YtapjonmgjccpbaaGreat

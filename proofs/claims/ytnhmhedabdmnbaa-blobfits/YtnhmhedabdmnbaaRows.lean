/-
  No cell of these rows narrows 'for every input' (looked for: loops, veiled, ifaces, maps, wideKeys, modest, calm, conditions, laid).
  DERIVED. THE GIVEN ROWS OF THIS SEAT. 3 by the template 'for every input the law returns true; each argument reads behind the call as it read before'; 0 by the template 'total and deterministic' (their statements: YtnhmhedabdmnbaaTotals.lean).
  GIVEN WITH THE SEED: the statements are not yours to turn. If you find one false, say at which input.
  Laid BY PROGRAM, IN A SANDBOX (cutbox-rows.mjs): the forced cells as the released guide's own fill.sh prints them over the translation 8ca62008f4632975… (all of the seat's roots in one cut). By AI agents, Wed Nov 11 2026. No macro, syntax, notation, axiom, sorry.
-/
import Derived.Test.YtnhmhedabdmnbaaChecked
import GoSem.Claim
import GoSem.ClaimJoined
import GoSem.ClaimMapViews
import Derived.JoinedTies
import Derived.KernelRfl
namespace Go.Proofs.Ytnhmhedabdmnbaa
/- THE CELL 'sum', in the pinned program and in every row, IS THE sha256 OF THE DUMP (.gsa) THAT YtnhmhedabdmnbaaProg.lean LOADS. Nothing in Lean hashes anything: it is a label: what it is worth is what the hold of that sum in a sandbox is worth. -/
noncomputable def Try.pinned : Pinned := { name := "ytnhmhedabdmnbaa", sum := "8ca62008f4632975b29d6c10e326ba5597b151ca9e245d9419e754becc1e574c", checked := Try.checked }
namespace Rows
def none {H : Type} : Left H := { results := [], args := [] }

/-- 'tarnlaw6.BlobTells': WHATEVER THE INPUT: true; the input reads as it did. -/
def blobTellsSpec : ChangeSpec := { name := "blobTells", fn := fun _ => fun
  | [d] => { results := [.lit (.bool true)], args := [d] }
  | _ => none }
def blobTellsRow : OpenClaim := { program := "ytnhmhedabdmnbaa", sum := "8ca62008f4632975b29d6c10e326ba5597b151ca9e245d9419e754becc1e574c", func := "tarn/tarnlaw6.BlobTells", spec := "blobTells", unfollowed := true, recurses := true, apart := false }
def BlobTellsSaid : Prop := blobTellsRow.holds Try.pinned (OpenSpec.ofChange blobTellsSpec)

/-- ITS FALSE NEIGHBOUR: 'it returns false'. Refute it at one input. -/
def blobTellsWrong : ChangeSpec := { name := "blobTells", fn := fun _ => fun
  | [d] => { results := [.lit (.bool false)], args := [d] }
  | _ => none }
def BlobTellsWrongFalsely : Prop := blobTellsRow.holds Try.pinned (OpenSpec.ofChange blobTellsWrong)

/-- 'tarnlaw6.BlobFits': WHATEVER THE INPUT: true; the input reads as it did. -/
def blobFitsSpec : ChangeSpec := { name := "blobFits", fn := fun _ => fun
  | [d] => { results := [.lit (.bool true)], args := [d] }
  | _ => none }
def blobFitsRow : OpenClaim := { program := "ytnhmhedabdmnbaa", sum := "8ca62008f4632975b29d6c10e326ba5597b151ca9e245d9419e754becc1e574c", func := "tarn/tarnlaw6.BlobFits", spec := "blobFits", unfollowed := true, recurses := true, apart := false }
def BlobFitsSaid : Prop := blobFitsRow.holds Try.pinned (OpenSpec.ofChange blobFitsSpec)

/-- ITS FALSE NEIGHBOUR: 'it returns false'. Refute it at one input. -/
def blobFitsWrong : ChangeSpec := { name := "blobFits", fn := fun _ => fun
  | [d] => { results := [.lit (.bool false)], args := [d] }
  | _ => none }
def BlobFitsWrongFalsely : Prop := blobFitsRow.holds Try.pinned (OpenSpec.ofChange blobFitsWrong)

/-- 'tarnlaw6.BlobHashes': WHATEVER THE INPUT: true; the input reads as it did. -/
def blobHashesSpec : ChangeSpec := { name := "blobHashes", fn := fun _ => fun
  | [d] => { results := [.lit (.bool true)], args := [d] }
  | _ => none }
def blobHashesRow : OpenClaim := { program := "ytnhmhedabdmnbaa", sum := "8ca62008f4632975b29d6c10e326ba5597b151ca9e245d9419e754becc1e574c", func := "tarn/tarnlaw6.BlobHashes", spec := "blobHashes", unfollowed := true, recurses := true, apart := false }
def BlobHashesSaid : Prop := blobHashesRow.holds Try.pinned (OpenSpec.ofChange blobHashesSpec)

/-- ITS FALSE NEIGHBOUR: 'it returns false'. Refute it at one input. -/
def blobHashesWrong : ChangeSpec := { name := "blobHashes", fn := fun _ => fun
  | [d] => { results := [.lit (.bool false)], args := [d] }
  | _ => none }
def BlobHashesWrongFalsely : Prop := blobHashesRow.holds Try.pinned (OpenSpec.ofChange blobHashesWrong)

/- THE SECOND FORM. 'bulk': how many values and letters a reading holds, each counted each time it is reached (what is shared counts as often as it is met; a slice's spare places count too). A statement '..UptoSaid' is the law's where the arguments, and the package variables that the reading takes, are together of bulk at most 1048576: NARROWER than '..Said'. Prove '..Said' where nothing that the law and all that it calls make is longer than what came in: it says more and counts as full. Else prove '..UptoSaid'. A law counts once. -/
mutual
def uptoBulk {H : Type} : DataW H → Nat
  | .lit (.string bytes) => bytes.length + 1
  | .lit _ => 1
  | .nil => 1
  | .ptr d => uptoBulk d + 1
  | .slice elems spare => uptoBulkAll elems + uptoBulkAll spare + 1
  | .agg parts => uptoBulkAll parts + 1
  | .iface _ d => uptoBulk d + 1
  | .map entries => uptoBulkEntries entries + 1
  | .held _ => 1
def uptoBulkAll {H : Type} : List (DataW H) → Nat
  | [] => 0
  | d :: r => uptoBulk d + uptoBulkAll r
def uptoBulkEntries {H : Type} : List (Lit × DataW H) → Nat
  | [] => 0
  | x :: r => uptoBulkEntry x + uptoBulkEntries r
def uptoBulkEntry {H : Type} : Lit × DataW H → Nat
  | (.string bytes, d) => bytes.length + uptoBulk d + 1
  | (_, d) => uptoBulk d + 1
 end
def uptoSmall : (H : Type) → List (DataW H) → Bool := fun _ ds => decide (uptoBulkAll ds ≤ 1048576)
def OpenSpec.upto (s : _root_.Go.ChangeSpec) : _root_.Go.OpenSpec := { _root_.Go.OpenSpec.ofChange s with cond := some uptoSmall }

/-- 'tarnlaw6.BlobTells', WHERE WHAT IT READS IS OF BULK AT MOST 1048576: true; the input reads as it did. -/
def blobTellsUptoRow : OpenClaim := { program := "ytnhmhedabdmnbaa", sum := "8ca62008f4632975b29d6c10e326ba5597b151ca9e245d9419e754becc1e574c", func := "tarn/tarnlaw6.BlobTells", spec := "blobTells", unfollowed := true, recurses := true, apart := false, narrowed := true }
def BlobTellsUptoSaid : Prop := blobTellsUptoRow.holds Try.pinned (OpenSpec.upto blobTellsSpec)

/-- 'tarnlaw6.BlobFits', WHERE WHAT IT READS IS OF BULK AT MOST 1048576: true; the input reads as it did. -/
def blobFitsUptoRow : OpenClaim := { program := "ytnhmhedabdmnbaa", sum := "8ca62008f4632975b29d6c10e326ba5597b151ca9e245d9419e754becc1e574c", func := "tarn/tarnlaw6.BlobFits", spec := "blobFits", unfollowed := true, recurses := true, apart := false, narrowed := true }
def BlobFitsUptoSaid : Prop := blobFitsUptoRow.holds Try.pinned (OpenSpec.upto blobFitsSpec)

/-- 'tarnlaw6.BlobHashes', WHERE WHAT IT READS IS OF BULK AT MOST 1048576: true; the input reads as it did. -/
def blobHashesUptoRow : OpenClaim := { program := "ytnhmhedabdmnbaa", sum := "8ca62008f4632975b29d6c10e326ba5597b151ca9e245d9419e754becc1e574c", func := "tarn/tarnlaw6.BlobHashes", spec := "blobHashes", unfollowed := true, recurses := true, apart := false, narrowed := true }
def BlobHashesUptoSaid : Prop := blobHashesUptoRow.holds Try.pinned (OpenSpec.upto blobHashesSpec)

end Rows
end Go.Proofs.Ytnhmhedabdmnbaa

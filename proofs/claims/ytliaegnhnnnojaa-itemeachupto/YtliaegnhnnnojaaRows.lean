/-
  NARROWER THAN 'FOR EVERY INPUT', by the rows' own cells (each row's printed sentence says how): ItemTakes: loops · ItemBack: loops · ItemEach: loops · ItemEdges: loops · ItemTexts: loops · ItemLists: loops.
  DERIVED. THE GIVEN ROWS OF THIS SEAT. 8 by the template 'for every input the law returns true; each argument reads behind the call as it read before'; 0 by the template 'total and deterministic' (their statements: YtliaegnhnnnojaaTotals.lean).
  GIVEN WITH THE SEED: the statements are not yours to turn. If you find one false, say at which input.
  Laid BY PROGRAM, IN A SANDBOX (cutbox-rows.mjs): the forced cells as the released guide's own fill.sh prints them over the translation c72bbfb9524bce9a… (all of the seat's roots in one cut). By AI agents, Wed Nov 11 2026. No macro, syntax, notation, axiom, sorry.
-/
import Derived.Test.YtliaegnhnnnojaaChecked
import GoSem.Claim
import GoSem.ClaimJoined
import GoSem.ClaimMapViews
import Derived.JoinedTies
import Derived.KernelRfl
namespace Go.Proofs.Ytliaegnhnnnojaa
/- THE CELL 'sum', in the pinned program and in every row, IS THE sha256 OF THE DUMP (.gsa) THAT YtliaegnhnnnojaaProg.lean LOADS. Nothing in Lean hashes anything: it is a label: what it is worth is what the hold of that sum in a sandbox is worth. -/
noncomputable def Try.pinned : Pinned := { name := "ytliaegnhnnnojaa", sum := "c72bbfb9524bce9a885ffbb192cff093a7bb466d4cee688c82b807da89fffea7", checked := Try.checked }
namespace Rows
def none {H : Type} : Left H := { results := [], args := [] }

/-- 'tarnlaw4.ItemTakes': WHATEVER THE INPUT: true; the input reads as it did. -/
def itemTakesSpec : ChangeSpec := { name := "itemTakes", fn := fun _ => fun
  | [d] => { results := [.lit (.bool true)], args := [d] }
  | _ => none }
def itemTakesRow : OpenClaim := { program := "ytliaegnhnnnojaa", sum := "c72bbfb9524bce9a885ffbb192cff093a7bb466d4cee688c82b807da89fffea7", func := "tarn/tarnlaw4.ItemTakes", spec := "itemTakes", inPlace := ["slices.overlaps[byte]"], unfollowed := true, recurses := true, loops := true, apart := false }
def ItemTakesSaid : Prop := itemTakesRow.holds Try.pinned (OpenSpec.ofChange itemTakesSpec)

/-- ITS FALSE NEIGHBOUR: 'it returns false'. Refute it at one input. -/
def itemTakesWrong : ChangeSpec := { name := "itemTakes", fn := fun _ => fun
  | [d] => { results := [.lit (.bool false)], args := [d] }
  | _ => none }
def ItemTakesWrongFalsely : Prop := itemTakesRow.holds Try.pinned (OpenSpec.ofChange itemTakesWrong)

/-- 'tarnlaw4.ItemBack': WHATEVER THE INPUT: true; the input reads as it did. -/
def itemBackSpec : ChangeSpec := { name := "itemBack", fn := fun _ => fun
  | [d] => { results := [.lit (.bool true)], args := [d] }
  | _ => none }
def itemBackRow : OpenClaim := { program := "ytliaegnhnnnojaa", sum := "c72bbfb9524bce9a885ffbb192cff093a7bb466d4cee688c82b807da89fffea7", func := "tarn/tarnlaw4.ItemBack", spec := "itemBack", inPlace := ["slices.overlaps[byte]"], unfollowed := true, recurses := true, loops := true, apart := false }
def ItemBackSaid : Prop := itemBackRow.holds Try.pinned (OpenSpec.ofChange itemBackSpec)

/-- ITS FALSE NEIGHBOUR: 'it returns false'. Refute it at one input. -/
def itemBackWrong : ChangeSpec := { name := "itemBack", fn := fun _ => fun
  | [d] => { results := [.lit (.bool false)], args := [d] }
  | _ => none }
def ItemBackWrongFalsely : Prop := itemBackRow.holds Try.pinned (OpenSpec.ofChange itemBackWrong)

/-- 'tarnlaw4.ItemEach': WHATEVER THE INPUT: true; the input reads as it did. -/
def itemEachSpec : ChangeSpec := { name := "itemEach", fn := fun _ => fun
  | [d] => { results := [.lit (.bool true)], args := [d] }
  | _ => none }
def itemEachRow : OpenClaim := { program := "ytliaegnhnnnojaa", sum := "c72bbfb9524bce9a885ffbb192cff093a7bb466d4cee688c82b807da89fffea7", func := "tarn/tarnlaw4.ItemEach", spec := "itemEach", inPlace := ["slices.overlaps[byte]"], unfollowed := true, recurses := true, loops := true, apart := false }
def ItemEachSaid : Prop := itemEachRow.holds Try.pinned (OpenSpec.ofChange itemEachSpec)

/-- ITS FALSE NEIGHBOUR: 'it returns false'. Refute it at one input. -/
def itemEachWrong : ChangeSpec := { name := "itemEach", fn := fun _ => fun
  | [d] => { results := [.lit (.bool false)], args := [d] }
  | _ => none }
def ItemEachWrongFalsely : Prop := itemEachRow.holds Try.pinned (OpenSpec.ofChange itemEachWrong)

/-- 'tarnlaw4.ItemEdges': WHATEVER THE INPUT: true; the input reads as it did. -/
def itemEdgesSpec : ChangeSpec := { name := "itemEdges", fn := fun _ => fun
  | [d] => { results := [.lit (.bool true)], args := [d] }
  | _ => none }
def itemEdgesRow : OpenClaim := { program := "ytliaegnhnnnojaa", sum := "c72bbfb9524bce9a885ffbb192cff093a7bb466d4cee688c82b807da89fffea7", func := "tarn/tarnlaw4.ItemEdges", spec := "itemEdges", inPlace := ["slices.overlaps[byte]"], unfollowed := true, recurses := true, loops := true, apart := false }
def ItemEdgesSaid : Prop := itemEdgesRow.holds Try.pinned (OpenSpec.ofChange itemEdgesSpec)

/-- ITS FALSE NEIGHBOUR: 'it returns false'. Refute it at one input. -/
def itemEdgesWrong : ChangeSpec := { name := "itemEdges", fn := fun _ => fun
  | [d] => { results := [.lit (.bool false)], args := [d] }
  | _ => none }
def ItemEdgesWrongFalsely : Prop := itemEdgesRow.holds Try.pinned (OpenSpec.ofChange itemEdgesWrong)

/-- 'tarnlaw4.ItemTexts': WHATEVER THE INPUT: true; the input reads as it did. -/
def itemTextsSpec : ChangeSpec := { name := "itemTexts", fn := fun _ => fun
  | [d] => { results := [.lit (.bool true)], args := [d] }
  | _ => none }
def itemTextsRow : OpenClaim := { program := "ytliaegnhnnnojaa", sum := "c72bbfb9524bce9a885ffbb192cff093a7bb466d4cee688c82b807da89fffea7", func := "tarn/tarnlaw4.ItemTexts", spec := "itemTexts", inPlace := ["slices.overlaps[byte]"], unfollowed := true, recurses := true, loops := true, apart := false }
def ItemTextsSaid : Prop := itemTextsRow.holds Try.pinned (OpenSpec.ofChange itemTextsSpec)

/-- ITS FALSE NEIGHBOUR: 'it returns false'. Refute it at one input. -/
def itemTextsWrong : ChangeSpec := { name := "itemTexts", fn := fun _ => fun
  | [d] => { results := [.lit (.bool false)], args := [d] }
  | _ => none }
def ItemTextsWrongFalsely : Prop := itemTextsRow.holds Try.pinned (OpenSpec.ofChange itemTextsWrong)

/-- 'tarnlaw4.ItemLists': WHATEVER THE INPUT: true; the input reads as it did. -/
def itemListsSpec : ChangeSpec := { name := "itemLists", fn := fun _ => fun
  | [d] => { results := [.lit (.bool true)], args := [d] }
  | _ => none }
def itemListsRow : OpenClaim := { program := "ytliaegnhnnnojaa", sum := "c72bbfb9524bce9a885ffbb192cff093a7bb466d4cee688c82b807da89fffea7", func := "tarn/tarnlaw4.ItemLists", spec := "itemLists", inPlace := ["slices.overlaps[byte]"], unfollowed := true, recurses := true, loops := true, apart := false }
def ItemListsSaid : Prop := itemListsRow.holds Try.pinned (OpenSpec.ofChange itemListsSpec)

/-- ITS FALSE NEIGHBOUR: 'it returns false'. Refute it at one input. -/
def itemListsWrong : ChangeSpec := { name := "itemLists", fn := fun _ => fun
  | [d] => { results := [.lit (.bool false)], args := [d] }
  | _ => none }
def ItemListsWrongFalsely : Prop := itemListsRow.holds Try.pinned (OpenSpec.ofChange itemListsWrong)

/-- 'tarnlaw5.MarkTells': WHATEVER THE INPUT: true; the input reads as it did. -/
def markTellsSpec : ChangeSpec := { name := "markTells", fn := fun _ => fun
  | [d] => { results := [.lit (.bool true)], args := [d] }
  | _ => none }
def markTellsRow : OpenClaim := { program := "ytliaegnhnnnojaa", sum := "c72bbfb9524bce9a885ffbb192cff093a7bb466d4cee688c82b807da89fffea7", func := "tarn/tarnlaw5.MarkTells", spec := "markTells", unfollowed := true, recurses := true, apart := false }
def MarkTellsSaid : Prop := markTellsRow.holds Try.pinned (OpenSpec.ofChange markTellsSpec)

/-- ITS FALSE NEIGHBOUR: 'it returns false'. Refute it at one input. -/
def markTellsWrong : ChangeSpec := { name := "markTells", fn := fun _ => fun
  | [d] => { results := [.lit (.bool false)], args := [d] }
  | _ => none }
def MarkTellsWrongFalsely : Prop := markTellsRow.holds Try.pinned (OpenSpec.ofChange markTellsWrong)

/-- 'tarnlaw5.MarkOnes': WHATEVER THE INPUT: true; the input reads as it did. -/
def markOnesSpec : ChangeSpec := { name := "markOnes", fn := fun _ => fun
  | [d] => { results := [.lit (.bool true)], args := [d] }
  | _ => none }
def markOnesRow : OpenClaim := { program := "ytliaegnhnnnojaa", sum := "c72bbfb9524bce9a885ffbb192cff093a7bb466d4cee688c82b807da89fffea7", func := "tarn/tarnlaw5.MarkOnes", spec := "markOnes", unfollowed := true, recurses := true, apart := false }
def MarkOnesSaid : Prop := markOnesRow.holds Try.pinned (OpenSpec.ofChange markOnesSpec)

/-- ITS FALSE NEIGHBOUR: 'it returns false'. Refute it at one input. -/
def markOnesWrong : ChangeSpec := { name := "markOnes", fn := fun _ => fun
  | [d] => { results := [.lit (.bool false)], args := [d] }
  | _ => none }
def MarkOnesWrongFalsely : Prop := markOnesRow.holds Try.pinned (OpenSpec.ofChange markOnesWrong)

/- THE SECOND FORM. 'bulk': how many values and letters a reading holds, each counted each time it is reached (what is shared counts as often as it is met; a slice's spare places count too). A statement '..UptoSaid' is the law's where the arguments, and the package variables that the reading takes, are together of bulk at most 1048576: NARROWER than '..Said'. Prove '..Said' where nothing that the law and all that it calls make is longer than what came in: it says more and counts as full. Else prove '..UptoSaid'. A law counts once. -/
mutual
def uptoBulk {H : Type} : DataW H → Nat
  | .lit (.string bytes) => bytes.length + 1
  | .lit _ => 1
  | .nil => 1
  | .ptr d => uptoBulk d + 1
  | .slice elems spare => uptoBulkAll elems + uptoBulkAll spare + 1
  | .agg parts => uptoBulkAll parts + 1
  | .iface _ d => uptoBulk d + 1
  | .map entries => uptoBulkEntries entries + 1
  | .held _ => 1
def uptoBulkAll {H : Type} : List (DataW H) → Nat
  | [] => 0
  | d :: r => uptoBulk d + uptoBulkAll r
def uptoBulkEntries {H : Type} : List (Lit × DataW H) → Nat
  | [] => 0
  | x :: r => uptoBulkEntry x + uptoBulkEntries r
def uptoBulkEntry {H : Type} : Lit × DataW H → Nat
  | (.string bytes, d) => bytes.length + uptoBulk d + 1
  | (_, d) => uptoBulk d + 1
 end
def uptoSmall : (H : Type) → List (DataW H) → Bool := fun _ ds => decide (uptoBulkAll ds ≤ 1048576)
def OpenSpec.upto (s : _root_.Go.ChangeSpec) : _root_.Go.OpenSpec := { _root_.Go.OpenSpec.ofChange s with cond := some uptoSmall }

/-- 'tarnlaw4.ItemTakes', WHERE WHAT IT READS IS OF BULK AT MOST 1048576: true; the input reads as it did. -/
def itemTakesUptoRow : OpenClaim := { program := "ytliaegnhnnnojaa", sum := "c72bbfb9524bce9a885ffbb192cff093a7bb466d4cee688c82b807da89fffea7", func := "tarn/tarnlaw4.ItemTakes", spec := "itemTakes", inPlace := ["slices.overlaps[byte]"], unfollowed := true, recurses := true, loops := true, apart := false, narrowed := true }
def ItemTakesUptoSaid : Prop := itemTakesUptoRow.holds Try.pinned (OpenSpec.upto itemTakesSpec)

/-- 'tarnlaw4.ItemBack', WHERE WHAT IT READS IS OF BULK AT MOST 1048576: true; the input reads as it did. -/
def itemBackUptoRow : OpenClaim := { program := "ytliaegnhnnnojaa", sum := "c72bbfb9524bce9a885ffbb192cff093a7bb466d4cee688c82b807da89fffea7", func := "tarn/tarnlaw4.ItemBack", spec := "itemBack", inPlace := ["slices.overlaps[byte]"], unfollowed := true, recurses := true, loops := true, apart := false, narrowed := true }
def ItemBackUptoSaid : Prop := itemBackUptoRow.holds Try.pinned (OpenSpec.upto itemBackSpec)

/-- 'tarnlaw4.ItemEach', WHERE WHAT IT READS IS OF BULK AT MOST 1048576: true; the input reads as it did. -/
def itemEachUptoRow : OpenClaim := { program := "ytliaegnhnnnojaa", sum := "c72bbfb9524bce9a885ffbb192cff093a7bb466d4cee688c82b807da89fffea7", func := "tarn/tarnlaw4.ItemEach", spec := "itemEach", inPlace := ["slices.overlaps[byte]"], unfollowed := true, recurses := true, loops := true, apart := false, narrowed := true }
def ItemEachUptoSaid : Prop := itemEachUptoRow.holds Try.pinned (OpenSpec.upto itemEachSpec)

/-- 'tarnlaw4.ItemEdges', WHERE WHAT IT READS IS OF BULK AT MOST 1048576: true; the input reads as it did. -/
def itemEdgesUptoRow : OpenClaim := { program := "ytliaegnhnnnojaa", sum := "c72bbfb9524bce9a885ffbb192cff093a7bb466d4cee688c82b807da89fffea7", func := "tarn/tarnlaw4.ItemEdges", spec := "itemEdges", inPlace := ["slices.overlaps[byte]"], unfollowed := true, recurses := true, loops := true, apart := false, narrowed := true }
def ItemEdgesUptoSaid : Prop := itemEdgesUptoRow.holds Try.pinned (OpenSpec.upto itemEdgesSpec)

/-- 'tarnlaw4.ItemTexts', WHERE WHAT IT READS IS OF BULK AT MOST 1048576: true; the input reads as it did. -/
def itemTextsUptoRow : OpenClaim := { program := "ytliaegnhnnnojaa", sum := "c72bbfb9524bce9a885ffbb192cff093a7bb466d4cee688c82b807da89fffea7", func := "tarn/tarnlaw4.ItemTexts", spec := "itemTexts", inPlace := ["slices.overlaps[byte]"], unfollowed := true, recurses := true, loops := true, apart := false, narrowed := true }
def ItemTextsUptoSaid : Prop := itemTextsUptoRow.holds Try.pinned (OpenSpec.upto itemTextsSpec)

/-- 'tarnlaw4.ItemLists', WHERE WHAT IT READS IS OF BULK AT MOST 1048576: true; the input reads as it did. -/
def itemListsUptoRow : OpenClaim := { program := "ytliaegnhnnnojaa", sum := "c72bbfb9524bce9a885ffbb192cff093a7bb466d4cee688c82b807da89fffea7", func := "tarn/tarnlaw4.ItemLists", spec := "itemLists", inPlace := ["slices.overlaps[byte]"], unfollowed := true, recurses := true, loops := true, apart := false, narrowed := true }
def ItemListsUptoSaid : Prop := itemListsUptoRow.holds Try.pinned (OpenSpec.upto itemListsSpec)

/-- 'tarnlaw5.MarkTells', WHERE WHAT IT READS IS OF BULK AT MOST 1048576: true; the input reads as it did. -/
def markTellsUptoRow : OpenClaim := { program := "ytliaegnhnnnojaa", sum := "c72bbfb9524bce9a885ffbb192cff093a7bb466d4cee688c82b807da89fffea7", func := "tarn/tarnlaw5.MarkTells", spec := "markTells", unfollowed := true, recurses := true, apart := false, narrowed := true }
def MarkTellsUptoSaid : Prop := markTellsUptoRow.holds Try.pinned (OpenSpec.upto markTellsSpec)

/-- 'tarnlaw5.MarkOnes', WHERE WHAT IT READS IS OF BULK AT MOST 1048576: true; the input reads as it did. -/
def markOnesUptoRow : OpenClaim := { program := "ytliaegnhnnnojaa", sum := "c72bbfb9524bce9a885ffbb192cff093a7bb466d4cee688c82b807da89fffea7", func := "tarn/tarnlaw5.MarkOnes", spec := "markOnes", unfollowed := true, recurses := true, apart := false, narrowed := true }
def MarkOnesUptoSaid : Prop := markOnesUptoRow.holds Try.pinned (OpenSpec.upto markOnesSpec)

end Rows
end Go.Proofs.Ytliaegnhnnnojaa

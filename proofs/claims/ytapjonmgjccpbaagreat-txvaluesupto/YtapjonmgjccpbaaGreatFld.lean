import Derived.Test.YtapjonmgjccpbaaGreatJ1
import Derived.Test.YtapjonmgjccpbaaGreatO7
import Derived.Test.YtapjonmgjccpbaaGreatJ25
import Derived.Deep.DeepCutAuto
set_option linter.unusedSimpArgs false
set_option linter.unusedVariables false
set_option maxRecDepth 100000
namespace Go.Proofs.YtapjonmgjccpbaaGreat
open Go.RowKit

/-! A number stored into the midst of a transaction; a field with another number. -/
theorem wpList_store_fld {ops : Array Oper} {rest : List Oper} {op : Oper} {a : Act} {w : World} {Q : Exit → Act → World → Prop} (hgd : op.guard = none) (x y : Operand) (ho : op.op = .store 26 x y)
    {R o : Nat} (hx : a.eval x = .pointer (some ⟨R, o, none⟩)) {x0 x1 x2 x3 : Int} (hy : a.eval y = .agg (A4 x0 x1 x2 x3)) {old new : Array Value} (h : Bk w R old 30) (hs : o + 4 ≤ old.size)
    (hn : (((old.setIfInBounds o (.int .u64 x0)).setIfInBounds (o + 1) (.int .u64 x1)).setIfInBounds (o + 1 + 1) (.int .u64 x2)).setIfInBounds (o + 1 + 1 + 1) (.int .u64 x3) = new)
    (hk : ∀ W, Stored w W R new 30 → wpList Tryz.prog ops Q rest (a.put op.dst undef) W) : wpList Tryz.prog ops Q (op :: rest) a w := by
  refine wpList_store_mid hgd 26 x y ho R o (A4 x0 x1 x2 x3) hx hy (fun j hj => ?_) infoU7 (by simp [Value.oneCell']) (hk _ ⟨?_, fun c hc => setCells_block hc _ _ _, fun B w0 hB hb => setCells_below hB _ _ _ hb, setCells_size _ _ _⟩)
  · have hj : j < 4 := hj
    have := h.there (o + j) (by omega)
    rwa [Nat.zero_add] at this
  · rw [← hn]
    exact (((h.set o _ rfl).set (o + 1) _ rfl).set (o + 1 + 1) _ rfl).set (o + 1 + 1 + 1) _ rfl
/-- Ten whole numbers in a row. -/
structure Ten (w : World) (E : Nat) (f : Nat → Int) : Prop where
  at_ : ∀ m, m < 10 → w.cell? ⟨E, m, none⟩ = some (.int .i64 (f m))
  bd : ∀ m, m < 10 → -9223372036854775808 ≤ f m ∧ f m ≤ 9223372036854775807
theorem Ten.below {w W : World} {E : Nat} {f : Nat → Int} (h : Ten w E f) (hb : Below w.heap.size w W) : Ten W E f :=
  ⟨fun m hm => (hb.cell (cell_lt' (h.at_ m hm))).trans (h.at_ m hm), h.bd⟩
end Go.Proofs.YtapjonmgjccpbaaGreat

import Derived.Test.YtljfenjpnanoiaaSls
set_option linter.unusedSimpArgs false
set_option linter.unusedVariables false
namespace Go.Proofs.Ytljfenjpnanoiaa
open Go.RowKit

/-! What a cut says behind a statement that makes one number out of a call's answer. -/
theorem meetA {wr w2 : World} {c0 c1 c2 c3 x : Value} (hsz2 : wr.heap.size ≤ w2.heap.size) (hb2 : Below wr.heap.size wr.drew w2) :
    ∃ B, Value.pointer (some ⟨w2.heap.size, 0, none⟩) = .pointer (some ⟨B, 0, none⟩) ∧ wr.heap.size ≤ B ∧ Bk (w2.alloc (.cells #[c0, c1, c2, c3] 25)) B #[c0, c1, c2, c3] 25 ∧ x = x ∧ Below wr.heap.size wr (w2.alloc (.cells #[c0, c1, c2, c3] 25)) :=
  ⟨w2.heap.size, rfl, hsz2, Bk.new _ _ _, rfl, Below.alloc ((Below.refl _ wr).drew.trans hb2) hsz2 _⟩
theorem meetB {wr w2 : World} {o : Obj} {z0 z1 z2 z3 c0 c1 c2 c3 x : Value} (hz : Bk w2 wr.heap.size #[z0, z1, z2, z3] 25) (hb2 : Below (wr.heap.size + 1) (wr.alloc o).drew w2) :
    ∃ B, Value.pointer (some ⟨wr.heap.size, 0, none⟩) = .pointer (some ⟨B, 0, none⟩) ∧ wr.heap.size ≤ B ∧ Bk ((((w2.setCell ⟨wr.heap.size, 0, none⟩ c0).setCell ⟨wr.heap.size, 1, none⟩ c1).setCell ⟨wr.heap.size, 2, none⟩ c2).setCell ⟨wr.heap.size, 3, none⟩ c3) B #[c0, c1, c2, c3] 25 ∧ x = x ∧ Below wr.heap.size wr ((((w2.setCell ⟨wr.heap.size, 0, none⟩ c0).setCell ⟨wr.heap.size, 1, none⟩ c1).setCell ⟨wr.heap.size, 2, none⟩ c2).setCell ⟨wr.heap.size, 3, none⟩ c3) := by
  refine ⟨wr.heap.size, rfl, Nat.le_refl _, ?_, rfl, ?_⟩
  · exact ((((hz.set 0 c0 rfl).set 1 c1 rfl).set 2 c2 rfl).set 3 c3 rfl)
  · exact Below.setCell (Below.setCell (Below.setCell (Below.setCell ((((Below.refl _ wr).alloc (Nat.le_refl _) o).drew).trans (hb2.mono (Nat.le_succ _))) (Nat.le_refl _) _) (Nat.le_refl _) _) (Nat.le_refl _) _) (Nat.le_refl _) _
end Go.Proofs.Ytljfenjpnanoiaa

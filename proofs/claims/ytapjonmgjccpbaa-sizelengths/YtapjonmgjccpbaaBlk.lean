import Derived.Test.YtapjonmgjccpbaaBase
namespace Go.Proofs.Ytapjonmgjccpbaa
open Go.RowKit

/-! Blocks of four cells, written cell by cell. -/
theorem set4_Bk {W : World} {b : Nat} {t : TypeId} {x0 x1 x2 x3 : Value} (h : Bk W b #[x0, x1, x2, x3] t) (u0 u1 u2 u3 : Value) : Bk ((((W.setCell ⟨b, 0, none⟩ u0).setCell ⟨b, 1, none⟩ u1).setCell ⟨b, 2, none⟩ u2).setCell ⟨b, 3, none⟩ u3) b #[u0, u1, u2, u3] t :=
  ((((h.set 0 u0 rfl).set 1 u1 rfl).set 2 u2 rfl).set 3 u3 rfl)
theorem set4_other {W : World} {b c : Nat} {t : TypeId} {vs : Array Value} (h : Bk W b vs t) (hbc : b ≠ c) (u0 u1 u2 u3 : Value) : Bk ((((W.setCell ⟨c, 0, none⟩ u0).setCell ⟨c, 1, none⟩ u1).setCell ⟨c, 2, none⟩ u2).setCell ⟨c, 3, none⟩ u3) b vs t :=
  (((h.other hbc _).other hbc _).other hbc _).other hbc _
theorem set4_below {B : Nat} {W0 W : World} {b : Nat} (h : Below B W0 W) (hb : B ≤ b) (u0 u1 u2 u3 : Value) : Below B W0 ((((W.setCell ⟨b, 0, none⟩ u0).setCell ⟨b, 1, none⟩ u1).setCell ⟨b, 2, none⟩ u2).setCell ⟨b, 3, none⟩ u3) :=
  (((h.setCell (p := ⟨b, 0, none⟩) hb _).setCell (p := ⟨b, 1, none⟩) hb _).setCell (p := ⟨b, 2, none⟩) hb _).setCell (p := ⟨b, 3, none⟩) hb _
theorem set4_size {W : World} {b : Nat} (u0 u1 u2 u3 : Value) : ((((W.setCell ⟨b, 0, none⟩ u0).setCell ⟨b, 1, none⟩ u1).setCell ⟨b, 2, none⟩ u2).setCell ⟨b, 3, none⟩ u3).heap.size = W.heap.size := by simp
end Go.Proofs.Ytapjonmgjccpbaa

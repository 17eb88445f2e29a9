import Derived.Test.YtljhhdpeakencaaJ10
set_option linter.unusedSimpArgs false
set_option linter.unusedVariables false
set_option maxRecDepth 100000
namespace Go.Proofs.Ytljhhdpeakencaa
open Go.ChangeShapes Go.WideShapes Go.ChangeAt Go.RowKit Go.Deep

/-! Scripts of which the length alone is asked. -/
theorem acts_sl {H : Type} {enc : TypeId × Value → H} {W : World} {spare : Nat → Bool} {held : Bool} {n : Nat} {v : Value} {y : DataW H × List MemPlace} (h : DataW.trod enc Try.prog W 0 spare held n 23 [v] = some y) : ∃ la lm lc, v = .slice la lm lc ∧ lm ≤ 9223372036854775807 := by
  rcases DataW.trod_slice Try.underlying23 h with ⟨hc, hy⟩ | ⟨a, len, cap, elems, rest, k, rfl, hc, rfl, hb, hl, hm, hlen, hel, -, -⟩
  · simp at hc
    subst hc
    exact ⟨none, 0, 0, rfl, by omega⟩
  · simp at hc
    subst hc
    exact ⟨some a, len, cap, rfl, by unfold maxLen at hm; omega⟩
end Go.Proofs.Ytljhhdpeakencaa

import Derived.Test.YtliaegnhnnnojaaRows
import Derived.Test.YtliaegnhnnnojaaSsl
import Derived.ProofKit
import Derived.OpenShut
import Derived.ShutString
import Derived.ChangeOld
import Derived.Deep.Slices
import Derived.SliceStrings
set_option linter.unusedSimpArgs false
set_option linter.unusedVariables false
namespace Go.Proofs.Ytliaegnhnnnojaa
open Go.ChangeShapes Go.WideShapes Go.ChangeAt Go.RowKit Go.Deep

theorem own : ownKnob Try.prog.godebug = none := by kernel_rfl
theorem laidOut : laidOutB Try.prog = true := by kernel_rfl
theorem cells9 : Try.prog.cellsOf 9 = 1 := by kernel_rfl
/-- What the walk wants of a slice of strings that came in. -/
theorem ss_of_trod {H : Type} {enc : TypeId × Value → H} {W : World} {spare : Nat → Bool} {held : Bool} {fuel : Nat} {v : Value} {x : DataW H × List MemPlace}
    (h : DataW.trod enc Try.prog W 0 spare held fuel 46 [v] = some x) : ∃ f len, Ss W v f len := by
  rcases open_strings Try.underlying46 Try.underlying9 cells9 h with ⟨hc, _⟩ | ⟨a, len, cap, ss, hc, _, hl, hm, hz, _, hcell, hws⟩
  · simp at hc
    exact ⟨fun _ => ByteArray.empty, 0, by simp [maxLen], fun i hi => absurd hi (by omega), none, 0, hc, fun i hi => absurd hi (by omega)⟩
  · simp at hc
    subst hc
    have hle : len ≤ ss.length := by rw [hz]; split <;> omega
    refine ⟨fun i => ss.getD i ByteArray.empty, len, by omega, fun i hi => ?_, some a, cap, rfl, fun i hi => ?_⟩
    · apply hws
      show ss.getD i ByteArray.empty ∈ ss
      rw [List.getD_eq_getElem?_getD, List.getElem?_eq_getElem (by omega)]
      exact List.getElem_mem _
    · obtain ⟨b, off, spot⟩ := a
      have h1 := hcell i (by omega)
      have h0 := hcell 0 (by omega)
      have hspot : spot = none := by
        have h9 : W.cell? ⟨b, off, spot⟩ = some (.string (ss.getD 0 ByteArray.empty)) := by simpa [Addr.add] using h0
        exact World.cell?_spot h9
      subst hspot
      refine ⟨b, off, rfl, ?_⟩
      have hadd : (⟨b, off, none⟩ : Addr).add i = ⟨b, off + i, none⟩ := by unfold Addr.add; split <;> simp_all
      rw [hadd] at h1
      exact h1
end Go.Proofs.Ytliaegnhnnnojaa

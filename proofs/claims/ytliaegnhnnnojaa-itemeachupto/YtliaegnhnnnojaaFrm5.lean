import Derived.Test.YtliaegnhnnnojaaFrm4
set_option linter.unusedSimpArgs false
set_option linter.unusedVariables false
set_option maxRecDepth 100000
namespace Go.Proofs.Ytliaegnhnnnojaa
open Go.ChangeShapes Go.WideShapes Go.ChangeAt Go.RowKit Go.Deep

/-! The slices of items that come in with questions are no longer than their room. -/
def Cap4 (w : World) (v : Value) : Prop := ∀ b off len cap, v = .slice (some ⟨b, off, none⟩) len cap → ∀ i, i < len → ∀ p l c, w.cell? ⟨b, off + i * 4 + 2, none⟩ = some (.slice p l c) → l ≤ c
section
variable {H : Type} {enc : TypeId × Value → H} {W : World} {spare : Nat → Bool} {held : Bool}
theorem caps_of_trod {n : Nat} {v : Value} {y : DataW H × List MemPlace} (h : DataW.trod enc Try.prog W 0 spare held n 22 [v] = some y) : Cap4 W v := by
  intro b off len' cap' hv i hi p l c hc3
  rcases DataW.trod_slice Try.underlying22 h with ⟨hc, hy⟩ | ⟨a, len, cap, elems, rest, k, rfl, hc, rfl, hb, hl, hm, hlen, hel, -, -⟩
  · simp at hc
    rw [hc] at hv
    cases hv
  · simp at hc
    rw [hc] at hv
    injection hv with e1 e2 e3
    injection e1 with e1
    subst e1 e2 e3
    rw [cellsAsk] at hel
    have h1 := hel i hi
    rw [List.getElem?_eq_getElem (by omega)] at h1
    obtain ⟨cs, h2, h3⟩ := Option.bind_eq_some_iff.1 h1
    obtain ⟨_, _, h4⟩ := World.cells?_some h2
    obtain ⟨xs, m, rfl, e1, hcl, hxl, hf⟩ := DataW.trod_struct Try.underlying28 h3
    rw [cellsAsk] at hcl
    obtain ⟨x0, x1, rfl⟩ : ∃ a b, xs = [a, b] := by
      have : xs.length = 2 := hxl
      match xs, this with
      | [a, b], _ => exact ⟨a, b, rfl⟩
    obtain ⟨v0, v1, v2, v3, rfl⟩ : ∃ a b c d, cs = [a, b, c, d] := by
      match cs, hcl with
      | [a, b, c, d], _ => exact ⟨a, b, c, d, rfl⟩
    have f0 : DataW.trod enc Try.prog W 0 spare held m 26 (([v0, v1, v2, v3].drop 0).take (Try.prog.cellsOf 26)) = some x0 := hf 0 _ rfl
    rw [cellsItem] at f0
    have hv2 : v2 = .slice p l c := by
      have h5 := h4 2 (by omega)
      simp only [Addr.add_lit] at h5
      rw [hc3] at h5
      simpa using h5.symm
    obtain ⟨ys, k2, rfl, e2, hlen2, hyl, hf2⟩ := DataW.trod_struct Try.underlying26 f0
    obtain ⟨y0, y1, y2, rfl⟩ : ∃ a b c, ys = [a, b, c] := by
      have : ys.length = 3 := hyl
      match ys, this with
      | [a, b, c], _ => exact ⟨a, b, c, rfl⟩
    have g2 : DataW.trod enc Try.prog W 0 spare held k2 24 (((([v0, v1, v2, v3].drop 0).take 3).drop 2).take (Try.prog.cellsOf 24)) = some y2 := hf2 2 _ rfl
    rw [cellsL] at g2
    have g2 : DataW.trod enc Try.prog W 0 spare held k2 24 [v2] = some y2 := g2
    rcases DataW.trod_slice Try.underlying24 g2 with ⟨hc, hy⟩ | ⟨a', len2, cap2, elems2, rest2, k3, -, hc, -, hb2, hl2, -⟩
    · simp at hc
      rw [hv2] at hc
      cases hc
      exact Nat.le_refl _
    · simp at hc
      rw [hv2] at hc
      injection hc with e1 e2 e3
      omega
end
end Go.Proofs.Ytliaegnhnnnojaa

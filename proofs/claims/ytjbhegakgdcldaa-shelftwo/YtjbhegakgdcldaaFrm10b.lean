import Derived.Test.YtjbhegakgdcldaaJ11
import Derived.Test.YtjbhegakgdcldaaShX
set_option linter.unusedSimpArgs false
set_option linter.unusedVariables false
set_option maxRecDepth 100000
namespace Go.Proofs.Ytjbhegakgdcldaa
open Go.ChangeShapes Go.WideShapes Go.ChangeAt Go.RowKit Go.Deep

/-! Acts (tarnlaw10.Act) that came in, of whatever size. -/
section
variable {H : Type} {enc : TypeId × Value → H} {W : World} {spare : Nat → Bool} {held : Bool}
def acc10 (a : Ac10) : List Value := [.int .i64 a.d, .int .i64 a.n, .string a.s, a.pv]
def Acw10 (a : Ac10) : Prop := a.s.size ≤ maxLen ∧ (-9223372036854775808 ≤ a.d ∧ a.d ≤ 9223372036854775807) ∧ (-9223372036854775808 ≤ a.n ∧ a.n ≤ 9223372036854775807) ∧ ∃ pa pl pc, a.pv = .slice pa pl pc ∧ pl ≤ maxLen
theorem act10_of_trod {n : Nat} {cs : List Value} {y : DataW H × List MemPlace} (h : DataW.trod enc Try.prog W 0 spare held n 37 cs = some y) : ∃ a, cs = acc10 a ∧ Acw10 a := by
  obtain ⟨xs, m, _, e1, hcl, hxl, hf⟩ := DataW.trod_struct Try.underlying37 h
  rw [cellsAct10] at hcl
  obtain ⟨x0, x1, x2, x3, rfl⟩ : ∃ a b c d, xs = [a, b, c, d] := by
    have : xs.length = 4 := hxl
    match xs, this with
    | [a, b, c, d], _ => exact ⟨a, b, c, d, rfl⟩
  obtain ⟨v0, v1, v2, v3, rfl⟩ : ∃ a b c d, cs = [a, b, c, d] := by
    match cs, hcl with
    | [a, b, c, d], _ => exact ⟨a, b, c, d, rfl⟩
  have f0 : DataW.trod enc Try.prog W 0 spare held m 3 (([v0, v1, v2, v3].drop 0).take (Try.prog.cellsOf 3)) = some x0 := hf 0 _ rfl
  have f1 : DataW.trod enc Try.prog W 0 spare held m 3 (([v0, v1, v2, v3].drop 1).take (Try.prog.cellsOf 3)) = some x1 := hf 1 _ rfl
  have f2 : DataW.trod enc Try.prog W 0 spare held m 9 (([v0, v1, v2, v3].drop 2).take (Try.prog.cellsOf 9)) = some x2 := hf 2 _ rfl
  have f3 : DataW.trod enc Try.prog W 0 spare held m 23 (([v0, v1, v2, v3].drop 3).take (Try.prog.cellsOf 23)) = some x3 := hf 3 _ rfl
  rw [cells3] at f0 f1
  rw [cellsStr] at f2
  rw [cellsI] at f3
  obtain ⟨k0, e0, _, w0⟩ := DataW.trod_int Try.underlying3 f0
  obtain ⟨k1, e10, _, w1⟩ := DataW.trod_int Try.underlying3 f1
  obtain ⟨s, e2, _, hs⟩ := DataW.trod_string Try.underlying9 f2
  obtain ⟨l3, r3, b3⟩ := rp_of_trod (v := v3) f3
  simp at e0 e10 e2
  subst e0 e10 e2
  obtain ⟨pa, pc, rfl, _, hpl, _⟩ := r3
  exact ⟨⟨k0, k1, s, _⟩, rfl, hs, i64_bd w0, i64_bd w1, pa, l3.length, pc, rfl, by unfold maxLen; omega⟩
theorem la10_of_trod {n : Nat} {v : Value} {y : DataW H × List MemPlace} (h : DataW.trod enc Try.prog W 0 spare held n 22 [v] = some y) : ∃ q len, La10 W v q len := by
  rcases DataW.trod_slice Try.underlying22 h with ⟨hc, hy⟩ | ⟨a, len, cap, elems, rest, k, rfl, hc, rfl, hb, hl, hm, hlen, hel, -, -⟩
  · simp at hc
    subst hc
    exact ⟨fun _ => ⟨0, 0, ByteArray.empty, .bool false⟩, 0, by simp [maxLen], none, 0, rfl, fun i hi => absurd hi (by omega)⟩
  · simp at hc
    subst hc
    rw [cellsAct10] at hel
    have one : ∀ i, ∃ q : Ac10, (h : i < len) → (∀ j, j < 4 → W.cell? ((a.add (i * 4)).add j) = (acc10 q)[j]?) ∧ Acw10 q := by
      intro i
      by_cases hi : i < len
      · have h1 := hel i hi
        rw [List.getElem?_eq_getElem (by omega)] at h1
        obtain ⟨cs, h2, h3⟩ := Option.bind_eq_some_iff.1 h1
        obtain ⟨_, _, h4⟩ := World.cells?_some h2
        obtain ⟨q, e, hw⟩ := act10_of_trod h3
        refine ⟨q, fun _ => ⟨fun j hj => ?_, hw⟩⟩
        rw [h4 j hj, e]
      · exact ⟨⟨0, 0, ByteArray.empty, .bool false⟩, fun h' => absurd h' hi⟩
    obtain ⟨f, hf⟩ : ∃ f : Nat → Ac10, ∀ i (h : i < len), (∀ j, j < 4 → W.cell? ((a.add (i * 4)).add j) = (acc10 (f i))[j]?) ∧ Acw10 (f i) := ⟨fun i => Classical.choose (one i), fun i h => Classical.choose_spec (one i) h⟩
    refine ⟨f, len, by omega, some a, cap, rfl, fun i hi => ?_⟩
    obtain ⟨b, off, spot⟩ := a
    have hspot : spot = none := by
      have := (hf 0 (by omega)).1 0 (by omega)
      simp only [Nat.zero_mul, addr_zero] at this
      exact World.cell?_spot this
    subst hspot
    obtain ⟨h0, h1⟩ := hf i hi
    simp only [Addr.add_lit] at h0
    exact ⟨⟨b, off, rfl, h0 0 (by omega), h0 1 (by omega), h0 2 (by omega), h0 3 (by omega)⟩, h1⟩
/-- A script as a walk of the first form wants it. -/
theorem script10_first {n : Nat} {cs : List Value} {y : DataW H × List MemPlace} (h : DataW.trod enc Try.prog W 0 spare held n 25 cs = some y) :
    ∃ (k f : Int) (lv : Value) (q : Nat → Ac10) (len : Nat) (oa : Option Addr) (ol oc : Nat), cs = [.int .i64 k, .int .i64 f, lv, .slice oa ol oc] ∧ (-9223372036854775808 ≤ k ∧ k ≤ 9223372036854775807) ∧ (-9223372036854775808 ≤ f ∧ f ≤ 9223372036854775807) ∧ La10 W lv q len ∧ ol ≤ maxLen := by
  obtain ⟨k, f, lv, ov, x2, x3, e, hk, hf, ⟨m1, h1⟩, ⟨m2, h2⟩, _⟩ := script10_of_trod h
  obtain ⟨q, len, hq⟩ := la10_of_trod h1
  obtain ⟨l, r, _⟩ := rp_of_trod h2
  obtain ⟨oa, oc, rfl, _, hol, _⟩ := r
  exact ⟨k, f, lv, q, len, oa, l.length, oc, e, hk, hf, hq, by unfold maxLen; omega⟩
end
end Go.Proofs.Ytjbhegakgdcldaa

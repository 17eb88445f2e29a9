import Derived.Test.YtljfenjpnanoiaaRows
import Derived.Test.YtljfenjpnanoiaaSls
import Derived.ProofKit
import Derived.OpenShut
import Derived.ShutString
import Derived.ChangeOld
import Derived.Deep.Slices
set_option linter.unusedSimpArgs false
set_option linter.unusedVariables false
namespace Go.Proofs.Ytljfenjpnanoiaa
open Go.ChangeShapes Go.WideShapes Go.ChangeAt Go.RowKit Go.Deep

theorem own : ownKnob Try.prog.godebug = none := by kernel_rfl
theorem laidOut : laidOutB Try.prog = true := by kernel_rfl
theorem cells26 : Try.prog.cellsOf 25 = 4 := by kernel_rfl
theorem cells24 : Try.prog.cellsOf 23 = 1 := by kernel_rfl
theorem u64_wf {x : Int} (h : (Lit.int .u64 x).wf = true) : 0 ≤ x ∧ x < 18446744073709551616 := by
  have := bounds_u64 h
  omega
/-- A number out of four cells that read as an array of four limbs. -/
theorem num_of_trod {H : Type} {enc : TypeId × Value → H} {W : World} {base : Nat} {spare : Nat → Bool} {held : Bool} {n : Nat} {cs : List Value} {x : DataW H × List MemPlace}
    (h : DataW.trod enc Try.prog W base spare held n 25 cs = some x) : ∃ m, m < M256 ∧ cs = four m := by
  obtain ⟨xs, k, _, _, hlen, hxl, hel⟩ := DataW.trod_array Try.underlying25 h
  rw [cells26] at hlen
  simp only [cells24, Nat.mul_one] at hel
  have one : ∀ i, i < 4 → ∃ q : Int, cs[i]? = some (.int .u64 q) ∧ 0 ≤ q ∧ q < 18446744073709551616 := by
    intro i hi
    have hx := hel i hi
    have hg : xs[i]? = some xs[i] := List.getElem?_eq_getElem (by omega)
    rw [hg] at hx
    obtain ⟨q, e0, _, wq⟩ := DataW.trod_int Try.underlying23 hx
    have hb := u64_wf wq
    refine ⟨q, ?_, hb⟩
    have e1 := congrArg (fun l : List Value => l[0]?) e0
    simpa [List.getElem?_take, List.getElem?_drop] using e1
  obtain ⟨q0, c0, b0⟩ := one 0 (by omega)
  obtain ⟨q1, c1, b1⟩ := one 1 (by omega)
  obtain ⟨q2, c2, b2⟩ := one 2 (by omega)
  obtain ⟨q3, c3, b3⟩ := one 3 (by omega)
  obtain ⟨m, hm, hv, _⟩ := V_of q0 q1 q2 q3 ⟨b0, b1, b2, b3⟩
  refine ⟨m, hm, ?_⟩
  have e : cs = [.int .u64 q0, .int .u64 q1, .int .u64 q2, .int .u64 q3] := by
    apply List.ext_getElem?
    intro i
    have : i = 0 ∨ i = 1 ∨ i = 2 ∨ i = 3 ∨ 4 ≤ i := by omega
    rcases this with rfl | rfl | rfl | rfl | h4
    · rw [c0]; rfl
    · rw [c1]; rfl
    · rw [c2]; rfl
    · rw [c3]; rfl
    · rw [List.getElem?_eq_none (by omega), List.getElem?_eq_none (by simp; omega)]
  rw [e]
  simp only [V, Value.agg.injEq] at hv
  simp only [four]
  simpa using hv
theorem flat_get (ns : List Nat) (j : Nat) (u : Value) (h : (flat ns)[j]? = some u) : ∃ hi : j / 4 < ns.length, (four ns[j / 4])[j % 4]? = some u := by
  have hl : j < (flat ns).length := by
    rcases Nat.lt_or_ge j (flat ns).length with h1 | h1
    · exact h1
    · rw [List.getElem?_eq_none h1] at h; simp at h
  rw [flat_length] at hl
  have hi : j / 4 < ns.length := by omega
  refine ⟨hi, ?_⟩
  obtain ⟨f0, f1, f2, f3⟩ := flat_at ns (j / 4) hi
  have h4 : j % 4 = 0 ∨ j % 4 = 1 ∨ j % 4 = 2 ∨ j % 4 = 3 := by omega
  rcases h4 with e | e | e | e
  · have ej : j = 4 * (j / 4) := by omega
    rw [ej] at h; rw [f0] at h; rw [e]; exact h
  · have ej : j = 4 * (j / 4) + 1 := by omega
    rw [ej] at h; rw [f1] at h; rw [e]; exact h
  · have ej : j = 4 * (j / 4) + 2 := by omega
    rw [ej] at h; rw [f2] at h; rw [e]; exact h
  · have ej : j = 4 * (j / 4) + 3 := by omega
    rw [ej] at h; rw [f3] at h; rw [e]; exact h
/-- What the walks want of a slice of numbers that came in. -/
theorem sl_of_trod {H : Type} {enc : TypeId × Value → H} {W : World} {spare : Nat → Bool} {held : Bool} {fuel : Nat} {v : Value} {x : DataW H × List MemPlace}
    (h : DataW.trod enc Try.prog W 0 spare held fuel 22 [v] = some x) : ∃ ns, Sl W v ns := by
  rcases open_slice Try.underlying22 h with ⟨hc, _⟩ | ⟨a, len, cap, m, n, D, Pl, hc, _, hl, hm, hmm, _, hall⟩
  · simp at hc
    exact ⟨[], by simp, by simp [maxLen], .inl ⟨rfl, none, 0, hc⟩⟩
  · simp at hc
    subst hc
    have hlm : len ≤ m := by rw [hmm]; split <;> omega
    rw [cells26] at hall
    have one : ∀ i, ∃ k : Nat, i < len → k < M256 ∧ ∀ j, j < 4 → W.cell? ((a.add (i * 4)).add j) = (four k)[j]? := by
      intro i
      by_cases hi : i < len
      · obtain ⟨cs, h1, h2⟩ := hall i (by omega)
        obtain ⟨k, hk, rfl⟩ := num_of_trod h2
        obtain ⟨_, _, h3⟩ := World.cells?_some h1
        exact ⟨k, fun _ => ⟨hk, h3⟩⟩
      · exact ⟨0, fun h' => absurd h' hi⟩
    obtain ⟨f, hf⟩ : ∃ f : Nat → Nat, ∀ i, i < len → f i < M256 ∧ ∀ j, j < 4 → W.cell? ((a.add (i * 4)).add j) = (four (f i))[j]? := ⟨fun i => Classical.choose (one i), fun i => Classical.choose_spec (one i)⟩
    by_cases h0 : len = 0
    · subst h0
      exact ⟨[], by simp, by simp [maxLen], .inl ⟨rfl, some a, cap, rfl⟩⟩
    · obtain ⟨b, off, spot⟩ := a
      have hspot : spot = none := by
        have := (hf 0 (by omega)).2 0 (by omega)
        have h9 : W.cell? ⟨b, off, spot⟩ = some (.int .u64 (lb (f 0) 0)) := by simpa [Addr.add, four] using this
        exact World.cell?_spot h9
      subst hspot
      have hadd : ∀ i j, ((⟨b, off, none⟩ : Addr).add (i * 4)).add j = ⟨b, off + (i * 4 + j), none⟩ := by
        intro i j
        unfold Addr.add
        split <;> split <;> simp_all <;> omega
      refine ⟨(List.range len).map f, ?_, by simp; omega, .inr ⟨b, off, cap, by simp, ?_⟩⟩
      · intro k hk
        simp only [List.mem_map, List.mem_range] at hk
        obtain ⟨i, hi, rfl⟩ := hk
        exact (hf i hi).1
      · intro j u hj
        obtain ⟨hi, hq⟩ := flat_get _ j u hj
        simp only [List.length_map, List.length_range] at hi
        have h7 := (hf (j / 4) hi).2 (j % 4) (by omega)
        rw [hadd] at h7
        have e : j / 4 * 4 + j % 4 = j := by omega
        rw [e] at h7
        rw [h7]
        simpa using hq
end Go.Proofs.Ytljfenjpnanoiaa

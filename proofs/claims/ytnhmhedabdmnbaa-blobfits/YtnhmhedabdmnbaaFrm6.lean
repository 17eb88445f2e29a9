import Derived.Test.YtnhmhedabdmnbaaRows
import Derived.Test.YtnhmhedabdmnbaaAsk6
import Derived.ProofKit
import Derived.OpenShut
import Derived.ShutString
import Derived.ChangeOld
import Derived.JoinedCond
import Derived.Deep.Slices
import Derived.SliceStrings
import Derived.ChangeSlices
set_option linter.unusedSimpArgs false
set_option linter.unusedVariables false
set_option maxRecDepth 100000
namespace Go.Proofs.Ytnhmhedabdmnbaa
open Go.ChangeShapes Go.WideShapes Go.ChangeAt Go.RowKit Go.Deep

theorem own : ownKnob Try.prog.godebug = none := by kernel_rfl
theorem laidOut : laidOutB Try.prog = true := by kernel_rfl
theorem cellsAsk6 : Try.prog.cellsOf 26 = 3 := by kernel_rfl
theorem cells9 : Try.prog.cellsOf 9 = 1 := by kernel_rfl
theorem cells3 : Try.prog.cellsOf 3 = 1 := by kernel_rfl
theorem cellsU : Try.prog.cellsOf 27 = 1 := by kernel_rfl
theorem cellsSu : Try.prog.cellsOf 23 = 1 := by kernel_rfl
theorem cellsSs : Try.prog.cellsOf 24 = 1 := by kernel_rfl
theorem addr_zero (a : Addr) : a.add 0 = a := by unfold Addr.add; split <;> simp_all
theorem bulk_at {H : Type} : ∀ (l : List (DataW H)) (i : Nat) (h : i < l.length), Rows.uptoBulk l[i] ≤ Rows.uptoBulkAll l := by
  intro l
  induction l with
  | nil => intro i h; simp at h
  | cons d l ih =>
    intro i h
    simp only [Rows.uptoBulkAll]
    cases i with
    | zero => simp
    | succ j => have := ih j (by simpa using h); simp; omega
section
variable {H : Type} {enc : TypeId × Value → H} {W : World} {spare : Nat → Bool} {held : Bool}
theorem ss_of_trod {fuel : Nat} {v : Value} {x : DataW H × List MemPlace}
    (h : DataW.trod enc Try.prog W 0 spare held fuel 24 [v] = some x) : ∃ f len a c, v = .slice a len c ∧ Ss W v f len ∧ ∀ i, i < len → (f i).size ≤ Rows.uptoBulk x.1 := by
  rcases open_strings Try.underlying24 Try.underlying9 cells9 h with ⟨hc, _⟩ | ⟨a, len, cap, ss, hc, _, hl, hm, hz, hx, hcell, hws⟩
  · simp at hc
    exact ⟨fun _ => ByteArray.empty, 0, none, 0, hc, ⟨by simp [maxLen], fun i hi => absurd hi (by omega), none, 0, hc, fun i hi => absurd hi (by omega)⟩, fun i hi => absurd hi (by omega)⟩
  · simp at hc
    subst hc
    have hle : len ≤ ss.length := by rw [hz]; split <;> omega
    refine ⟨fun i => ss.getD i ByteArray.empty, len, _, _, rfl, ⟨by omega, fun i hi => ?_, some a, cap, rfl, fun i hi => ?_⟩, fun i hi => ?_⟩
    · apply hws
      show ss.getD i ByteArray.empty ∈ ss
      rw [List.getD_eq_getElem?_getD, List.getElem?_eq_getElem (by omega)]
      exact List.getElem_mem _
    · obtain ⟨b, off, spot⟩ := a
      have h1 := hcell i (by omega)
      have h0 := hcell 0 (by omega)
      have hspot : spot = none := by
        have h9 : W.cell? ⟨b, off, spot⟩ = some (.string (ss.getD 0 ByteArray.empty)) := by simpa [Addr.add] using h0
        exact World.cell?_spot h9
      subst hspot
      refine ⟨b, off, rfl, ?_⟩
      have hadd : (⟨b, off, none⟩ : Addr).add i = ⟨b, off + i, none⟩ := by unfold Addr.add; split <;> simp_all
      rw [hadd] at h1
      exact h1
    · rw [hx]
      simp only [Rows.uptoBulk]
      have hlt : i < (strs (H := H) (ss.take len)).length := by simp [strs]; omega
      have := bulk_at (strs (H := H) (ss.take len)) i hlt
      have e : (strs (H := H) (ss.take len))[i] = .lit (.string (ss.getD i ByteArray.empty).data.toList) := by
        simp [strs, List.getD_eq_getElem?_getD, List.getElem?_eq_getElem (show i < ss.length by omega)]
      rw [e] at this
      simp only [Rows.uptoBulk] at this
      have e2 : (ss.getD i ByteArray.empty).data.toList.length = (ss.getD i ByteArray.empty).size := rfl
      omega
theorem su_of_trod {fuel : Nat} {v : Value} {x : DataW H × List MemPlace}
    (h : DataW.trod enc Try.prog W 0 spare held fuel 23 [v] = some x) : ∃ g len a c, v = .slice a len c ∧ Su W v g len := by
  rcases open_ints Try.underlying23 Try.underlying27 cellsU h with ⟨hc, _⟩ | ⟨a, len, cap, zs, hc, _, hl, hm, hz, hx, hcell, hws⟩
  · simp at hc
    exact ⟨fun _ => 0, 0, none, 0, hc, by simp [maxLen], fun i hi => absurd hi (by omega), none, 0, hc, fun i hi => absurd hi (by omega)⟩
  · simp at hc
    subst hc
    have hle : len ≤ zs.length := by rw [hz]; split <;> omega
    have hb : ∀ i, i < len → 0 ≤ zs.getD i 0 ∧ zs.getD i 0 < 18446744073709551616 := fun i hi => by
      have hm : zs.getD i 0 ∈ zs := by
        rw [List.getD_eq_getElem?_getD, List.getElem?_eq_getElem (by omega)]
        exact List.getElem_mem _
      have := hws _ hm
      generalize zs.getD i 0 = z at *
      simp [Lit.wf, IntKind.min, IntKind.max, IntKind.bits, IntKind.signed] at this
      omega
    refine ⟨fun i => (zs.getD i 0).toNat, len, _, _, rfl, by omega, fun i hi => ?_, some a, cap, rfl, fun i hi => ?_⟩
    · have := hb i hi
      show (zs.getD i 0).toNat < _
      omega
    · obtain ⟨b, off, spot⟩ := a
      have h1 := hcell i (by omega)
      have h0 := hcell 0 (by omega)
      have hspot : spot = none := by
        have h9 : W.cell? ⟨b, off, spot⟩ = some (.int .u64 (zs.getD 0 0)) := by simpa [Addr.add] using h0
        exact World.cell?_spot h9
      subst hspot
      refine ⟨b, off, rfl, ?_⟩
      have hadd : (⟨b, off, none⟩ : Addr).add i = ⟨b, off + i, none⟩ := by unfold Addr.add; split <;> simp_all
      rw [hadd] at h1
      rw [h1]
      show some (Value.int .u64 (zs.getD i 0)) = some (.int .u64 ((zs.getD i 0).toNat : Int))
      rw [Int.toNat_of_nonneg (hb i hi).1]
set_option maxRecDepth 100000 in
theorem asks6_of_trod {n : Nat} {v : Value} {y : DataW H × List MemPlace} (h : DataW.trod enc Try.prog W 0 spare held n 22 [v] = some y) : ∃ qs, Sq6 W v qs ∧ ∀ q ∈ qs, ∀ i, i < q.n → (q.f i).size ≤ Rows.uptoBulk y.1 := by
  rcases DataW.trod_slice Try.underlying22 h with ⟨hc, hy⟩ | ⟨a, len, cap, elems, rest, k, rfl, hc, rfl, hb, hl, hm, hlen, hel, -, -⟩
  · simp at hc
    subst hc
    exact ⟨[], ⟨by simp, none, 0, rfl, fun i hi => by simp at hi⟩, fun q hq => by cases hq⟩
  · simp at hc
    subst hc
    rw [cellsAsk6] at hel
    have one : ∀ i, ∃ q : Q6 × (Option Addr × Nat) × (Option Addr × Nat), (h : i < len) → W.cell? (a.add (i * 3)) = some (.slice q.2.1.1 q.1.hl q.2.1.2) ∧ W.cell? ((a.add (i * 3)).add 1) = some (.slice q.2.2.1 q.1.n q.2.2.2) ∧ W.cell? ((a.add (i * 3)).add 2) = some (.int .i64 q.1.k) ∧
        Su W (.slice q.2.1.1 q.1.hl q.2.1.2) q.1.g q.1.hl ∧ Ss W (.slice q.2.2.1 q.1.n q.2.2.2) q.1.f q.1.n ∧ (-9223372036854775808 ≤ q.1.k ∧ q.1.k ≤ 9223372036854775807) ∧ ∀ j, j < q.1.n → (q.1.f j).size ≤ Rows.uptoBulk (elems[i]'(by omega)).1 := by
      intro i
      by_cases hi : i < len
      · have h1 := hel i hi
        rw [List.getElem?_eq_getElem (by omega)] at h1
        obtain ⟨cs, h2, h3⟩ := Option.bind_eq_some_iff.1 h1
        obtain ⟨_, _, h4⟩ := World.cells?_some h2
        obtain ⟨xs, m, rfl, e1, hcl, hxl, hf⟩ := DataW.trod_struct Try.underlying26 h3
        rw [cellsAsk6] at hcl
        obtain ⟨x0, x1, x2, rfl⟩ : ∃ a b c, xs = [a, b, c] := by
          have : xs.length = 3 := hxl
          match xs, this with
          | [a, b, c], _ => exact ⟨a, b, c, rfl⟩
        obtain ⟨v0, v1, v2, rfl⟩ : ∃ a b c, cs = [a, b, c] := by
          match cs, hcl with
          | [a, b, c], _ => exact ⟨a, b, c, rfl⟩
        have f0 : DataW.trod enc Try.prog W 0 spare held m 23 (([v0, v1, v2].drop 0).take (Try.prog.cellsOf 23)) = some x0 := hf 0 _ rfl
        have f1 : DataW.trod enc Try.prog W 0 spare held m 24 (([v0, v1, v2].drop 1).take (Try.prog.cellsOf 24)) = some x1 := hf 1 _ rfl
        have f2 : DataW.trod enc Try.prog W 0 spare held m 3 (([v0, v1, v2].drop 2).take (Try.prog.cellsOf 3)) = some x2 := hf 2 _ rfl
        rw [cellsSu] at f0
        rw [cellsSs] at f1
        rw [cells3] at f2
        obtain ⟨g, hl, aH, cH, e2, hsu⟩ := su_of_trod f0
        obtain ⟨f, n, aB, cB, e3, hss, hbk⟩ := ss_of_trod f1
        obtain ⟨kk, e4, e5, hwf⟩ := DataW.trod_int Try.underlying3 f2
        simp at e4
        subst e2; subst e3; subst e4
        have eb : Rows.uptoBulk (elems[i]'(by omega)).1 = Rows.uptoBulk x0.1 + (Rows.uptoBulk x1.1 + (Rows.uptoBulk x2.1 + 0)) + 1 := by rw [e1]; simp [Rows.uptoBulk, Rows.uptoBulkAll]
        refine ⟨(⟨hl, g, n, f, kk⟩, (aH, cH), (aB, cB)), fun _ => ⟨?_, h4 1 (by omega), h4 2 (by omega), hsu, hss, ?_, fun j hj => by have := hbk j hj; show (f j).size ≤ _; omega⟩⟩
        · have := h4 0 (by omega); rw [addr_zero] at this; exact this
        · simp [Lit.wf, IntKind.min, IntKind.max, IntKind.bits, IntKind.signed] at hwf
          show -9223372036854775808 ≤ kk ∧ kk ≤ 9223372036854775807
          omega
      · exact ⟨(⟨0, fun _ => 0, 0, fun _ => ByteArray.empty, 0⟩, (none, 0), (none, 0)), fun h' => absurd h' hi⟩
    obtain ⟨f, hf⟩ : ∃ f : Nat → Q6 × (Option Addr × Nat) × (Option Addr × Nat), ∀ i (h : i < len), W.cell? (a.add (i * 3)) = some (.slice (f i).2.1.1 (f i).1.hl (f i).2.1.2) ∧ W.cell? ((a.add (i * 3)).add 1) = some (.slice (f i).2.2.1 (f i).1.n (f i).2.2.2) ∧ W.cell? ((a.add (i * 3)).add 2) = some (.int .i64 (f i).1.k) ∧
        Su W (.slice (f i).2.1.1 (f i).1.hl (f i).2.1.2) (f i).1.g (f i).1.hl ∧ Ss W (.slice (f i).2.2.1 (f i).1.n (f i).2.2.2) (f i).1.f (f i).1.n ∧ (-9223372036854775808 ≤ (f i).1.k ∧ (f i).1.k ≤ 9223372036854775807) ∧ ∀ j, j < (f i).1.n → ((f i).1.f j).size ≤ Rows.uptoBulk (elems[i]'(by omega)).1 := ⟨fun i => Classical.choose (one i), fun i h => Classical.choose_spec (one i) h⟩
    refine ⟨(List.range len).map fun i => (f i).1, ⟨by simp; unfold maxLen at hm; omega, some a, cap, by simp, fun i hi => ?_⟩, fun q hq => ?_⟩
    · simp only [List.length_map, List.length_range] at hi
      obtain ⟨b, off, spot⟩ := a
      have hspot : spot = none := by
        have := (hf 0 (by omega)).1
        simp only [Nat.zero_mul, addr_zero] at this
        exact World.cell?_spot this
      subst hspot
      obtain ⟨h0, h1, h2, h3, h5, h6, _⟩ := hf i hi
      simp only [Addr.add_lit] at h0 h1 h2
      simp only [List.getElem_map, List.getElem_range]
      exact ⟨b, off, rfl, _, _, _, _, h0, h1, h2, h3, h5, h6⟩
    · simp only [List.mem_map, List.mem_range] at hq
      obtain ⟨i, hi, rfl⟩ := hq
      intro j hj
      have h7 := (hf i hi).2.2.2.2.2.2 j hj
      have := bulk_at (elems.map (·.1)) i (by simp; omega)
      simp only [List.getElem_map] at this
      simp only [Rows.uptoBulk]
      omega
end
end Go.Proofs.Ytnhmhedabdmnbaa

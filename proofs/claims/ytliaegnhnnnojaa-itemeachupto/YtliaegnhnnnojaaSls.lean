import Derived.Test.YtliaegnhnnnojaaSubM
import Derived.Deep.RegionWith
import Derived.Deep.DeepCutAuto
set_option linter.unusedSimpArgs false
set_option linter.unusedVariables false
namespace Go.Proofs.Ytliaegnhnnnojaa
open Go.RowKit

/-! Slices of numbers, as the walks read them. -/
def four (n : Nat) : List Value := [.int .u64 (lb n 0), .int .u64 (lb n 1), .int .u64 (lb n 2), .int .u64 (lb n 3)]
def flat (ns : List Nat) : List Value := ns.flatMap four
theorem flat_length (ns : List Nat) : (flat ns).length = ns.length * 4 := by
  induction ns with
  | nil => rfl
  | cons n ns ih => simp only [flat, List.flatMap_cons, List.length_append, List.length_cons] at *; rw [ih]; simp [four]; omega
theorem flat_append (a b : List Nat) : flat (a ++ b) = flat a ++ flat b := by simp [flat]
theorem flat_at (ns : List Nat) (i : Nat) (h : i < ns.length) : (flat ns)[4 * i]? = some (.int .u64 (lb ns[i] 0)) ∧ (flat ns)[4 * i + 1]? = some (.int .u64 (lb ns[i] 1)) ∧ (flat ns)[4 * i + 2]? = some (.int .u64 (lb ns[i] 2)) ∧ (flat ns)[4 * i + 3]? = some (.int .u64 (lb ns[i] 3)) := by
  induction ns generalizing i with
  | nil => simp at h
  | cons n ns ih =>
    have e : flat (n :: ns) = four n ++ flat ns := by simp [flat]
    rw [e]
    cases i with
    | zero => simp [four]
    | succ j =>
      have := ih j (by simpa using h)
      have l4 : (four n).length = 4 := rfl
      rw [List.getElem?_append_right (by rw [l4]; omega), List.getElem?_append_right (by rw [l4]; omega), List.getElem?_append_right (by rw [l4]; omega), List.getElem?_append_right (by rw [l4]; omega), l4]
      simp only [List.getElem_cons_succ]
      have e0 : 4 * (j + 1) - 4 = 4 * j := by omega
      have e1 : 4 * (j + 1) + 1 - 4 = 4 * j + 1 := by omega
      have e2 : 4 * (j + 1) + 2 - 4 = 4 * j + 2 := by omega
      have e3 : 4 * (j + 1) + 3 - 4 = 4 * j + 3 := by omega
      rw [e0, e1, e2, e3]
      exact this
/-- A slice of these numbers, in this world: nil, or from an address on, four cells a number. -/
def Sl (w : World) (v : Value) (ns : List Nat) : Prop :=
  (∀ n ∈ ns, n < M256) ∧ ns.length ≤ maxLen ∧
  ((ns = [] ∧ ∃ ad cap, v = .slice ad 0 cap) ∨ ∃ b off cap, v = .slice (some ⟨b, off, none⟩) ns.length cap ∧ ∀ j u, (flat ns)[j]? = some u → w.cell? ⟨b, off + j, none⟩ = some u)
theorem cell_lt {w : World} {a : Addr} {v : Value} (h : w.cell? a = some v) : a.block < w.heap.size := by
  unfold World.cell? at h
  split at h
  · next h' => exact (Array.getElem?_eq_some_iff.1 h').1
  · simp at h
theorem Sl.below {w w' : World} {v : Value} {ns : List Nat} (h : Sl w v ns) (hb : Below w.heap.size w w') : Sl w' v ns := by
  obtain ⟨h1, h2, h3⟩ := h
  refine ⟨h1, h2, ?_⟩
  rcases h3 with h3 | ⟨b, off, cap, hv, hc⟩
  · exact .inl h3
  · refine .inr ⟨b, off, cap, hv, fun j u hj => ?_⟩
    have := hc j u hj
    rw [hb.cell (p := ⟨b, off + j, none⟩) (cell_lt this)]
    exact this
theorem Sl.of_owns {w : World} {base : Nat} {v : Value} {ns : List Nat} (hn : ∀ n ∈ ns, n < M256) (hl : ns.length ≤ maxLen) (h : w.ownsRow base 93 4 v ns.length (flat ns)) : Sl w v ns := by
  refine ⟨hn, hl, ?_⟩
  obtain ⟨h1, h2⟩ := h
  rcases h2 with ⟨h2, h3⟩ | ⟨g, cap, cur, hv, hg, hh, h4, h5, h6, h7⟩
  · left; exact ⟨List.length_eq_zero_iff.1 h3, none, 0, h2⟩
  · right
    refine ⟨g, 0, cap, hv, fun j u hj => ?_⟩
    rw [← h7, List.getElem?_take] at hj
    split at hj
    · simp only [World.cell?, hh, Nat.zero_add]
      simpa using hj
    · simp at hj
/-- Where the i-th number of such a slice lies. -/
theorem Sl.at {w : World} {v : Value} {ns : List Nat} (h : Sl w v ns) : ∃ ad cap, v = .slice ad ns.length cap ∧ ∀ i (hi : i < ns.length), ∃ b off, ad = some ⟨b, off, none⟩ ∧ w.cell? ⟨b, off + i * 4, none⟩ = some (.int .u64 (lb ns[i] 0)) ∧ w.cell? ⟨b, off + i * 4 + 1, none⟩ = some (.int .u64 (lb ns[i] 1)) ∧ w.cell? ⟨b, off + i * 4 + 2, none⟩ = some (.int .u64 (lb ns[i] 2)) ∧ w.cell? ⟨b, off + i * 4 + 3, none⟩ = some (.int .u64 (lb ns[i] 3)) := by
  obtain ⟨h1, h2, h3⟩ := h
  rcases h3 with ⟨hn, ad, cap, hv⟩ | ⟨b, off, cap, hv, hc⟩
  · subst hn; exact ⟨ad, cap, hv, fun i hi => by simp at hi⟩
  · refine ⟨_, cap, hv, fun i hi => ⟨b, off, rfl, ?_⟩⟩
    obtain ⟨f0, f1, f2, f3⟩ := flat_at ns i hi
    rw [Nat.mul_comm i 4]
    exact ⟨hc _ _ f0, by rw [Nat.add_assoc]; exact hc _ _ f1, by rw [Nat.add_assoc]; exact hc _ _ f2, by rw [Nat.add_assoc]; exact hc _ _ f3⟩
theorem owns_ge {w : World} {base : Nat} {e : TypeId} {s : Nat} {v : Value} {n : Nat} {xs : List Value} (h : w.ownsRow base e s v n xs) {j : Nat} (hj : v.ownBlock = some j) : base ≤ j := by
  rcases h.2 with ⟨rfl, _⟩ | ⟨g, cap, cur, rfl, hg, _⟩
  · simp [Value.ownBlock] at hj
  · simp [Value.ownBlock] at hj; omega
end Go.Proofs.Ytliaegnhnnnojaa

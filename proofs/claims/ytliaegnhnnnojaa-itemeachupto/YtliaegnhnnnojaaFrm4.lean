import Derived.Test.YtliaegnhnnnojaaRows
import Derived.Test.YtliaegnhnnnojaaAsk4
import Derived.ProofKit
import Derived.OpenShut
import Derived.ShutString
import Derived.ChangeOld
import Derived.JoinedCond
import Derived.Deep.Slices
set_option linter.unusedSimpArgs false
set_option linter.unusedVariables false
set_option maxRecDepth 100000
namespace Go.Proofs.Ytliaegnhnnnojaa
open Go.ChangeShapes Go.WideShapes Go.ChangeAt Go.RowKit Go.Deep

theorem own : ownKnob Try.prog.godebug = none := by kernel_rfl
theorem laidOut : laidOutB Try.prog = true := by kernel_rfl
theorem cellsItem : Try.prog.cellsOf 26 = 3 := by kernel_rfl
theorem cellsAsk : Try.prog.cellsOf 28 = 4 := by kernel_rfl
theorem cellsB : Try.prog.cellsOf 4 = 1 := by kernel_rfl
theorem cellsS : Try.prog.cellsOf 9 = 1 := by kernel_rfl
theorem cellsL : Try.prog.cellsOf 24 = 1 := by kernel_rfl
theorem addr_zero (a : Addr) : a.add 0 = a := by unfold Addr.add; split <;> simp_all
theorem Rd.mono {w : World} : ∀ {n m : Nat} {xs : List IT} {v : Value}, Rd w n xs v → n ≤ m → Rd w m xs v
  | 0, _, _, _, h, _ => h.elim
  | n + 1, 0, _, _, _, h => by omega
  | n + 1, m + 1, xs, v, h, hm => by
    obtain ⟨hl, ad, cap, hv, h⟩ := h
    refine ⟨hl, ad, cap, hv, fun i hi => ?_⟩
    obtain ⟨b, off, ha, sv, h0, h1, h2, hs, h3⟩ := h i hi
    exact ⟨b, off, ha, sv, h0, h1, h2, hs, Rd.mono h3 (by omega)⟩
theorem bulk_wts {H : Type} : ∀ (xs : List IT) (ds : List (DataW H)), xs.length = ds.length → (∀ i (h : i < xs.length) (h' : i < ds.length), xs[i].wt ≤ Rows.uptoBulk ds[i]) → IT.wts xs ≤ Rows.uptoBulkAll ds
  | [], [], _, _ => by simp [IT.wts]
  | [], _ :: _, h, _ => by simp at h
  | _ :: _, [], h, _ => by simp at h
  | x :: xs, d :: ds, h, hw => by
    have h0 := hw 0 (by simp) (by simp)
    have h1 := bulk_wts xs ds (by simpa using h) (fun i hi hi' => by have := hw (i + 1) (by simpa using hi) (by simpa using hi'); simpa using this)
    simp only [IT.wts, Rows.uptoBulkAll]
    simp at h0
    omega
section
variable {H : Type} {enc : TypeId × Value → H} {W : World} {spare : Nat → Bool} {held : Bool}
/-- What an item's cells tell, its slice's reading given. -/
theorem item_of_trod {n : Nat} {cs : List Value} {x : DataW H × List MemPlace}
    (ih : ∀ k v y, k < n → DataW.trod enc Try.prog W 0 spare held k 24 [v] = some y → ∃ xs, Rd W k xs v ∧ (∃ a l c, v = .slice a l c) ∧ IT.wts xs ≤ Rows.uptoBulk y.1)
    (h : DataW.trod enc Try.prog W 0 spare held n 26 cs = some x) : ∃ (a : IT) (p : Option Addr) (l c : Nat), cs = [.bool a.list, .string a.text, .slice p l c] ∧ Rd W n a.items (.slice p l c) ∧ a.wt ≤ Rows.uptoBulk x.1 := by
  obtain ⟨xs, k, rfl, rfl, hlen, hxl, hf⟩ := DataW.trod_struct Try.underlying26 h
  rw [cellsItem] at hlen
  have hx : xs.length = 3 := hxl
  obtain ⟨x0, x1, x2, rfl⟩ : ∃ a b c, xs = [a, b, c] := by
    match xs, hx with
    | [a, b, c], _ => exact ⟨a, b, c, rfl⟩
  obtain ⟨v0, v1, v2, rfl⟩ : ∃ a b c, cs = [a, b, c] := by
    match cs, hlen with
    | [a, b, c], _ => exact ⟨a, b, c, rfl⟩
  have f0 : DataW.trod enc Try.prog W 0 spare held k 4 (([v0, v1, v2].drop 0).take (Try.prog.cellsOf 4)) = some x0 := hf 0 _ rfl
  have f1 : DataW.trod enc Try.prog W 0 spare held k 9 (([v0, v1, v2].drop 1).take (Try.prog.cellsOf 9)) = some x1 := hf 1 _ rfl
  have f2 : DataW.trod enc Try.prog W 0 spare held k 24 (([v0, v1, v2].drop 2).take (Try.prog.cellsOf 24)) = some x2 := hf 2 _ rfl
  rw [cellsB] at f0
  rw [cellsS] at f1
  rw [cellsL] at f2
  obtain ⟨b, e0, rfl⟩ := DataW.trod_bool Try.underlying4 f0
  obtain ⟨s, e1, rfl, hs⟩ := DataW.trod_string Try.underlying9 f1
  obtain ⟨ys, hr, ⟨p, l, c, e2⟩, hw⟩ := ih k v2 x2 (by omega) f2
  simp at e0 e1
  subst e0; subst e1; subst e2
  refine ⟨.mk b s ys, p, l, c, rfl, hr.mono (by omega), ?_⟩
  simp only [IT.wt, List.map_cons, List.map_nil, Rows.uptoBulk, Rows.uptoBulkAll]
  have : s.data.toList.length = s.size := rfl
  omega
theorem items_of_trod : ∀ (n : Nat) (v : Value) (y : DataW H × List MemPlace), DataW.trod enc Try.prog W 0 spare held n 24 [v] = some y → ∃ xs, Rd W n xs v ∧ (∃ a l c, v = .slice a l c) ∧ IT.wts xs ≤ Rows.uptoBulk y.1 := by
  intro n
  induction n using Nat.strongRecOn with
  | ind n ih =>
  intro v y h
  rcases DataW.trod_slice Try.underlying24 h with ⟨hc, hy⟩ | ⟨a, len, cap, elems, rest, k, rfl, hc, rfl, hb, hl, hm, hlen, hel, -, -⟩
  · simp at hc
    subst hc
    cases n with
    | zero => simp [DataW.trod] at h
    | succ n => exact ⟨[], ⟨by simp, none, 0, rfl, fun i hi => by simp at hi⟩, ⟨_, _, _, rfl⟩, by simp [IT.wts]⟩
  · simp at hc
    subst hc
    rw [cellsItem] at hel
    have one : ∀ i, ∃ q : IT × Option Addr × Nat × Nat, (h : i < len) → W.cell? (a.add (i * 3)) = some (.bool q.1.list) ∧ W.cell? ((a.add (i * 3)).add 1) = some (.string q.1.text) ∧ W.cell? ((a.add (i * 3)).add 2) = some (.slice q.2.1 q.2.2.1 q.2.2.2) ∧ Rd W k q.1.items (.slice q.2.1 q.2.2.1 q.2.2.2) ∧ q.1.wt ≤ Rows.uptoBulk (elems[i]'(by omega)).1 := by
      intro i
      by_cases hi : i < len
      · have h1 := hel i hi
        rw [List.getElem?_eq_getElem (by omega)] at h1
        obtain ⟨cs, h2, h3⟩ := Option.bind_eq_some_iff.1 h1
        obtain ⟨q, p, l, c, rfl, hr, hw⟩ := item_of_trod (fun k' v y hk => ih k' (by omega) v y) h3
        obtain ⟨_, _, h4⟩ := World.cells?_some h2
        refine ⟨(q, p, l, c), fun _ => ⟨?_, ?_, ?_, hr, hw⟩⟩
        · have := h4 0 (by omega); rw [addr_zero] at this; exact this
        · exact h4 1 (by omega)
        · exact h4 2 (by omega)
      · exact ⟨(.mk false ⟨#[]⟩ [], none, 0, 0), fun h' => absurd h' hi⟩
    obtain ⟨f, hf⟩ : ∃ f : Nat → IT × Option Addr × Nat × Nat, ∀ i (h : i < len), W.cell? (a.add (i * 3)) = some (.bool (f i).1.list) ∧ W.cell? ((a.add (i * 3)).add 1) = some (.string (f i).1.text) ∧ W.cell? ((a.add (i * 3)).add 2) = some (.slice (f i).2.1 (f i).2.2.1 (f i).2.2.2) ∧ Rd W k (f i).1.items (.slice (f i).2.1 (f i).2.2.1 (f i).2.2.2) ∧ (f i).1.wt ≤ Rows.uptoBulk (elems[i]'(by omega)).1 := ⟨fun i => Classical.choose (one i), fun i h => Classical.choose_spec (one i) h⟩
    refine ⟨(List.range len).map fun i => (f i).1, ⟨by simp; unfold maxLen at hm; omega, some a, cap, by simp, fun i hi => ?_⟩, ⟨_, _, _, rfl⟩, ?_⟩
    · simp only [List.length_map, List.length_range] at hi
      obtain ⟨b, off, spot⟩ := a
      have hspot : spot = none := by
        have := (hf 0 (by omega)).1
        simp only [Nat.zero_mul, addr_zero] at this
        exact World.cell?_spot this
      subst hspot
      obtain ⟨h0, h1, h2, h3, _⟩ := hf i hi
      simp only [Addr.add_lit] at h0 h1 h2
      simp only [List.getElem_map, List.getElem_range]
      exact ⟨b, off, rfl, _, h0, h1, h2, ⟨_, _, _, rfl⟩, h3⟩
    · simp only [Rows.uptoBulk]
      have := bulk_wts ((List.range len).map fun i => (f i).1) (elems.map (·.1)) (by simp [hlen]) (fun i h h' => by
        simp only [List.length_map, List.length_range] at h
        simp only [List.getElem_map, List.getElem_range]
        exact (hf i h).2.2.2.2)
      omega
set_option maxRecDepth 100000 in
theorem asks_of_trod {n : Nat} {v : Value} {y : DataW H × List MemPlace} (h : DataW.trod enc Try.prog W 0 spare held n 22 [v] = some y) : ∃ qs, Sq W n v qs ∧ ∀ q ∈ qs, q.it.wt ≤ Rows.uptoBulk y.1 ∧ q.s.size ≤ Rows.uptoBulk y.1 := by
  rcases DataW.trod_slice Try.underlying22 h with ⟨hc, hy⟩ | ⟨a, len, cap, elems, rest, k, rfl, hc, rfl, hb, hl, hm, hlen, hel, -, -⟩
  · simp at hc
    subst hc
    exact ⟨[], ⟨by simp, none, 0, rfl, fun i hi => by simp at hi⟩, fun q hq => by cases hq⟩
  · simp at hc
    subst hc
    rw [cellsAsk] at hel
    have one : ∀ i, ∃ q : Q4 × Option Addr × Nat × Nat, (h : i < len) → W.cell? (a.add (i * 4)) = some (.bool q.1.it.list) ∧ W.cell? ((a.add (i * 4)).add 1) = some (.string q.1.it.text) ∧ W.cell? ((a.add (i * 4)).add 2) = some (.slice q.2.1 q.2.2.1 q.2.2.2) ∧ W.cell? ((a.add (i * 4)).add 3) = some (.string q.1.s) ∧ Rd W (k + 1) q.1.it.items (.slice q.2.1 q.2.2.1 q.2.2.2) ∧ q.1.it.wt ≤ Rows.uptoBulk (elems[i]'(by omega)).1 ∧ q.1.s.size ≤ Rows.uptoBulk (elems[i]'(by omega)).1 := by
      intro i
      by_cases hi : i < len
      · have h1 := hel i hi
        rw [List.getElem?_eq_getElem (by omega)] at h1
        obtain ⟨cs, h2, h3⟩ := Option.bind_eq_some_iff.1 h1
        obtain ⟨_, _, h4⟩ := World.cells?_some h2
        obtain ⟨xs, m, rfl, e1, hcl, hxl, hf⟩ := DataW.trod_struct Try.underlying28 h3
        rw [cellsAsk] at hcl
        obtain ⟨x0, x1, rfl⟩ : ∃ a b, xs = [a, b] := by
          have : xs.length = 2 := hxl
          match xs, this with
          | [a, b], _ => exact ⟨a, b, rfl⟩
        obtain ⟨v0, v1, v2, v3, rfl⟩ : ∃ a b c d, cs = [a, b, c, d] := by
          match cs, hcl with
          | [a, b, c, d], _ => exact ⟨a, b, c, d, rfl⟩
        have f0 : DataW.trod enc Try.prog W 0 spare held m 26 (([v0, v1, v2, v3].drop 0).take (Try.prog.cellsOf 26)) = some x0 := hf 0 _ rfl
        have f1 : DataW.trod enc Try.prog W 0 spare held m 9 (([v0, v1, v2, v3].drop 3).take (Try.prog.cellsOf 9)) = some x1 := hf 1 _ rfl
        rw [cellsItem] at f0
        rw [cellsS] at f1
        obtain ⟨it, p, l, c, e2, hr, hw⟩ := item_of_trod (fun k' v y _ => items_of_trod k' v y) f0
        obtain ⟨s, e3, e4, hs⟩ := DataW.trod_string Try.underlying9 f1
        simp at e2 e3
        obtain ⟨rfl, rfl, rfl⟩ := e2
        subst e3
        have eb : Rows.uptoBulk (elems[i]'(by omega)).1 = Rows.uptoBulk x0.1 + (Rows.uptoBulk x1.1 + 0) + 1 := by rw [e1]; simp [Rows.uptoBulk, Rows.uptoBulkAll]
        have es : Rows.uptoBulk x1.1 = s.size + 1 := by rw [e4]; simp only [Rows.uptoBulk]; rfl
        refine ⟨(⟨it, s⟩, p, l, c), fun _ => ⟨?_, h4 1 (by omega), h4 2 (by omega), h4 3 (by omega), hr.mono (by omega), by show it.wt ≤ _; omega, by show s.size ≤ _; omega⟩⟩
        have := h4 0 (by omega); rw [addr_zero] at this; exact this
      · exact ⟨(⟨.mk false ⟨#[]⟩ [], ⟨#[]⟩⟩, none, 0, 0), fun h' => absurd h' hi⟩
    obtain ⟨f, hf⟩ : ∃ f : Nat → Q4 × Option Addr × Nat × Nat, ∀ i (h : i < len), W.cell? (a.add (i * 4)) = some (.bool (f i).1.it.list) ∧ W.cell? ((a.add (i * 4)).add 1) = some (.string (f i).1.it.text) ∧ W.cell? ((a.add (i * 4)).add 2) = some (.slice (f i).2.1 (f i).2.2.1 (f i).2.2.2) ∧ W.cell? ((a.add (i * 4)).add 3) = some (.string (f i).1.s) ∧ Rd W (k + 1) (f i).1.it.items (.slice (f i).2.1 (f i).2.2.1 (f i).2.2.2) ∧ (f i).1.it.wt ≤ Rows.uptoBulk (elems[i]'(by omega)).1 ∧ (f i).1.s.size ≤ Rows.uptoBulk (elems[i]'(by omega)).1 := ⟨fun i => Classical.choose (one i), fun i h => Classical.choose_spec (one i) h⟩
    refine ⟨(List.range len).map fun i => (f i).1, ⟨by simp; unfold maxLen at hm; omega, some a, cap, by simp, fun i hi => ?_⟩, fun q hq => ?_⟩
    · simp only [List.length_map, List.length_range] at hi
      obtain ⟨b, off, spot⟩ := a
      have hspot : spot = none := by
        have := (hf 0 (by omega)).1
        simp only [Nat.zero_mul, addr_zero] at this
        exact World.cell?_spot this
      subst hspot
      obtain ⟨h0, h1, h2, h3, h5, _⟩ := hf i hi
      simp only [Addr.add_lit] at h0 h1 h2 h3
      simp only [List.getElem_map, List.getElem_range]
      exact ⟨b, off, rfl, _, _, _, h0, h1, h2, h3, h5⟩
    · simp only [List.mem_map, List.mem_range] at hq
      obtain ⟨i, hi, rfl⟩ := hq
      have hle : ∀ (l : List (DataW H)) (i : Nat) (h : i < l.length), Rows.uptoBulk l[i] ≤ Rows.uptoBulkAll l := by
        intro l
        induction l with
        | nil => intro i h; simp at h
        | cons d l ih =>
          intro i h
          simp only [Rows.uptoBulkAll]
          cases i with
          | zero => simp
          | succ j => have := ih j (by simpa using h); simp; omega
      have := hle (elems.map (·.1)) i (by simp; omega)
      simp only [List.getElem_map] at this
      have h7 := (hf i hi).2.2.2.2.2
      simp only [Rows.uptoBulk]
      constructor <;> omega
end
end Go.Proofs.Ytliaegnhnnnojaa

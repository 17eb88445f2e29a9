import Derived.Test.YtljfenjpnanoiaaFrame
set_option linter.unusedSimpArgs false
set_option linter.unusedVariables false
namespace Go.Proofs.Ytljfenjpnanoiaa
open Go.ChangeShapes Go.WideShapes Go.ChangeAt Go.RowKit Go.Deep

/-! Questions (tarnlaw2.Ask): three numbers of 256 bits, three whole ones; lists of them. -/
structure AskD where
  a : Nat
  b : Nat
  c : Nat
  x : Int
  u : Int
  t : Int
def acells (q : AskD) : List Value := [.int .u64 (lb q.a 0), .int .u64 (lb q.a 1), .int .u64 (lb q.a 2), .int .u64 (lb q.a 3), .int .u64 (lb q.b 0), .int .u64 (lb q.b 1), .int .u64 (lb q.b 2), .int .u64 (lb q.b 3), .int .u64 (lb q.c 0), .int .u64 (lb q.c 1), .int .u64 (lb q.c 2), .int .u64 (lb q.c 3), .int .i64 q.x, .int .i64 q.u, .int .i64 q.t]
def I64 (n : Int) : Prop := -9223372036854775808 ≤ n ∧ n ≤ 9223372036854775807
structure AskOk (q : AskD) : Prop where
  a : q.a < M256
  b : q.b < M256
  c : q.c < M256
  x : I64 q.x
  u : I64 q.u
  t : I64 q.t
/-- A slice of these questions, in this world. -/
def Sa (w : World) (v : Value) (qs : List AskD) : Prop :=
  (∀ q ∈ qs, AskOk q) ∧ qs.length ≤ maxLen ∧ ∃ ad cap, v = .slice ad qs.length cap ∧ ∀ i (hi : i < qs.length), ∃ b off, ad = some ⟨b, off, none⟩ ∧ ∀ j, j < 15 → w.cell? ⟨b, off + i * 15 + j, none⟩ = (acells qs[i])[j]?
theorem cellsA : Try.prog.cellsOf 43 = 15 := by kernel_rfl
theorem cellsI : Try.prog.cellsOf 3 = 1 := by kernel_rfl
theorem i64_wf {x : Int} (h : (Lit.int .i64 x).wf = true) : I64 x := by
  have := bounds_i64 h
  unfold I64
  omega
theorem ask_of_trod {H : Type} {enc : TypeId × Value → H} {W : World} {base : Nat} {spare : Nat → Bool} {held : Bool} {n : Nat} {cs : List Value} {x : DataW H × List MemPlace}
    (h : DataW.trod enc Try.prog W base spare held n 43 cs = some x) : ∃ q, AskOk q ∧ cs = acells q := by
  obtain ⟨xs, k, _, _, hlen, hxl, hf⟩ := DataW.trod_struct Try.underlying43 h
  rw [cellsA] at hlen
  have hx : xs.length = 6 := hxl
  have g : ∀ i, i < 6 → xs[i]? = some xs[i]! := fun i hi => by rw [List.getElem?_eq_getElem (by omega), List.getElem!_eq_getElem?_getD, List.getElem?_eq_getElem (by omega)]; rfl
  have f0 : DataW.trod enc Try.prog W base spare held k 25 ((cs.drop 0).take (Try.prog.cellsOf 25)) = some xs[0]! := (hf 0 _ rfl).trans (g 0 (by omega))
  have f1 : DataW.trod enc Try.prog W base spare held k 25 ((cs.drop 4).take (Try.prog.cellsOf 25)) = some xs[1]! := (hf 1 _ rfl).trans (g 1 (by omega))
  have f2 : DataW.trod enc Try.prog W base spare held k 25 ((cs.drop 8).take (Try.prog.cellsOf 25)) = some xs[2]! := (hf 2 _ rfl).trans (g 2 (by omega))
  have f3 : DataW.trod enc Try.prog W base spare held k 3 ((cs.drop 12).take (Try.prog.cellsOf 3)) = some xs[3]! := (hf 3 _ rfl).trans (g 3 (by omega))
  have f4 : DataW.trod enc Try.prog W base spare held k 3 ((cs.drop 13).take (Try.prog.cellsOf 3)) = some xs[4]! := (hf 4 _ rfl).trans (g 4 (by omega))
  have f5 : DataW.trod enc Try.prog W base spare held k 3 ((cs.drop 14).take (Try.prog.cellsOf 3)) = some xs[5]! := (hf 5 _ rfl).trans (g 5 (by omega))
  rw [cells26] at f0 f1 f2
  rw [cellsI] at f3 f4 f5
  obtain ⟨a, ha, ea⟩ := num_of_trod f0
  obtain ⟨b, hb, eb⟩ := num_of_trod f1
  obtain ⟨c, hc, ec⟩ := num_of_trod f2
  obtain ⟨p, ep, _, wp⟩ := DataW.trod_int Try.underlying3 f3
  obtain ⟨q, eq, _, wq⟩ := DataW.trod_int Try.underlying3 f4
  obtain ⟨r, er, _, wr⟩ := DataW.trod_int Try.underlying3 f5
  refine ⟨⟨a, b, c, p, q, r⟩, ⟨ha, hb, hc, i64_wf wp, i64_wf wq, i64_wf wr⟩, ?_⟩
  have e : cs = four a ++ (four b ++ (four c ++ ([.int .i64 p] ++ ([.int .i64 q] ++ [.int .i64 r])))) := by
    rw [← ea, ← eb, ← ec, ← ep, ← eq, ← er]
    apply List.ext_getElem?
    intro i
    by_cases hi : i < 15
    · simp only [List.getElem?_append, List.length_take, List.length_drop, hlen, List.getElem?_take, List.getElem?_drop]
      have : i = 0 ∨ i = 1 ∨ i = 2 ∨ i = 3 ∨ i = 4 ∨ i = 5 ∨ i = 6 ∨ i = 7 ∨ i = 8 ∨ i = 9 ∨ i = 10 ∨ i = 11 ∨ i = 12 ∨ i = 13 ∨ i = 14 := by omega
      rcases this with rfl | rfl | rfl | rfl | rfl | rfl | rfl | rfl | rfl | rfl | rfl | rfl | rfl | rfl | rfl <;> simp
    · rw [List.getElem?_eq_none (by omega), List.getElem?_eq_none (by simp; omega)]
  rw [e]
  rfl
theorem sa_of_trod {H : Type} {enc : TypeId × Value → H} {W : World} {spare : Nat → Bool} {held : Bool} {fuel : Nat} {v : Value} {x : DataW H × List MemPlace}
    (h : DataW.trod enc Try.prog W 0 spare held fuel 41 [v] = some x) : ∃ qs, Sa W v qs := by
  rcases open_slice Try.underlying41 h with ⟨hc, _⟩ | ⟨a, len, cap, m, n, D, Pl, hc, _, hl, hm, hmm, _, hall⟩
  · simp at hc
    exact ⟨[], by simp, by simp [maxLen], none, 0, hc, fun i hi => by simp at hi⟩
  · simp at hc
    subst hc
    have hlm : len ≤ m := by rw [hmm]; split <;> omega
    rw [cellsA] at hall
    have one : ∀ i, ∃ k : AskD, i < len → AskOk k ∧ ∀ j, j < 15 → W.cell? ((a.add (i * 15)).add j) = (acells k)[j]? := by
      intro i
      by_cases hi : i < len
      · obtain ⟨cs, h1, h2⟩ := hall i (by omega)
        obtain ⟨k, hk, rfl⟩ := ask_of_trod h2
        obtain ⟨_, _, h3⟩ := World.cells?_some h1
        exact ⟨k, fun _ => ⟨hk, h3⟩⟩
      · exact ⟨⟨0, 0, 0, 0, 0, 0⟩, fun h' => absurd h' hi⟩
    obtain ⟨f, hf⟩ : ∃ f : Nat → AskD, ∀ i, i < len → AskOk (f i) ∧ ∀ j, j < 15 → W.cell? ((a.add (i * 15)).add j) = (acells (f i))[j]? := ⟨fun i => Classical.choose (one i), fun i => Classical.choose_spec (one i)⟩
    refine ⟨(List.range len).map f, ?_, by simp; omega, some a, cap, by simp, ?_⟩
    · intro k hk
      simp only [List.mem_map, List.mem_range] at hk
      obtain ⟨i, hi, rfl⟩ := hk
      exact (hf i hi).1
    · intro i hi
      simp only [List.length_map, List.length_range] at hi
      obtain ⟨b, off, spot⟩ := a
      have hspot : spot = none := by
        have := (hf 0 (by omega)).2 0 (by omega)
        have h9 : W.cell? ⟨b, off, spot⟩ = some (.int .u64 (lb (f 0).a 0)) := by simpa [Addr.add, acells] using this
        exact World.cell?_spot h9
      subst hspot
      refine ⟨b, off, rfl, fun j hj => ?_⟩
      have h7 := (hf i hi).2 j hj
      have hadd : ((⟨b, off, none⟩ : Addr).add (i * 15)).add j = ⟨b, off + i * 15 + j, none⟩ := by
        unfold Addr.add
        split <;> split <;> simp_all
      rw [hadd] at h7
      rw [h7]
      simp
end Go.Proofs.Ytljfenjpnanoiaa

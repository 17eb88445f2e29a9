import Derived.Test.YtnhmhedabdmnbaaBlR
import Derived.Test.YtnhmhedabdmnbaaMkS
set_option linter.unusedSimpArgs false
set_option linter.unusedVariables false
namespace Go.Proofs.Ytnhmhedabdmnbaa
open Go.RowKit

/-! Questions (tarnlaw6.Ask): hashes, blobs, a number; lists of them. -/
structure Q6 where
  hl : Nat
  g : Nat → Nat
  n : Nat
  f : Nat → ByteArray
  k : Int
def Sq6 (w : World) (v : Value) (qs : List Q6) : Prop :=
  qs.length ≤ 9223372036854775807 ∧ ∃ ad cap, v = .slice ad qs.length cap ∧ ∀ i (hi : i < qs.length), ∃ b off, ad = some ⟨b, off, none⟩ ∧ ∃ aH cH aB cB,
    w.cell? ⟨b, off + i * 3, none⟩ = some (.slice aH qs[i].hl cH) ∧ w.cell? ⟨b, off + i * 3 + 1, none⟩ = some (.slice aB qs[i].n cB) ∧ w.cell? ⟨b, off + i * 3 + 2, none⟩ = some (.int .i64 qs[i].k) ∧
    Su w (.slice aH qs[i].hl cH) qs[i].g qs[i].hl ∧ Ss w (.slice aB qs[i].n cB) qs[i].f qs[i].n ∧ -9223372036854775808 ≤ qs[i].k ∧ qs[i].k ≤ 9223372036854775807
theorem Sq6.below {w w' : World} {v : Value} {qs : List Q6} (h : Sq6 w v qs) (hb : Below w.heap.size w w') : Sq6 w' v qs := by
  obtain ⟨h1, ad, cap, hv, h2⟩ := h
  refine ⟨h1, ad, cap, hv, fun i hi => ?_⟩
  obtain ⟨b, off, ha, aH, cH, aB, cB, c0, c1, c2, s0, s1, h3⟩ := h2 i hi
  exact ⟨b, off, ha, aH, cH, aB, cB, (hb.cell (cell_lt' c0)).trans c0, (hb.cell (cell_lt' c1)).trans c1, (hb.cell (cell_lt' c2)).trans c2, s0.below hb, s1.below hb, h3⟩
theorem Ss.at {w : World} {ad : Option Addr} {cap : Nat} {f : Nat → ByteArray} {len i : Nat} (h : Ss w (.slice ad len cap) f len) (hi : i < len) : (f i).size ≤ maxLen ∧ ∃ b off, ad = some ⟨b, off, none⟩ ∧ w.cell? ⟨b, off + i, none⟩ = some (.string (f i)) := by
  obtain ⟨h1, h2, a, c, hv, h3⟩ := h
  simp at hv
  obtain ⟨rfl, rfl⟩ := hv
  exact ⟨h2 i hi, h3 i hi⟩
theorem num6 (n : Int) (w : World) : Calls Try.prog 7 #[.int .i64 n] w fun e w' => e = .returned (.int .i64 n) ∧ w' = w := by
  go_enter Try.func7, Try.ntmps7
  go_wp2
  go_ret
  exact ⟨rfl, rfl⟩
theorem wakes6 (w : World) : Calls Try.prog 12 #[] w fun e w' => e = .returned (.bool true) ∧ w' = w := by
  have HG : Hid (∀ w, Calls Try.prog 11 #[.int .i64 2] w fun e w' => e = .returned (.tuple #[.int .i64 262144, .int .i64 0]) ∧ w' = w) := fun w => gas 2 w
  go_enter Try.func12, Try.ntmps12
  go_wp2_with fail
  refine (HG.out _).mono ?_
  rintro e w1 ⟨rfl, rfl⟩
  go_wp2_with (go_at_call 7; refine (num6 _ _).mono ?_; rintro e w1 ⟨rfl, rfl⟩)
  go_ret
  exact ⟨rfl, rfl⟩
/-- Whatever hashes and blobs: both tell the same. -/
theorem fits_any (hl n : Nat) (aH aB : Option Addr) (cH cB : Nat) (g : Nat → Nat) (f : Nat → ByteArray) (w : World) (h1 : Su w (.slice aH hl cH) g hl) (h2 : Ss w (.slice aB n cB) f n) :
    Calls Try.prog 9 #[.slice aH hl cH, .slice aB n cB] w fun e w' => e = .returned (.int .i64 (fitE hl n g f)) ∧ Below w.heap.size w w' := by
  obtain ⟨l1, _, a1, c1, e1, h1⟩ := h1
  obtain ⟨l2, _, a2, c2, e2, h2⟩ := h2
  unfold maxLen at l1 l2
  simp at e1 e2
  obtain ⟨rfl, rfl⟩ := e1
  obtain ⟨rfl, rfl⟩ := e2
  by_cases h : cnts n = true ∧ hl = n
  · obtain ⟨hc, rfl⟩ := h
    exact fits_go hl aH aB cH cB g f w hc h1 h2
  · exact fits_no hl n aH aB cH cB g f w h (by omega) (by omega)
theorem rfits_any (hl n : Nat) (aH aB : Option Addr) (cH cB : Nat) (g : Nat → Nat) (f : Nat → ByteArray) (w : World) (h1 : Su w (.slice aH hl cH) g hl) (h2 : Ss w (.slice aB n cB) f n) :
    Calls Try.prog 10 #[.slice aH hl cH, .slice aB n cB] w fun e w' => e = .returned (.int .i64 (fitE hl n g f)) ∧ Below w.heap.size w w' := by
  obtain ⟨l1, _, a1, c1, e1, h1⟩ := h1
  obtain ⟨l2, _, a2, c2, e2, h2⟩ := h2
  unfold maxLen at l1 l2
  simp at e1 e2
  obtain ⟨rfl, rfl⟩ := e1
  obtain ⟨rfl, rfl⟩ := e2
  by_cases h : cnts n = true ∧ hl = n
  · obtain ⟨hc, rfl⟩ := h
    exact rfits_go hl aH aB cH cB g f w hc h1 h2
  · exact (rfits_no hl n aH aB cH cB g f w h (by omega) (by omega)).mono fun e w' h => ⟨h.1, by rw [h.2]; exact Below.refl _ _⟩
end Go.Proofs.Ytnhmhedabdmnbaa

import Derived.Test.YtliaegnhnnnojaaFnd
import Derived.Test.YtliaegnhnnnojaaRHd
set_option linter.unusedSimpArgs false
set_option linter.unusedVariables false
namespace Go.Proofs.Ytliaegnhnnnojaa
open Go.RowKit

/-! Which item bytes begin with, in plain data. -/
abbrev TR := IT × Nat × Nat
def zIT : IT := .mk false ⟨#[]⟩ []
/-- All items of some bytes from a place on. -/
def tkAt (f : ByteArray → TR) (s : ByteArray) : Nat → Nat → Option (List IT)
  | 0, p => if s.size ≤ p then some [] else none
  | m + 1, p => if s.size ≤ p then some [] else if (f (s.extract p s.size)).2.2 = 0 then (tkAt f s m (p + (f (s.extract p s.size)).2.1)).map ((f (s.extract p s.size)).1 :: ·) else none
def tkAll (f : ByteArray → TR) (s : ByteArray) : Option (List IT) := tkAt f s s.size 0
def tk : Nat → ByteArray → TR
  | 0, s => if (fnd s).2.2.2 ≠ 0 then (zIT, 0, (fnd s).2.2.2) else if (fnd s).1 = false then (.mk false (s.extract (fnd s).2.1 (fnd s).2.2.1) [], (fnd s).2.2.1, 0) else (zIT, 0, 1)
  | r + 1, s => if (fnd s).2.2.2 ≠ 0 then (zIT, 0, (fnd s).2.2.2) else if (fnd s).1 = false then (.mk false (s.extract (fnd s).2.1 (fnd s).2.2.1) [], (fnd s).2.2.1, 0) else
      match tkAll (tk r) (s.extract (fnd s).2.1 (fnd s).2.2.1) with
      | none => (zIT, 0, 1)
      | some xs => (.mk true ⟨#[]⟩ xs, (fnd s).2.2.1, 0)
/-- A reading goes on by one byte at least, and no further than there are. -/
def Prog1 (f : ByteArray → TR) : Prop := ∀ s, (f s).2.2 = 0 → 1 ≤ (f s).2.1 ∧ (f s).2.1 ≤ s.size
theorem fin_ok (s : ByteArray) (L : Bool) (f n : Nat) (hf : 1 ≤ f) (h : (fin s L f n).2.2.2 = 0) : (fin s L f n).2.1 = f ∧ (fin s L f n).2.2.1 = f + n ∧ f + n ≤ s.size ∧ f + n ≤ 65536 ∧ (fin s L f n).1 = L := by
  unfold fin at *
  split at h
  · simp at h
  · split at h
    · simp at h
    · split at h
      · simp at h
      · next h1 h2 h3 => rw [if_neg h1, if_neg h2, if_neg h3]; exact ⟨rfl, rfl, by omega, by omega, rfl⟩
theorem fnd_ok (s : ByteArray) (h : (fnd s).2.2.2 = 0) : (fnd s).2.1 ≤ (fnd s).2.2.1 ∧ 1 ≤ (fnd s).2.2.1 ∧ (fnd s).2.2.1 ≤ s.size ∧ (fnd s).2.2.1 ≤ 65536 := by
  unfold fnd at *
  generalize (if 192 ≤ hd0 s then 192 else 128) = B at *
  generalize decide (192 ≤ hd0 s) = L at *
  by_cases h0 : s.size = 0
  · rw [if_pos h0] at h; simp at h
  rw [if_neg h0] at h ⊢
  by_cases h1 : hd0 s < 128
  · rw [if_pos h1] at h ⊢; simp; omega
  rw [if_neg h1] at h ⊢
  by_cases h2 : hd0 s - B ≤ 55
  · rw [if_pos h2] at h ⊢
    have := fin_ok _ _ _ _ (by omega) h
    omega
  rw [if_neg h2] at h ⊢
  by_cases h3 : s.size < 1 + (hd0 s - B - 55)
  · rw [if_pos h3] at h; simp at h
  rw [if_neg h3] at h ⊢
  by_cases h4 : tlGood (s.extract 1 (1 + (hd0 s - B - 55))) = true
  · rw [if_pos h4] at h ⊢
    have := fin_ok _ _ _ _ (by omega) h
    omega
  · rw [if_neg h4] at h; simp at h
theorem tk_prog : ∀ r, Prog1 (tk r)
  | 0 => fun s h => by
    unfold tk at *
    split at h
    · next h1 => simp at h; exact absurd h h1
    · next h1 =>
      rw [if_neg h1]
      have := fnd_ok s (by omega)
      split at h
      · next h2 => rw [if_pos h2]; exact ⟨this.2.1, this.2.2.1⟩
      · simp at h
  | r + 1 => fun s h => by
    unfold tk at *
    split at h
    · next h1 => simp at h; exact absurd h h1
    · next h1 =>
      rw [if_neg h1]
      have := fnd_ok s (by omega)
      split at h
      · next h2 => rw [if_pos h2]; exact ⟨this.2.1, this.2.2.1⟩
      · next h2 =>
        rw [if_neg h2]
        split at h
        · simp at h
        · exact ⟨this.2.1, this.2.2.1⟩
/-- Enough rounds are enough. -/
theorem tkAt_fuel {f : ByteArray → TR} (hf : Prog1 f) (s : ByteArray) : ∀ (m m' p : Nat), s.size - p ≤ m → s.size - p ≤ m' → tkAt f s m p = tkAt f s m' p := by
  intro m
  induction m with
  | zero =>
    intro m' p h h'
    have hp : s.size ≤ p := by omega
    cases m' <;> simp [tkAt, hp]
  | succ m ih =>
    intro m' p h h'
    by_cases hp : s.size ≤ p
    · cases m' <;> simp [tkAt, hp]
    · cases m' with
      | zero => omega
      | succ m' =>
        simp only [tkAt, if_neg hp]
        split
        · next he =>
          have := hf _ he
          rw [ih m' _ (by omega) (by omega)]
        · rfl
/-- So far it was read, up to this place. -/
inductive Rn (f : ByteArray → TR) (s : ByteArray) : List IT → Nat → Prop
  | nil : Rn f s [] 0
  | snoc {xs : List IT} {p : Nat} (h : Rn f s xs p) (hp : p < s.size) (he : (f (s.extract p s.size)).2.2 = 0) : Rn f s (xs ++ [(f (s.extract p s.size)).1]) (p + (f (s.extract p s.size)).2.1)
theorem Rn.at {f : ByteArray → TR} (hf : Prog1 f) {s : ByteArray} {xs : List IT} {p : Nat} (h : Rn f s xs p) : tkAll f s = (tkAt f s s.size p).map (xs ++ ·) := by
  induction h with
  | nil => simp [tkAll]
  | @snoc xs p h hp he ih =>
    rw [ih]
    have h1 := hf _ he
    have e : s.size = (s.size - 1) + 1 := by omega
    have e2 : tkAt f s s.size p = (tkAt f s s.size (p + (f (s.extract p s.size)).2.1)).map ((f (s.extract p s.size)).1 :: ·) := by
      rw [tkAt_fuel hf s s.size (s.size + 1) p (by omega) (by omega)]
      conv => lhs; rw [tkAt, if_neg (by omega), if_pos he]
    rw [e2, Option.map_map]
    congr 1
    funext l
    simp
theorem Rn.le {f : ByteArray → TR} (hf : Prog1 f) {s : ByteArray} {xs : List IT} {p : Nat} (h : Rn f s xs p) : p ≤ s.size := by
  induction h with
  | nil => omega
  | @snoc xs p h hp he ih =>
    have h1 := hf _ he
    have : (s.extract p s.size).size = s.size - p := by rw [ByteArray.size_extract]; omega
    omega
theorem Rn.len {f : ByteArray → TR} (hf : Prog1 f) {s : ByteArray} {xs : List IT} {p : Nat} (h : Rn f s xs p) : xs.length ≤ p := by
  induction h with
  | nil => simp
  | @snoc xs p h hp he ih =>
    have h1 := hf _ he
    simp; omega
theorem Rn.done {f : ByteArray → TR} (hf : Prog1 f) {s : ByteArray} {xs : List IT} {p : Nat} (h : Rn f s xs p) (hp : s.size ≤ p) : tkAll f s = some xs := by
  rw [h.at hf]
  cases hs : s.size <;> simp [tkAt, hp, hs] <;> omega
theorem Rn.fail {f : ByteArray → TR} (hf : Prog1 f) {s : ByteArray} {xs : List IT} {p : Nat} (h : Rn f s xs p) (hp : p < s.size) (he : (f (s.extract p s.size)).2.2 ≠ 0) : tkAll f s = none := by
  rw [h.at hf]
  have e : s.size = (s.size - 1) + 1 := by omega
  rw [tkAt_fuel hf s s.size (s.size + 1) p (by omega) (by omega)]
  conv => lhs; rw [tkAt, if_neg (by omega), if_neg he]
  rfl
end Go.Proofs.Ytliaegnhnnnojaa

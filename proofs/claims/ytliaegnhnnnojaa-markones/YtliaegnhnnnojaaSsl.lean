import Derived.Test.YtliaegnhnnnojaaMkX
set_option linter.unusedSimpArgs false
set_option linter.unusedVariables false
namespace Go.Proofs.Ytliaegnhnnnojaa
open Go.RowKit

theorem cell_lt' {w : World} {a : Addr} {v : Value} (h : w.cell? a = some v) : a.block < w.heap.size := World.block_lt_of_cell? w a h
/-- A slice of strings, as the walk reads it. -/
def Ss (w : World) (v : Value) (f : Nat → ByteArray) (len : Nat) : Prop :=
  len ≤ maxLen ∧ (∀ i, i < len → (f i).size ≤ maxLen) ∧ ∃ ad cap, v = .slice ad len cap ∧ ∀ i, i < len → ∃ b off, ad = some ⟨b, off, none⟩ ∧ w.cell? ⟨b, off + i, none⟩ = some (.string (f i))
theorem mk_empty : mk ⟨#[]⟩ = 14695981039346656037 := by show mkf [] = _; exact mkf_nil
theorem wakes5 (w : World) : Calls Try.prog 29 #[] w fun e w' => e = .returned (.bool true) ∧ Below w.heap.size w w' := by
  have hm := fun w => mark ⟨#[]⟩ (by show 0 ≤ _; omega) w
  rw [mk_empty] at hm
  go_enter Try.func29, Try.ntmps29
  go_wp2_with (go_at_call 23; refine (hm _).mono ?_; rintro e w1 ⟨rfl, hb1⟩)
  go_ret
  exact ⟨rfl, hb1⟩
theorem takeV_mbs (m : Nat) (h : m < 18446744073709551616) : takeV (mbs m) = m := by
  have e : ∀ j, (UInt8.ofNat (mb m j)).toNat = mb m j := fun j => by have := mb_lt m j; simp; omega
  simp only [takeV, mbs, List.foldl_cons, List.foldl_nil, e]
  unfold mb
  omega
theorem mtV_mbs (m : Nat) (h : m < 18446744073709551616) : mtV ⟨(mbs m).toArray⟩ = m := by
  unfold mtV
  rw [if_pos (show ByteArray.size ⟨(mbs m).toArray⟩ = 8 from rfl)]
  exact takeV_mbs m h
end Go.Proofs.Ytliaegnhnnnojaa

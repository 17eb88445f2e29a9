import Derived.Test.YtliaegnhnnnojaaBits
import Derived.Deep.OwnRows
import Derived.Laws.BytesArg
set_option linter.unusedSimpArgs false
set_option linter.unusedVariables false
namespace Go.Proofs.Ytliaegnhnnnojaa
open Go.RowKit

/-! A number's bytes. -/
def by8 (n i : Nat) : Int := ((n / 2 ^ (8 * i) % 256 : Nat) : Int)
def tlen (n : Nat) : Nat := (bl n + 7) / 8
def tnums (n : Nat) : List Int := (List.range (tlen n)).map fun p => by8 n (tlen n - 1 - p)
def tpart (n k : Nat) : List Int := (List.range (tlen n)).map fun p => if tlen n - 1 - p < k then by8 n (tlen n - 1 - p) else 0
theorem tlen_le (n : Nat) (h : n < M256) : tlen n ≤ 32 := by
  have : bl n ≤ 256 := (bl_iff n 256).2 (by unfold M256 at h; simpa using h)
  unfold tlen; omega
theorem info5 : (Try.prog.info? 5).map (fun i => (i.zero, i.size, i.bytes)) = some (some (.int .u8 0), 1, 1) := by kernel_rfl
def tarr (n k : Nat) : Array Value := ((tpart n k).map (Value.int .u8)).toArray
theorem tarr_zero (n : Nat) : tarr n 0 = madeCells #[.int .u8 0] (tlen n) := by
  apply Array.ext
  · simp [tarr, tpart, madeCells]
  · intro i h1 h2
    simp [tarr, tpart, madeCells, Nat.mod_one]
theorem tpart_get (n k p : Nat) (hp : p < tlen n) : (tpart n k)[p]? = some (if tlen n - 1 - p < k then by8 n (tlen n - 1 - p) else 0) := by
  simp [tpart, hp]
theorem tarr_get (n k p : Nat) (hp : p < tlen n) : (tarr n k)[p]? = some (.int .u8 (if tlen n - 1 - p < k then by8 n (tlen n - 1 - p) else 0)) := by
  simp only [tarr, List.getElem?_toArray, List.getElem?_map, tpart_get n k p hp, Option.map_some]
theorem tarr_set (n k : Nat) (hk : k < tlen n) : (tarr n k).setIfInBounds (tlen n - 1 - k) (.int .u8 (by8 n k)) = tarr n (k + 1) := by
  apply Array.ext_getElem?
  intro i
  rw [Array.getElem?_setIfInBounds]
  have hs : (tarr n k).size = tlen n := by simp [tarr, tpart]
  have hs' : (tarr n (k + 1)).size = tlen n := by simp [tarr, tpart]
  by_cases hi : i < tlen n
  · rw [tarr_get n (k + 1) i hi]
    split
    · next e =>
      subst e
      rw [if_pos (by omega)]
      have e1 : tlen n - 1 - (tlen n - 1 - k) = k := by omega
      rw [e1, if_pos (by omega)]
    · next e =>
      rw [tarr_get n k i hi]
      congr 2
      by_cases c : tlen n - 1 - i < k
      · rw [if_pos c, if_pos (by omega)]
      · rw [if_neg c, if_neg (by omega)]
  · rw [Array.getElem?_eq_none (by omega)]
    have hn' : (tarr n (k + 1))[i]? = none := Array.getElem?_eq_none (by omega)
    rw [hn']
    split
    · next e => rw [if_neg (by omega)]
    · rfl
theorem tpart_end (n : Nat) : tpart n (tlen n) = tnums n := by
  unfold tpart tnums
  apply List.map_congr_left
  intro p hp
  rw [List.mem_range] at hp
  rw [if_pos (by omega)]
theorem tnums_length (n : Nat) : (tnums n).length = tlen n := by simp [tnums]
theorem tnums_cell (n i : Nat) (hi : i < tlen n) : (tarr n (tlen n))[i]? = some (.int .u8 ((tnums n).getD i 0)) := by
  rw [tarr_get n _ i hi, if_pos (by omega)]
  simp [tnums, List.getD, hi]
theorem by8_eq (n k : Nat) (hk : k < 32) : lb n (k / 8) / 2 ^ (8 * (k % 8)) % 256 = by8 n k := by
  unfold lb by8
  have e : 8 * k = 64 * (k / 8) + 8 * (k % 8) := by omega
  rw [e, Nat.pow_add, ← Nat.div_div_eq_div_mul]
  generalize n / 2 ^ (64 * (k / 8)) = m
  have h8 : k % 8 < 8 := Nat.mod_lt _ (by omega)
  generalize k % 8 = r at h8
  have : r = 0 ∨ r = 1 ∨ r = 2 ∨ r = 3 ∨ r = 4 ∨ r = 5 ∨ r = 6 ∨ r = 7 := by omega
  rcases this with rfl | rfl | rfl | rfl | rfl | rfl | rfl | rfl <;> simp only [Nat.reduceMul, Nat.reducePow, Int.reducePow, Nat.mul_zero, Nat.pow_zero, Int.pow_zero, Nat.div_one] <;> omega
set_option maxHeartbeats 1000000 in
theorem text (n : Nat) (hn : n < M256) (w : World) :
    Calls Try.prog 56 #[V n] w fun e w' => e = .returned (.string (strOfNums (tnums n))) ∧ Below w.heap.size w w' := by
  have HN : Hid (n < M256) := hn
  have hL := tlen_le n hn
  have hbl : bl n ≤ 256 := (bl_iff n 256).2 (by unfold M256 at hn; simpa using hn)
  clear hn
  have hmk := fun w => run_make_row' (P := Try.prog) 45 5 (.int .u8 0) 1 Try.underlying45 info5 rfl .i64 .i64 (tlen n) (by omega) (by omega) w
  have hdiv : ((bl n : Int) + 7) / 8 = (tlen n : Int) := by unfold tlen; omega
  go_enter Try.func56, Try.ntmps56
  go_wp2_with (go_at_call 64; refine (bits n HN.out _).mono ?_; rintro e w1 ⟨rfl, hb1⟩)
  clear hmk hdiv
  have hsz := hb1.size
  simp only [World.size_alloc] at hsz hb1
  have hA : Bk w1 w.heap.size (A4 (lb n 0) (lb n 1) (lb n 2) (lb n 3)) 93 := (Bk.new _ _ _).below hb1 (by omega)
  have hb0 : Below w.heap.size w w1 := ((Below.refl _ _).alloc (Nat.le_refl _) _).trans (hb1.mono (by omega))
  clear hb1
  go_loopw [12] (fun i wr => ∃ k : Nat, k ≤ tlen n ∧ i = .int .i64 k ∧ Bk wr w.heap.size (A4 (lb n 0) (lb n 1) (lb n 2) (lb n 3)) 93 ∧ Bk wr w1.heap.size (tarr n k) 5 ∧ Below w.heap.size w wr) (fun i _ => tlen n - (intOf i).toNat)
  case atStart =>
    exact ⟨0, by omega, rfl, hA.alloc _, by rw [tarr_zero]; exact Bk.new _ _ _, hb0.alloc (by omega) _⟩
  case round =>
    clear hA hb0
    obtain ⟨k, hk, rfl, ha, hx, hbl0⟩ := hrel
    by_cases hlt : k < tlen n
    · have hak := lb_cells ha (k / 8) (by omega)
      have hxk := (hx.cell (tlen n - 1 - k)).trans (tarr_get n k (tlen n - 1 - k) (by omega))
      have hxf := hx.frozen (tlen n - 1 - k)
      have st := tarr_set n k hlt
      rw [← by8_eq n k (by omega)] at st
      go_wp2
      go_roundw
      case rel => exact ⟨k + 1, by omega, by go_num, ha.other (by simp; omega) _, hx.set _ _ st, hbl0.setCell (by simp; omega) _⟩
      case measure => simp [intOf]; omega
    · obtain rfl : k = tlen n := by omega
      have hcv := run_convert_bytes_arg (P := Try.prog) wr 45 5 Try.underlying45 Try.underlying5 w1.heap.size 0 (tlen n) (tlen n) (tnums n) (tnums_length n) (fun i hi => by rw [Nat.zero_add, hx.cell]; exact tnums_cell n i hi) 9 Try.underlying9
      go_wp2
      go_ret
      exact ⟨rfl, hbl0⟩
end Go.Proofs.Ytliaegnhnnnojaa

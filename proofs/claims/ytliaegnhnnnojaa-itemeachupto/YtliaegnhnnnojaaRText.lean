import Derived.Test.YtliaegnhnnnojaaSml
import Derived.Test.YtliaegnhnnnojaaSls
set_option linter.unusedSimpArgs false
set_option linter.unusedVariables false
namespace Go.Proofs.Ytliaegnhnnnojaa
open Go.RowKit

/-- A number's highest byte is not 0. -/
theorem top_byte (n : Nat) (h : n ≠ 0) : 0 < tlen n ∧ by8 n (tlen n - 1) ≠ 0 := by
  have hb : bl n ≠ 0 := by unfold bl; rw [if_neg h]; omega
  have ht : 0 < tlen n := by unfold tlen; omega
  refine ⟨ht, ?_⟩
  have h1 : n < 2 ^ (8 * tlen n) := (bl_iff n _).1 (by unfold tlen; omega)
  have h2 : ¬ n < 2 ^ (8 * (tlen n - 1)) := by rw [← bl_iff]; unfold tlen; omega
  have h3 : n / 2 ^ (8 * (tlen n - 1)) < 256 := by
    rw [Nat.div_lt_iff_lt_mul (Nat.two_pow_pos _)]
    have e : 8 * tlen n = 8 + 8 * (tlen n - 1) := by omega
    rw [e, Nat.pow_add] at h1
    exact h1
  have h4 : 1 ≤ n / 2 ^ (8 * (tlen n - 1)) := (Nat.le_div_iff_mul_le (Nat.two_pow_pos _)).2 (by omega)
  unfold by8
  generalize n / 2 ^ (8 * (tlen n - 1)) = q at *
  omega
theorem high_byte (n i : Nat) (h : tlen n ≤ i) : by8 n i = 0 := by
  have h1 : n < 2 ^ (8 * tlen n) := (bl_iff n _).1 (by unfold tlen; omega)
  have h2 : (2 : Nat) ^ (8 * tlen n) ≤ 2 ^ (8 * i) := Nat.pow_le_pow_right (by omega) (by omega)
  have h3 : n < 2 ^ (8 * i) := by omega
  unfold by8
  rw [Nat.div_eq_of_lt h3]
  rfl
theorem tnums_take (n i : Nat) (h : i < tlen n) : (tnums n).take (tlen n - i) = (tnums n).take (tlen n - (i + 1)) ++ [by8 n i] := by
  have e : tlen n - i = tlen n - (i + 1) + 1 := by omega
  rw [e, List.take_succ_eq_append_getElem (by rw [tnums_length]; omega)]
  congr 2
  simp only [tnums, List.getElem_map, List.getElem_range]
  congr 1
  omega
theorem own_kept {w w' : World} {b : Nat} {vs : Array Value} {t : TypeId} {row : Option Nat} (h : Bk w b vs t) (hg : w.grownBy w' row) (hl : b < w.heap.size) (hr : some b ≠ row) : Bk w' b vs t :=
  (hg.block b hl hr).trans h
set_option maxRecDepth 100000 in
set_option maxHeartbeats 1000000 in
theorem rtext (n : Nat) (hn : n < M256) (w : World) :
    Calls Try.prog 65 #[V n] w fun e w' => e = .returned (.string (strOfNums (tnums n))) ∧ Below w.heap.size w w' := by
  have hL := tlen_le n hn
  have HL := tnums_length n
  have HN : Hid (n < M256) := hn
  clear hn
  obtain ⟨i0, hi, hz0, hz1, hz2⟩ := info_of info5
  go_enter Try.func65, Try.ntmps65
  go_wp2
  go_loopw [3, 4] (fun b i wr => ∃ (k : Nat), k ≤ 32 ∧ i = .int .i64 ((k : Int) - 1) ∧ Bk wr w.heap.size (A4 (lb n 0) (lb n 1) (lb n 2) (lb n 3)) 93 ∧ wr.ownsRow (w.heap.size + 1) 5 1 b (tlen n - k) (((tnums n).take (tlen n - k)).map (Value.int .u8)) ∧ Below w.heap.size w wr) (fun _ i _ => (intOf i + 1).toNat)
  case atStart =>
    have e : tlen n - 32 = 0 := by omega
    refine ⟨32, by omega, rfl, Bk.new _ _ _, ?_, (Below.refl _ _).alloc (Nat.le_refl _) _⟩
    rw [e]
    exact ⟨rfl, .inl ⟨rfl, rfl⟩⟩
  case round =>
    obtain ⟨k, hk, rfl, ha, hown, hbl⟩ := hrel
    have hsz := ha.lt
    have hsz2 := hbl.size
    cases k with
    | zero =>
      rw [Nat.sub_zero, List.take_of_length_le (by omega)] at hown
      rcases hown.2 with ⟨rfl, hz⟩ | ⟨g, cap, cur, rfl, hg, hh, h4, h5, h6, h7⟩
      · have hcv := run_convert_bytes_nil (P := Try.prog) wr 45 5 Try.underlying45 Try.underlying5 0 0 9 Try.underlying9
        go_wp2
        go_ret
        refine ⟨?_, hbl⟩
        have : tnums n = [] := List.length_eq_zero_iff.1 (by omega)
        rw [this]; rfl
      · have hcv := run_convert_bytes_arg (P := Try.prog) wr 45 5 Try.underlying45 Try.underlying5 g 0 (tlen n) cap (tnums n) (tnums_length n) (fun i hi => by
          rw [Nat.zero_add]
          have h8 : (cur.toList.take (tlen n * 1))[i]? = some (Value.int .u8 ((tnums n).getD i 0)) := by
            rw [h7, List.getElem?_map, List.getElem?_eq_getElem (by omega), List.getD_eq_getElem?_getD, List.getElem?_eq_getElem (by omega)]
            rfl
          rw [List.getElem?_take] at h8
          split at h8
          · simp only [World.cell?, hh]; simpa using h8
          · simp at h8) 9 Try.underlying9
        go_wp2
        go_ret
        exact ⟨rfl, hbl⟩
    | succ i =>
      have hak := lb_cells ha (i / 8) (by omega)
      have hbe := by8_eq n i (by omega)
      have e : ((i + 1 : Nat) : Int) - 1 = (i : Int) := by omega
      rw [e]
      clear e
      generalize hX : lb n (i / 8) / 2 ^ (8 * (i % 8)) % 256 = X at hbe
      have HX := hX
      by_cases hit : i < tlen n
      · have hst := tnums_take n i hit
        rw [← hbe] at hst
        have HST : Hid (_ = _) := hst
        have hor : (X != 0) = true ∨ (X != 0) = false ∧ (0 : Int) < ((tlen n - (i + 1) : Nat) : Int) := by
          by_cases e : i = tlen n - 1
          · left
            have h0 : n ≠ 0 := by rintro rfl; simp [tlen, bl] at hit
            have := (top_byte n h0).2
            rw [← e, ← hbe] at this
            simpa using this
          · cases hb : (X != 0)
            · right; exact ⟨rfl, by omega⟩
            · left; rfl
        clear hst hbe HL HX
        obtain ⟨ad, cap, rfl⟩ : ∃ ad cap, u3 = Value.slice ad (tlen n - (i + 1)) cap := by
          rcases hown.2 with ⟨rfl, hz⟩ | ⟨g, cap, cur, rfl, _⟩
          · exact ⟨none, 0, by rw [hz]⟩
          · exact ⟨_, cap, rfl⟩
        rcases hor with hx1 | ⟨hx1, hx2⟩
        all_goals
          go_wp2_with (at_builtin; refine wpList_append_own _ rfl _ _ 45 rfl (w.heap.size + 1) 5 i0 (.int .u8 0) 1 1 Try.underlying45 hi hz0 hz1 hz2 rfl (by decide) _ (tlen n - (i + 1)) _ rfl (hown.alloc _) ⟨wr.heap.size, 0, none⟩ 1 1 [.int .u8 X] rfl rfl (cell_one_new _ _ _) (by simp [Value.oneCell']) (by unfold maxLen; omega) (by omega) (by simp; omega) ?_; intro v1 w1 hown1 hgrow1 hnil1)
          go_roundw
          case rel =>
            refine ⟨i, by omega, rfl, ?_, ?_, ?_⟩
            · exact own_kept (ha.alloc _) hgrow1 (by simp; omega) (fun e => by have := owns_ge hown e.symm; omega)
            · rw [HST.out, List.map_append, show tlen n - i = tlen n - (i + 1) + 1 by omega]
              exact hown1
            · exact (hbl.alloc hsz2 _).grown hgrow1 (by simp; omega) (fun j hj => by have := owns_ge hown hj; omega)
          case measure => simp [intOf]
      · have hX0 : X = 0 := by rw [hbe]; exact high_byte n i (by omega)
        subst hX0
        have e0 : tlen n - (i + 1) = 0 := by omega
        rw [e0] at hown
        clear hbe HL HX
        obtain ⟨ad, cap, rfl⟩ : ∃ ad cap, u3 = Value.slice ad 0 cap := by
          rcases hown.2 with ⟨rfl, hz⟩ | ⟨g, cap, cur, rfl, _⟩
          · exact ⟨none, 0, rfl⟩
          · exact ⟨_, cap, rfl⟩
        go_wp2
        go_roundw
        case rel => exact ⟨i, by omega, rfl, ha, by rw [show tlen n - i = 0 by omega]; exact hown, hbl⟩
        case measure => simp [intOf]
end Go.Proofs.Ytliaegnhnnnojaa

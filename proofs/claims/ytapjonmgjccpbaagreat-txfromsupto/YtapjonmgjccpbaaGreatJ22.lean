/- Texts joined: RText. -/
import Derived.Test.YtapjonmgjccpbaaGreatJ16
section
set_option linter.unusedSimpArgs false
set_option linter.unusedVariables false
namespace Go.Proofs.YtapjonmgjccpbaaGreat
open Go.RowKit

/-! tarnref1.Text. -/
set_option maxRecDepth 100000 in
set_option maxHeartbeats 1000000 in
theorem rtext (n : Nat) (hn : n < M256) (w : World) :
    Calls Tryz.prog 35 #[V n] w fun e w' => e = .returned (.string (strOfNums (tnums n))) ∧ Below w.heap.size w w' := by
  have hL := tlen_le n hn
  have HL := tnums_length n
  have HN : Hid (n < M256) := hn
  clear hn
  obtain ⟨i0, hi, hz0, hz1, hz2⟩ := info_of info5
  go_enter Tryz.func35, Tryz.ntmps35
  go_wp2
  go_loopw [3, 4] (fun b i wr => ∃ (k : Nat), k ≤ 32 ∧ i = .int .i64 ((k : Int) - 1) ∧ Bk wr w.heap.size (A4 (lb n 0) (lb n 1) (lb n 2) (lb n 3)) 26 ∧ wr.ownsRow (w.heap.size + 1) 5 1 b (tlen n - k) (((tnums n).take (tlen n - k)).map (Value.int .u8)) ∧ Below w.heap.size w wr) (fun _ i _ => (intOf i + 1).toNat)
  case atStart =>
    have e : tlen n - 32 = 0 := by omega
    refine ⟨32, by omega, rfl, Bk.new _ _ _, ?_, (Below.refl _ _).alloc (Nat.le_refl _) _⟩
    rw [e]
    exact ⟨rfl, .inl ⟨rfl, rfl⟩⟩
  case round =>
    obtain ⟨k, hk, rfl, ha, hown, hbl⟩ := hrel
    have hsz := ha.lt
    have hsz2 := hbl.size
    cases k with
    | zero =>
      rw [Nat.sub_zero, List.take_of_length_le (by omega)] at hown
      rcases hown.2 with ⟨rfl, hz⟩ | ⟨g, cap, cur, rfl, hg, hh, h4, h5, h6, h7⟩
      · have hcv := run_convert_bytes_nil (P := Tryz.prog) wr 86 5 Tryz.underlying86 Tryz.underlying5 0 0 9 Tryz.underlying9
        go_wp2
        go_ret
        refine ⟨?_, hbl⟩
        have : tnums n = [] := List.length_eq_zero_iff.1 (by omega)
        rw [this]; rfl
      · have hcv := run_convert_bytes_arg (P := Tryz.prog) wr 86 5 Tryz.underlying86 Tryz.underlying5 g 0 (tlen n) cap (tnums n) (tnums_length n) (fun i hi => by
          rw [Nat.zero_add]
          have h8 : (cur.toList.take (tlen n * 1))[i]? = some (Value.int .u8 ((tnums n).getD i 0)) := by
            rw [h7, List.getElem?_map, List.getElem?_eq_getElem (by omega), List.getD_eq_getElem?_getD, List.getElem?_eq_getElem (by omega)]
            rfl
          rw [List.getElem?_take] at h8
          split at h8
          · simp only [World.cell?, hh]; simpa using h8
          · simp at h8) 9 Tryz.underlying9
        go_wp2
        go_ret
        exact ⟨rfl, hbl⟩
    | succ i =>
      have hak := lb_cells ha (i / 8) (by omega)
      have hbe := by8_eq n i (by omega)
      have e : ((i + 1 : Nat) : Int) - 1 = (i : Int) := by omega
      rw [e]
      clear e
      generalize hX : lb n (i / 8) / 2 ^ (8 * (i % 8)) % 256 = X at hbe
      have HX := hX
      by_cases hit : i < tlen n
      · have hst := tnums_take n i hit
        rw [← hbe] at hst
        have HST : Hid (_ = _) := hst
        have hor : (X != 0) = true ∨ (X != 0) = false ∧ (0 : Int) < ((tlen n - (i + 1) : Nat) : Int) := by
          by_cases e : i = tlen n - 1
          · left
            have h0 : n ≠ 0 := by rintro rfl; simp [tlen, bl] at hit
            have := (top_byte n h0).2
            rw [← e, ← hbe] at this
            simpa using this
          · cases hb : (X != 0)
            · right; exact ⟨rfl, by omega⟩
            · left; rfl
        clear hst hbe HL HX
        obtain ⟨ad, cap, rfl⟩ : ∃ ad cap, u3 = Value.slice ad (tlen n - (i + 1)) cap := by
          rcases hown.2 with ⟨rfl, hz⟩ | ⟨g, cap, cur, rfl, _⟩
          · exact ⟨none, 0, by rw [hz]⟩
          · exact ⟨_, cap, rfl⟩
        rcases hor with hx1 | ⟨hx1, hx2⟩
        all_goals
          go_wp2_with (at_builtin; refine wpList_append_own _ rfl _ _ 86 rfl (w.heap.size + 1) 5 i0 (.int .u8 0) 1 1 Tryz.underlying86 hi hz0 hz1 hz2 rfl (by decide) _ (tlen n - (i + 1)) _ rfl (hown.alloc _) ⟨wr.heap.size, 0, none⟩ 1 1 [.int .u8 X] rfl rfl (cell_one_new _ _ _) (by simp [Value.oneCell']) (by unfold maxLen; omega) (by omega) (by simp; omega) ?_; intro v1 w1 hown1 hgrow1 hnil1)
          go_roundw
          case rel =>
            refine ⟨i, by omega, rfl, ?_, ?_, ?_⟩
            · exact own_kept (ha.alloc _) hgrow1 (by simp; omega) (fun e => by have := owns_ge hown e.symm; omega)
            · rw [HST.out, List.map_append, show tlen n - i = tlen n - (i + 1) + 1 by omega]
              exact hown1
            · exact (hbl.alloc hsz2 _).grown hgrow1 (by simp; omega) (fun j hj => by have := owns_ge hown hj; omega)
          case measure => simp [intOf]
      · have hX0 : X = 0 := by rw [hbe]; exact high_byte n i (by omega)
        subst hX0
        have e0 : tlen n - (i + 1) = 0 := by omega
        rw [e0] at hown
        clear hbe HL HX
        obtain ⟨ad, cap, rfl⟩ : ∃ ad cap, u3 = Value.slice ad 0 cap := by
          rcases hown.2 with ⟨rfl, hz⟩ | ⟨g, cap, cur, rfl, _⟩
          · exact ⟨none, 0, rfl⟩
          · exact ⟨_, cap, rfl⟩
        go_wp2
        go_roundw
        case rel => exact ⟨i, by omega, rfl, ha, by rw [show tlen n - i = 0 by omega]; exact hown, hbl⟩
        case measure => simp [intOf]
end Go.Proofs.YtapjonmgjccpbaaGreat
end

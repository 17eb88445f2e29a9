import Derived.Test.YtgolpadmcalimaaAsks
import Derived.Test.YtgolpadmcalimaaExcess
import Derived.Test.YtgolpadmcalimaaWakes
import Derived.Deep.RegionWith
import Derived.Deep.DeepCutAuto
import Derived.Deep.CutBlock
set_option linter.unusedSimpArgs false
set_option linter.unusedVariables false
namespace Go.Proofs.Ytgolpadmcalimaa
open Go.RowKit

set_option maxRecDepth 100000 in
set_option maxHeartbeats 2000000 in
theorem feeExcess_walk (v : Value) (qs : List AskD) (w : World) (hs : Sa w v qs) :
    Calls Try.prog 7 #[v] w fun e w' => e = .returned (.bool true) ∧ Below w.heap.size w w' := by
  obtain ⟨hok, hlen, ad, cap, rfl, hat0⟩ := hs
  have HA : Hid (∀ i (hi : i < qs.length), ∃ b off, ad = some ⟨b, off, none⟩ ∧ ∀ j, j < 15 → w.cell? ⟨b, off + i * 15 + j, none⟩ = (acells qs[i])[j]?) := hat0
  have HO : Hid (∀ q ∈ qs, AskOk q) := hok
  have hlen : qs.length ≤ 9223372036854775807 := hlen
  clear hat0 hok
  go_enter Try.func7, Try.ntmps7
  go_wp2_with fail
  go_loopw [3] (fun i wr => ∃ k : Nat, k ≤ qs.length ∧ k ≤ 8 ∧ i = .int .i64 k ∧ Below w.heap.size w wr) (fun i _ => 8 - (intOf i).toNat)
  case atStart => exact ⟨0, by omega, by omega, rfl, Below.refl _ _⟩
  case round =>
    obtain ⟨k, hk1, hk2, rfl, hbo⟩ := hrel
    have hszo := hbo.size
    by_cases hlt : k < qs.length
    · by_cases hlt2 : k < 8
      · obtain ⟨b, off, rfl, hat⟩ := HA.out k hlt
        have HQ : Hid (AskOk qs[k]) := HO.out _ (List.getElem_mem hlt)
        generalize qs[k] = q at hat HQ
        obtain ⟨a, b2, c, x, u, t⟩ := q
        simp only [acells] at hat
        have hbw : b < wr.heap.size := Nat.lt_of_lt_of_le (cell_lt (hat 0 (by omega))) hszo
        have c0 : wr.cell? ⟨b, off + k * 15, none⟩ = some (.int .u64 (lb a 0)) := (hbo.cell (p := ⟨b, off + k * 15, none⟩) (cell_lt (hat 0 (by omega)))).trans (hat 0 (by omega))
        have c1 : wr.cell? ⟨b, off + k * 15 + 1, none⟩ = some (.int .u64 (lb a 1)) := (hbo.cell (p := ⟨b, off + k * 15 + 1, none⟩) (cell_lt (hat 1 (by omega)))).trans (hat 1 (by omega))
        have c2 : wr.cell? ⟨b, off + k * 15 + 2, none⟩ = some (.int .u64 (lb a 2)) := (hbo.cell (p := ⟨b, off + k * 15 + 2, none⟩) (cell_lt (hat 2 (by omega)))).trans (hat 2 (by omega))
        have c3 : wr.cell? ⟨b, off + k * 15 + 3, none⟩ = some (.int .u64 (lb a 3)) := (hbo.cell (p := ⟨b, off + k * 15 + 3, none⟩) (cell_lt (hat 3 (by omega)))).trans (hat 3 (by omega))
        have c4 : wr.cell? ⟨b, off + k * 15 + 4, none⟩ = some (.int .u64 (lb b2 0)) := (hbo.cell (p := ⟨b, off + k * 15 + 4, none⟩) (cell_lt (hat 4 (by omega)))).trans (hat 4 (by omega))
        have c5 : wr.cell? ⟨b, off + k * 15 + 5, none⟩ = some (.int .u64 (lb b2 1)) := (hbo.cell (p := ⟨b, off + k * 15 + 5, none⟩) (cell_lt (hat 5 (by omega)))).trans (hat 5 (by omega))
        have c6 : wr.cell? ⟨b, off + k * 15 + 6, none⟩ = some (.int .u64 (lb b2 2)) := (hbo.cell (p := ⟨b, off + k * 15 + 6, none⟩) (cell_lt (hat 6 (by omega)))).trans (hat 6 (by omega))
        have c7 : wr.cell? ⟨b, off + k * 15 + 7, none⟩ = some (.int .u64 (lb b2 3)) := (hbo.cell (p := ⟨b, off + k * 15 + 7, none⟩) (cell_lt (hat 7 (by omega)))).trans (hat 7 (by omega))
        have c8 : wr.cell? ⟨b, off + k * 15 + 8, none⟩ = some (.int .u64 (lb c 0)) := (hbo.cell (p := ⟨b, off + k * 15 + 8, none⟩) (cell_lt (hat 8 (by omega)))).trans (hat 8 (by omega))
        have c9 : wr.cell? ⟨b, off + k * 15 + 9, none⟩ = some (.int .u64 (lb c 1)) := (hbo.cell (p := ⟨b, off + k * 15 + 9, none⟩) (cell_lt (hat 9 (by omega)))).trans (hat 9 (by omega))
        have c10 : wr.cell? ⟨b, off + k * 15 + 10, none⟩ = some (.int .u64 (lb c 2)) := (hbo.cell (p := ⟨b, off + k * 15 + 10, none⟩) (cell_lt (hat 10 (by omega)))).trans (hat 10 (by omega))
        have c11 : wr.cell? ⟨b, off + k * 15 + 11, none⟩ = some (.int .u64 (lb c 3)) := (hbo.cell (p := ⟨b, off + k * 15 + 11, none⟩) (cell_lt (hat 11 (by omega)))).trans (hat 11 (by omega))
        have c12 : wr.cell? ⟨b, off + k * 15 + 12, none⟩ = some (.int .i64 x) := (hbo.cell (p := ⟨b, off + k * 15 + 12, none⟩) (cell_lt (hat 12 (by omega)))).trans (hat 12 (by omega))
        have c13 : wr.cell? ⟨b, off + k * 15 + 13, none⟩ = some (.int .i64 u) := (hbo.cell (p := ⟨b, off + k * 15 + 13, none⟩) (cell_lt (hat 13 (by omega)))).trans (hat 13 (by omega))
        have c14 : wr.cell? ⟨b, off + k * 15 + 14, none⟩ = some (.int .i64 t) := (hbo.cell (p := ⟨b, off + k * 15 + 14, none⟩) (cell_lt (hat 14 (by omega)))).trans (hat 14 (by omega))
        clear hat
        clear HQ
        have hNx := fun w => numIn x 1099511627776 w
        have hNu := fun w => numIn u 1073741824 w
        have hNt := fun w => numIn t 1073741824 w
        cases hm : exMay x u t
        · have hex := fun w => excess_no x u t hm w
          cases gx : inB x 1099511627776
          · rw [gx] at hNx
            clear gx hm
            go_wp2_with (first | (go_at_call 22; refine (hex _).mono ?_; rintro e w1 ⟨rfl, rfl⟩) | (go_at_call_of 17 (Value.int IntKind.i64 x); refine (hNx _).mono ?_; rintro e w1 ⟨rfl, rfl⟩) | (go_at_call_of 17 (Value.int IntKind.i64 u); refine (hNu _).mono ?_; rintro e w1 ⟨rfl, rfl⟩) | (go_at_call_of 17 (Value.int IntKind.i64 t); refine (hNt _).mono ?_; rintro e w1 ⟨rfl, rfl⟩) | (go_at_call 14; refine (num2_any _ _).mono ?_; rintro e w2 ⟨rfl, rfl⟩))
            go_roundw
            case rel => exact ⟨k + 1, by omega, by omega, by go_num, hbo.alloc (by omega) _⟩
            case measure => simp [intOf]; omega
          · cases gu : inB u 1073741824
            · rw [gx] at hNx
              rw [gu] at hNu
              clear gx gu hm
              go_wp2_with (first | (go_at_call 22; refine (hex _).mono ?_; rintro e w1 ⟨rfl, rfl⟩) | (go_at_call_of 17 (Value.int IntKind.i64 x); refine (hNx _).mono ?_; rintro e w1 ⟨rfl, rfl⟩) | (go_at_call_of 17 (Value.int IntKind.i64 u); refine (hNu _).mono ?_; rintro e w1 ⟨rfl, rfl⟩) | (go_at_call_of 17 (Value.int IntKind.i64 t); refine (hNt _).mono ?_; rintro e w1 ⟨rfl, rfl⟩) | (go_at_call 14; refine (num2_any _ _).mono ?_; rintro e w2 ⟨rfl, rfl⟩))
              go_roundw
              case rel => exact ⟨k + 1, by omega, by omega, by go_num, hbo.alloc (by omega) _⟩
              case measure => simp [intOf]; omega
            · have gt : inB t 1073741824 = false := by simpa [exMay, gx, gu] using hm
              rw [gx] at hNx
              rw [gu] at hNu
              rw [gt] at hNt
              clear gx gu gt hm
              go_wp2_with (first | (go_at_call 22; refine (hex _).mono ?_; rintro e w1 ⟨rfl, rfl⟩) | (go_at_call_of 17 (Value.int IntKind.i64 x); refine (hNx _).mono ?_; rintro e w1 ⟨rfl, rfl⟩) | (go_at_call_of 17 (Value.int IntKind.i64 u); refine (hNu _).mono ?_; rintro e w1 ⟨rfl, rfl⟩) | (go_at_call_of 17 (Value.int IntKind.i64 t); refine (hNt _).mono ?_; rintro e w1 ⟨rfl, rfl⟩) | (go_at_call 14; refine (num2_any _ _).mono ?_; rintro e w2 ⟨rfl, rfl⟩))
              go_roundw
              case rel => exact ⟨k + 1, by omega, by omega, by go_num, hbo.alloc (by omega) _⟩
              case measure => simp [intOf]; omega
        · have hex := fun w => excess_yes x u t hm w
          have hb := (exMay_iff x u t).1 hm
          obtain ⟨⟨⟨x0, x1⟩, u0, u1⟩, t0, t1⟩ := hb
          have gx : inB x 1099511627776 = true := by simp [inB, x0, x1]
          have gu : inB u 1073741824 = true := by simp [inB, u0, u1]
          have gt : inB t 1073741824 = true := by simp [inB, t0, t1]
          rw [gx] at hNx
          rw [gu] at hNu
          rw [gt] at hNt
          by_cases hA : x + u - t ≤ 0
          · rw [show exV x u t = 0 by unfold exV; rw [if_pos hm, if_pos hA]] at hex
            have hA' : ¬ 0 < x + u - t := by omega
            clear gx gu gt hm
            go_wp2_with (first | (go_at_call 22; refine (hex _).mono ?_; rintro e w1 ⟨rfl, rfl⟩) | (go_at_call_of 17 (Value.int IntKind.i64 x); refine (hNx _).mono ?_; rintro e w1 ⟨rfl, rfl⟩) | (go_at_call_of 17 (Value.int IntKind.i64 u); refine (hNu _).mono ?_; rintro e w1 ⟨rfl, rfl⟩) | (go_at_call_of 17 (Value.int IntKind.i64 t); refine (hNt _).mono ?_; rintro e w1 ⟨rfl, rfl⟩) | (go_at_call 14; refine (num2_any _ _).mono ?_; rintro e w2 ⟨rfl, rfl⟩))
            go_roundw
            case rel => exact ⟨k + 1, by omega, by omega, by go_num, hbo.alloc (by omega) _⟩
            case measure => simp [intOf]; omega
          · by_cases hB : 1099511627776 ≤ x + u - t
            · rw [show exV x u t = 1099511627776 by unfold exV; rw [if_pos hm, if_neg hA, if_pos hB]] at hex
              clear gx gu gt hm
              go_wp2_with (first | (go_at_call 22; refine (hex _).mono ?_; rintro e w1 ⟨rfl, rfl⟩) | (go_at_call_of 17 (Value.int IntKind.i64 x); refine (hNx _).mono ?_; rintro e w1 ⟨rfl, rfl⟩) | (go_at_call_of 17 (Value.int IntKind.i64 u); refine (hNu _).mono ?_; rintro e w1 ⟨rfl, rfl⟩) | (go_at_call_of 17 (Value.int IntKind.i64 t); refine (hNt _).mono ?_; rintro e w1 ⟨rfl, rfl⟩) | (go_at_call 14; refine (num2_any _ _).mono ?_; rintro e w2 ⟨rfl, rfl⟩))
              go_roundw
              case rel => exact ⟨k + 1, by omega, by omega, by go_num, hbo.alloc (by omega) _⟩
              case measure => simp [intOf]; omega
            · rw [show exV x u t = x + u - t by unfold exV; rw [if_pos hm, if_neg hA, if_neg hB]] at hex
              clear gx gu gt hm
              go_wp2_with (first | (go_at_call 22; refine (hex _).mono ?_; rintro e w1 ⟨rfl, rfl⟩) | (go_at_call_of 17 (Value.int IntKind.i64 x); refine (hNx _).mono ?_; rintro e w1 ⟨rfl, rfl⟩) | (go_at_call_of 17 (Value.int IntKind.i64 u); refine (hNu _).mono ?_; rintro e w1 ⟨rfl, rfl⟩) | (go_at_call_of 17 (Value.int IntKind.i64 t); refine (hNt _).mono ?_; rintro e w1 ⟨rfl, rfl⟩) | (go_at_call 14; refine (num2_any _ _).mono ?_; rintro e w2 ⟨rfl, rfl⟩))
              go_roundw
              case rel => exact ⟨k + 1, by omega, by omega, by go_num, hbo.alloc (by omega) _⟩
              case measure => simp [intOf]; omega
      · have hb8 : decide ((k : Int) < 8) = false := by simp; omega
        go_wp2_with (go_at_call 15; refine (wakes2 _).mono ?_; rintro e w4 ⟨rfl, hb4⟩)
        go_ret
        exact ⟨rfl, hbo.trans (hb4.mono (by omega))⟩
    · have hbl2 : decide ((k : Int) < (qs.length : Int)) = false := by simp; omega
      go_wp2_with (go_at_call 15; refine (wakes2 _).mono ?_; rintro e w4 ⟨rfl, hb4⟩)
      go_ret
      exact ⟨rfl, hbo.trans (hb4.mono (by omega))⟩
end Go.Proofs.Ytgolpadmcalimaa

import Derived.Test.YtapjonmgjccpbaaShf
import Derived.Deep.DeepCutAuto
import Derived.Test.YtapjonmgjccpbaaSss
set_option linter.unusedSimpArgs false
set_option linter.unusedVariables false
namespace Go.Proofs.Ytapjonmgjccpbaa
open Go.RowKit

/-! tarnlaw8.SizeLengths, walked. -/
/-- A slice of whole numbers. -/
def Si (w : World) (v : Value) (f : Nat → Int) (len : Nat) : Prop :=
  len ≤ maxLen ∧ (∀ i, i < len → -9223372036854775808 ≤ f i ∧ f i ≤ 9223372036854775807) ∧ ∃ ad cap, v = .slice ad len cap ∧ ∀ i, i < len → ∃ b off, ad = some ⟨b, off, none⟩ ∧ w.cell? ⟨b, off + i, none⟩ = some (.int .i64 (f i))
set_option maxRecDepth 100000 in
set_option maxHeartbeats 12000000 in
theorem sizeLengths_walk (v : Value) (f : Nat → Int) (len : Nat) (w : World) (hs : Si w v f len) :
    Calls Try.prog 8 #[v] w fun e w' => e = .returned (.bool true) ∧ Below w.heap.size w w' := by
  obtain ⟨hlen, hfs, ad, cap, rfl, hat⟩ := hs
  unfold maxLen at hlen
  have HF : Hid (∀ i, i < len → -9223372036854775808 ≤ f i ∧ f i ≤ 9223372036854775807) := hfs
  have HA : Hid (∀ i, i < len → ∃ b off, ad = some ⟨b, off, none⟩ ∧ w.cell? ⟨b, off + i, none⟩ = some (.int .i64 (f i))) := hat
  have HM : Hid (∀ w, Calls Try.prog 34 #[.int .i64 (-1)] w fun e w' => e = .returned (.tuple #[.int .i64 0, .int .i64 1]) ∧ w' = w) := fun w => slot (-1) (by omega) w
  have HM4 : Hid (∀ w, Calls Try.prog 34 #[.int .i64 4] w fun e w' => e = .returned (.tuple #[.int .i64 0, .int .i64 1]) ∧ w' = w) := fun w => slot 4 (by omega) w
  clear hat hfs
  go_enter Try.func8, Try.ntmps8
  go_wp2_with fail
  go_loopw [3] (fun i wr => ∃ k : Int, -2 ≤ k ∧ k ≤ 1100 ∧ i = .int .i64 k ∧ Below w.heap.size w wr) (fun i _ => (1100 - intOf i).toNat)
  case atStart => exact ⟨-2, by omega, by omega, rfl, Below.refl _ _⟩
  case round =>
    obtain ⟨k, hk1, hk2, rfl, hbo⟩ := hrel
    by_cases hlt : k < 1100
    · have HbO : Hid (Below w.heap.size w wr) := hbo
      clear hbo
      go_upto_region 5 with fail
      go_cut [28] (fun c wx => c = .bool (decide (1030 ≤ k ∧ k - 1030 < (len : Int))) ∧ wx = wr)
      case first =>
        have hw0 : IntKind.i64.wrap (k - 1030) = k - 1030 := by rw [IntKind.wrap_i64]; omega
        by_cases h3 : 1030 ≤ k
        · by_cases h4 : k - 1030 < (len : Int)
          · have e : decide (1030 ≤ k ∧ k - 1030 < (len : Int)) = true := decide_eq_true ⟨h3, h4⟩
            go_wp2_with fail
            go_meet
            exact ⟨by rw [e], rfl⟩
          · have e : decide (1030 ≤ k ∧ k - 1030 < (len : Int)) = false := decide_eq_false fun h => h4 h.2
            go_wp2_with fail
            go_meet
            exact ⟨by rw [e], rfl⟩
        · have e : decide (1030 ≤ k ∧ k - 1030 < (len : Int)) = false := decide_eq_false fun h => h3 h.1
          go_wp2_with fail
          go_meet
          exact ⟨by rw [e], rfl⟩
      case rest =>
        obtain ⟨rfl, rfl⟩ := hcut
        go_upto_if 28 with fail
        go_cut [4] (fun x wx => ∃ n : Int, -9223372036854775808 ≤ n ∧ n ≤ 9223372036854775807 ∧ x = .int .i64 n ∧ wx = wc)
        case first =>
          by_cases h4 : 1030 ≤ k ∧ k - 1030 < (len : Int)
          · rw [decide_eq_true h4]
            obtain ⟨j, rfl⟩ : ∃ j : Nat, k = (j : Int) + 1030 := ⟨(k - 1030).toNat, by omega⟩
            have hj : (j : Int) + 1030 - 1030 = (j : Int) := by omega
            have hjl : j < len := by omega
            have hw0 : IntKind.i64.wrap ((j : Int) + 1030 - 1030) = (j : Int) := by rw [IntKind.wrap_i64]; omega
            obtain ⟨b, off, rfl, hc⟩ := HA.out j hjl
            have hfz := HF.out j hjl
            have hbw : b < w.heap.size := cell_lt' hc
            have hc := (HbO.out.cell (p := ⟨b, off + j, none⟩) hbw).trans hc
            generalize f j = n at hc hfz
            go_wp2_with fail
            go_meet
            exact ⟨n, hfz.1, hfz.2, rfl, rfl⟩
          · rw [decide_eq_false h4]
            go_wp2_with fail
            go_meet
            exact ⟨k, by omega, by omega, rfl, rfl⟩
        case rest =>
          obtain ⟨n, hfz1, hfz2, rfl, rfl⟩ := hcut
          have hbo := HbO.out
          clear HbO
          have HS : Hid (∀ w, Calls Try.prog 33 #[.int .i64 n] w fun e w' => e = .returned (.tuple #[.int .i64 (shV n), .int .i64 (shE n)]) ∧ Below w.heap.size w w') := fun w => shelf n (by omega) w
          by_cases hn0 : n < 0
          · have e1 : shE n = 1 := if_pos hn0
            rw [e1] at HS
            generalize shV n = q at HS
            go_wp2_with fail
            refine (HS.out _).mono ?_
            rintro e w1 ⟨rfl, hb1⟩
            have hbA := hbo.trans (hb1.mono hbo.size)
            clear hb1 hbo
            go_wp2_with (go_at_call 28; refine (num8 _ _).mono ?_; rintro e w9 ⟨rfl, rfl⟩)
            go_roundw
            case rel => exact ⟨k + 1, by omega, by omega, by go_num, hbA⟩
            case measure => simp [intOf]; omega
          · by_cases hn1 : 1008 < n
            · have e1 : shE n = 2 := by unfold shE; rw [if_neg hn0, if_neg (by omega)]
              rw [e1] at HS
              generalize shV n = q at HS
              go_wp2_with fail
              refine (HS.out _).mono ?_
              rintro e w1 ⟨rfl, hb1⟩
              have hbA := hbo.trans (hb1.mono hbo.size)
              clear hb1 hbo
              go_wp2_with (go_at_call 28; refine (num8 _ _).mono ?_; rintro e w9 ⟨rfl, rfl⟩)
              go_roundw
              case rel => exact ⟨k + 1, by omega, by omega, by go_num, hbA⟩
              case measure => simp [intOf]; omega
            · obtain ⟨e1, hq, e2, h3, h4⟩ := sh_facts n ⟨by omega, by omega⟩
              have HL : Hid (∀ w, Calls Try.prog 34 #[.int .i64 (shV n)] w fun e w' => e = .returned (.tuple #[.int .i64 (slV (shV n)), .int .i64 0]) ∧ w' = w) := fun w => by
                have := slot (shV n) (by omega) w
                rw [e2] at this
                exact this
              have HL1 : Hid (0 < shV n → ∀ w, Calls Try.prog 34 #[.int .i64 (shV n - 1)] w fun e w' => e = .returned (.tuple #[.int .i64 (slV (shV n - 1)), .int .i64 0]) ∧ w' = w) := fun hp w => by
                have := slot (shV n - 1) (by omega) w
                rw [(h4 hp).1] at this
                exact this
              rw [e1] at HS
              have hs := slV_bd (shV n)
              have ht := slV_bd (shV n - 1)
              generalize slV (shV n) = s at *
              generalize slV (shV n - 1) = t at *
              generalize shV n = q at *
              have hw1 : IntKind.i64.wrap (n + 16) = n + 16 := by rw [IntKind.wrap_i64]; omega
              have hw2 : IntKind.i64.wrap (q - 1) = q - 1 := by rw [IntKind.wrap_i64]; omega
              have hc1 : ¬ s < n + 16 := by omega
              by_cases hq0 : 0 < q
              · obtain ⟨-, h5, h6⟩ := h4 hq0
                have hc2 : ¬ n + 16 ≤ t := by omega
                have hw3 : IntKind.i64.wrap (2 * t) = 2 * t := by rw [IntKind.wrap_i64]; omega
                replace HL1 := HL1.out hq0
                have HL2 : Hid (∀ w, Calls Try.prog 34 #[.int .i64 (q - 1)] w fun e w' => e = .returned (.tuple #[.int .i64 t, .int .i64 0]) ∧ w' = w) := HL1
                subst h6
                clear h4 HL1 e1 e2 h5
                go_wp2_with fail
                refine (HS.out _).mono ?_
                rintro e w1 ⟨rfl, hb1⟩
                have hbA := hbo.trans (hb1.mono hbo.size)
                clear hb1 hbo
                go_wp2_with (first | (go_at_call 28; refine (num8 _ _).mono ?_; rintro e w9 ⟨rfl, rfl⟩) | (go_at_call 34; (first | with_reducible refine (HL.out _).mono ?_ | with_reducible refine (HL2.out _).mono ?_); rintro e w9 ⟨rfl, rfl⟩))
                go_roundw
                case rel => exact ⟨k + 1, by omega, by omega, by go_num, hbA⟩
                case measure => simp [intOf]; omega
              · clear h4 HL1 e1 e2
                go_wp2_with fail
                refine (HS.out _).mono ?_
                rintro e w1 ⟨rfl, hb1⟩
                have hbA := hbo.trans (hb1.mono hbo.size)
                clear hb1 hbo
                go_wp2_with (first | (go_at_call 28; refine (num8 _ _).mono ?_; rintro e w9 ⟨rfl, rfl⟩) | (go_at_call 34; refine (HL.out _).mono ?_; rintro e w9 ⟨rfl, rfl⟩))
                go_roundw
                case rel => exact ⟨k + 1, by omega, by omega, by go_num, hbA⟩
                case measure => simp [intOf]; omega
    · obtain rfl : k = 1100 := by omega
      go_wp2_with fail
      refine (HM.out _).mono ?_
      rintro e w9 ⟨rfl, rfl⟩
      go_wp2_with fail
      refine (HM4.out _).mono ?_
      rintro e w9 ⟨rfl, rfl⟩
      go_wp2_with (first | (go_at_call 28; refine (num8 _ _).mono ?_; rintro e w9 ⟨rfl, rfl⟩) | (go_at_call 32; refine (wakes8 _).mono ?_; rintro e w1 ⟨rfl, hb1⟩))
      go_ret
      exact ⟨rfl, hbo.trans (hb1.mono hbo.size)⟩
end Go.Proofs.Ytapjonmgjccpbaa

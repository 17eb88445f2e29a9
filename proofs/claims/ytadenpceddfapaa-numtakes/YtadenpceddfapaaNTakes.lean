import Derived.Test.YtadenpceddfapaaRTake
import Derived.Test.YtadenpceddfapaaPCmp0
import Derived.Test.YtadenpceddfapaaEql
import Derived.Test.YtadenpceddfapaaTold
import Derived.Deep.RegionHeld
import Derived.Deep.DeepCutAuto
set_option linter.unusedSimpArgs false
set_option linter.unusedVariables false
namespace Go.Proofs.Ytadenpceddfapaa
open Go.RowKit

/-- A slice of strings, as the walk reads it. -/
def Ss (w : World) (v : Value) (f : Nat → ByteArray) (len : Nat) : Prop :=
  len ≤ maxLen ∧ (∀ i, i < len → (f i).size ≤ maxLen) ∧ ∃ ad cap, v = .slice ad len cap ∧ ∀ i, i < len → ∃ b off, ad = some ⟨b, off, none⟩ ∧ w.cell? ⟨b, off + i, none⟩ = some (.string (f i))
theorem rof (n : Nat) (h : n ≤ 9223372036854775807) (w : World) :
    Calls Try.prog 34 #[.int .i64 n] w fun e w' => e = .returned (V n) ∧ Below w.heap.size w w' := by
  rw [V_small n (by omega)]
  have hw : IntKind.u64.wrap (n : Int) = n := by rw [IntKind.wrap_u64]; omega
  go_enter Try.func34, Try.ntmps34
  go_wp2
  refine bodyPost_ret (v := .agg (A4 n 0 0 0)) ?_ rfl ⟨rfl, ?_⟩
  · simp [results, Try.results34, go_sem]
  · exact (Below.refl _ _).alloc (Nat.le_refl _) _
theorem tk_ok (s : ByteArray) : (tkE s == 0) = tkGood s := by
  unfold tkE; cases tkGood s <;> rfl
theorem tk_no (s : ByteArray) : tkGood s = false → tkE s = 1 := by
  intro h; unfold tkE; rw [h]; rfl
set_option maxRecDepth 100000 in
set_option maxHeartbeats 8000000 in
theorem numTakes_walk (v : Value) (f : Nat → ByteArray) (len : Nat) (w : World) (hs : Ss w v f len) :
    Calls Try.prog 7 #[v] w fun e w' => e = .returned (.bool true) ∧ Below w.heap.size w w' := by
  obtain ⟨hlen, hfs, ad, cap, rfl, hat⟩ := hs
  unfold maxLen at hlen
  have HF : Hid (∀ i, i < len → (f i).size ≤ maxLen) := hfs
  have HA : Hid (∀ i, i < len → ∃ b off, ad = some ⟨b, off, none⟩ ∧ w.cell? ⟨b, off + i, none⟩ = some (.string (f i))) := hat
  clear hat hfs
  go_enter Try.func7, Try.ntmps7
  go_wp2_with fail
  go_loopw [3] (fun i wr => ∃ k : Nat, k ≤ len ∧ k ≤ 20 ∧ i = .int .i64 k ∧ Below w.heap.size w wr) (fun i _ => len - (intOf i).toNat)
  case atStart => exact ⟨0, by omega, by omega, rfl, Below.refl _ _⟩
  case round =>
    obtain ⟨i, hi, hi20, rfl, hbo⟩ := hrel
    by_cases hlt : i < len
    · by_cases hlt2 : i < 20
      · have hszr := hbo.size
        obtain ⟨b, off, rfl, hc⟩ := HA.out i hlt
        have hfz := HF.out i hlt
        unfold maxLen at hfz
        have hbw : b < w.heap.size := cell_lt hc
        have hc := below_at hbo hbw hc
        generalize f i = s at hc hfz
        have hd20 : decide ((i : Int) < 20) = true := by simp; omega
        go_upto_region 4 with fail
        go_cut [4, 5] (fun p e wx => ∃ B, p = .pointer (some ⟨B, 0, none⟩) ∧ wr.heap.size ≤ B ∧ Bk wx B (A4 (lb (tkV s) 0) (lb (tkV s) 1) (lb (tkV s) 2) (lb (tkV s) 3)) 26 ∧ e = .int .i64 (tkE s) ∧ Below wr.heap.size wr wx)
        case first =>
          go_wp2_with (go_at_call 28; refine (take s _).mono ?_; rintro e w3 ⟨rfl, hb3⟩)
          go_meet
          exact ⟨_, rfl, hb3.size, Bk.new _ _ _, rfl, hb3.alloc hb3.size _⟩
        case rest =>
          obtain ⟨B, rfl, hB, hkB, rfl, hbx⟩ := hcut
          obtain ⟨wa, rfl⟩ : ∃ wa : World, wa = wc := ⟨_, rfl⟩
          have hsza := hbx.size
          have hc := below_at hbx (Nat.lt_of_lt_of_le hbw hszr) hc
          have hbwa : b < wa.heap.size := by omega
          go_upto_region 5 with fail
          go_cut [6, 7] (fun p e wx => ∃ B, p = .pointer (some ⟨B, 0, none⟩) ∧ wa.heap.size ≤ B ∧ Bk wx B (A4 (lb (tkV s) 0) (lb (tkV s) 1) (lb (tkV s) 2) (lb (tkV s) 3)) 26 ∧ e = .bool (tkGood s) ∧ Below wa.heap.size wa wx)
          case first =>
            go_wp2_with (go_at_call 32; refine (rtake s _).mono ?_; rintro e w3 ⟨rfl, hb3⟩)
            go_meet
            exact ⟨_, rfl, hb3.size, Bk.new _ _ _, rfl, hb3.alloc hb3.size _⟩
          case rest =>
            obtain ⟨C, rfl, hC, hkC, rfl, hby⟩ := hcut
            obtain ⟨wb, rfl⟩ : ∃ wb : World, wb = wc := ⟨_, rfl⟩
            have hszb := hby.size
            have hc := below_at hby hbwa hc
            have hbwb : b < wb.heap.size := by omega
            have hkB := hkB.below hby hkB.lt
            have hp0 := hkB.cell 0
            have hp1 := hkB.cell 1
            have hp2 := hkB.cell 2
            have hp3 := hkB.cell 3
            have hq0 := hkC.cell 0
            have hq1 := hkC.cell 1
            have hq2 := hkC.cell 2
            have hq3 := hkC.cell 3
            simp only [List.getElem?_toArray, List.getElem?_cons_zero, List.getElem?_cons_succ] at hp0 hp1 hp2 hp3 hq0 hq1 hq2 hq3
            have hne := fun w => neq26V (tkV s) (tkV s) (tkV_lt s) (tkV_lt s) w
            simp only [decide_true, Bool.not_true] at hne
            have htk := tk_ok s
            have hbq : Below w.heap.size w wb := (hbo.trans (hbx.mono (by omega))).trans (hby.mono (by omega))
            clear hbx hby hbo
            go_upto_region 6 with fail
            go_cut [5, 7, 55] (fun _ _ t wx => t = .bool false ∧ wx = wb)
            case first =>
              cases hg : tkGood s with
              | true =>
                rw [hg] at htk
                go_wp2_with go_in
                go_meet
                exact ⟨rfl, rfl⟩
              | false =>
                have ht1 := tk_no s hg
                go_wp2_with go_in
                go_meet
                exact ⟨rfl, rfl⟩
            case rest =>
              obtain ⟨rfl, rfl⟩ := hcut
              clear htk hne hp0 hp1 hp2 hp3 hq0 hq1 hq2 hq3 hkB hkC
              by_cases h2 : s.size < 2
              · obtain ⟨z, hzz⟩ : ∃ z : Int, (s.size : Int) - 2 = z := ⟨_, rfl⟩
                have hneg : z < 0 := by omega
                have hdn : decide (z < 0) = true := by simp; omega
                have hdp : decide (0 ≤ z) = false := by simp; omega
                go_upto_region 10 with (go_at_call 33; refine (of_no z hneg _).mono ?_; rintro e w5 ⟨rfl, hb5⟩)
                have hsz5 := hb5.size
                clear hzz
                go_quiet ((go_at_call 25; exact Calls.quiet_of_same (num_any _ _)))
                go_wp2_with fail
                go_roundw
                case rel => exact ⟨i + 1, by omega, by omega, by go_num, bdrewN ((hbq.trans (hb5.mono (by omega))).alloc (by omega) _) _⟩
                case measure => simp [intOf]; omega
              · obtain ⟨m, hm⟩ : ∃ m, s.size = m + 2 := ⟨s.size - 2, by omega⟩
                have hmi : (s.size : Int) - 2 = (m : Int) := by omega
                have hm63 : m ≤ 9223372036854775807 := by omega
                clear hm h2
                go_upto_region 10 with (go_at_call 33; refine (of_yes m hm63 _).mono ?_; rintro e w5 ⟨rfl, hb5⟩)
                have hsz5 := hb5.size
                have hD := Bk.new w5 (A4 (lb m 0) (lb m 1) (lb m 2) (lb m 3)) 26
                have hbz : Below w.heap.size w _ := (hbq.trans (hb5.mono (by omega))).alloc (by omega) (.cells (A4 (lb m 0) (lb m 1) (lb m 2) (lb m 3)) 26)
                have hd := hD.lt
                obtain ⟨D, hDD⟩ : ∃ D, D = w5.heap.size := ⟨_, rfl⟩
                rw [← hDD] at hD hd ⊢
                generalize w5.alloc (.cells (A4 (lb m 0) (lb m 1) (lb m 2) (lb m 3)) 26) = wz at hD hd hbz ⊢
                clear hDD hb5 hsz5
                have hszz := hbz.size
                have hdn : decide ((m : Int) < 0) = false := by simp
                have hdp : decide (0 ≤ (m : Int)) = true := by simp
                have hne2 := fun w => neq26V m m (by unfold M256; omega) (by unfold M256; omega) w
                simp only [decide_true, Bool.not_true] at hne2
                have hD0 := hD.cell 0
                have hD1 := hD.cell 1
                have hD2 := hD.cell 2
                have hD3 := hD.cell 3
                simp only [List.getElem?_toArray, List.getElem?_cons_zero, List.getElem?_cons_succ] at hD0 hD1 hD2 hD3
                first | go_region_with (first | (go_at_call 25; refine (num_any _ _).mono ?_; rintro e w6 ⟨rfl, rfl⟩) | (go_at_call 34; refine (rof m hm63 _).mono ?_; rintro e w6 ⟨rfl, hb6⟩; have hDx := hD.drew.below hb6 hd; have hD0 := hDx.cell 0; have hD1 := hDx.cell 1; have hD2 := hDx.cell 2; have hD3 := hDx.cell 3; simp only [List.getElem?_toArray, List.getElem?_cons_zero, List.getElem?_cons_succ] at hD0 hD1 hD2 hD3; have hbz := below_step hbz hb6)) | fail
                all_goals
                  go_wp2_with fail
                  go_roundw
                  case rel => exact ⟨i + 1, by omega, by omega, by go_num, hbz⟩
                  case measure => simp [intOf]; omega
      · have hd20 : decide ((i : Int) < 20) = false := by simp; omega
        have hszo := hbo.size
        go_wp2_with (first | (go_at_call 21; refine (wakes _).mono ?_; rintro e w4 ⟨rfl, hb4⟩))
        go_ret
        exact ⟨rfl, hbo.trans (hb4.mono (by omega))⟩
    · have hdl : decide ((i : Int) < (len : Int)) = false := by simp; omega
      have hszo := hbo.size
      go_wp2_with (first | (go_at_call 21; refine (wakes _).mono ?_; rintro e w4 ⟨rfl, hb4⟩))
      go_ret
      exact ⟨rfl, hbo.trans (hb4.mono (by omega))⟩
end Go.Proofs.Ytadenpceddfapaa

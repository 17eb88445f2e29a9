import Derived.Test.YtliaegnhnnnojaaSsl
set_option linter.unusedSimpArgs false
set_option linter.unusedVariables false
namespace Go.Proofs.Ytliaegnhnnnojaa
open Go.RowKit

/-! tarnlaw5.MarkTells, walked. -/
set_option maxRecDepth 100000 in
set_option maxHeartbeats 4000000 in
theorem markTells_walk (v : Value) (f : Nat → ByteArray) (len : Nat) (w : World) (hs : Ss w v f len) :
    Calls Try.prog 9 #[v] w fun e w' => e = .returned (.bool true) ∧ Below w.heap.size w w' := by
  obtain ⟨hlen, hfs, ad, cap, rfl, hat⟩ := hs
  unfold maxLen at hlen
  have HF : Hid (∀ i, i < len → (f i).size ≤ maxLen) := hfs
  have HA : Hid (∀ i, i < len → ∃ b off, ad = some ⟨b, off, none⟩ ∧ w.cell? ⟨b, off + i, none⟩ = some (.string (f i))) := hat
  clear hat hfs
  go_enter Try.func9, Try.ntmps9
  go_wp2_with fail
  go_loopw [3] (fun i wr => ∃ k : Nat, k ≤ len ∧ k ≤ 15 ∧ i = .int .i64 k ∧ Below w.heap.size w wr) (fun i _ => len - (intOf i).toNat)
  case atStart => exact ⟨0, by omega, by omega, rfl, Below.refl _ _⟩
  case round =>
    obtain ⟨i, hi, hi20, rfl, hbo⟩ := hrel
    have hszr := hbo.size
    by_cases hlt : i < len
    · have hlt' : (i : Int) < (len : Int) := by omega
      by_cases hlt2 : i < 15
      · have hlt2' : (i : Int) < 15 := by omega
        obtain ⟨b, off, rfl, hc⟩ := HA.out i hlt
        have hfz := HF.out i hlt
        unfold maxLen at hfz
        have hbw : b < w.heap.size := cell_lt' hc
        have hc := (hbo.cell (p := ⟨b, off + i, none⟩) hbw).trans hc
        generalize f i = s at hc hfz
        by_cases h3 : s.size ≤ 3000
        · have h3' : ¬ 3000 < (s.size : Int) := by omega
          have M1 : Hid (∀ w, Calls Try.prog 23 #[.string s] w fun e w' => e = .returned (.int .u64 (mk s : Int)) ∧ Below w.heap.size w w') := fun w => mark s (by omega) w
          have M2 : Hid (∀ w, Calls Try.prog 26 #[.string s] w fun e w' => e = .returned (.int .u64 (mk s : Int)) ∧ Below w.heap.size w w') := fun w => rmark s (by omega) w
          have T1 : Hid (∀ w, Calls Try.prog 24 #[.string s] w fun e w' => e = .returned (.tuple #[.int .u64 (mtV s : Int), .bool (s.size == 8)]) ∧ Below w.heap.size w w') := fun w => mtake s (by omega) w
          have T2 : Hid (∀ w, Calls Try.prog 25 #[.string s] w fun e w' => e = .returned (.tuple #[.int .u64 (mtV s : Int), .bool (s.size == 8)]) ∧ Below w.heap.size w w') := fun w => rmtake s (by omega) w
          have X1 : Hid (∀ w, Calls Try.prog 27 #[.int .u64 (mk s : Int)] w fun e w' => e = .returned (.string ⟨(mbs (mk s)).toArray⟩) ∧ Below w.heap.size w w') := fun w => mtext _ (mk_lt s) w
          have X2 : Hid (∀ w, Calls Try.prog 28 #[.int .u64 (mk s : Int)] w fun e w' => e = .returned (.string ⟨(mbs (mk s)).toArray⟩) ∧ Below w.heap.size w w') := fun w => rmtext _ (mk_lt s) w
          have T3 : Hid (∀ w, Calls Try.prog 24 #[.string ⟨(mbs (mk s)).toArray⟩] w fun e w' => e = .returned (.tuple #[.int .u64 (mk s : Int), .bool true]) ∧ Below w.heap.size w w') := fun w => by
            have := mtake ⟨(mbs (mk s)).toArray⟩ (by show 8 ≤ _; omega) w
            rw [mtV_mbs _ (mk_lt s)] at this
            exact this
          generalize mk s = m at *
          generalize mtV s = tv at *
          generalize (s.size == 8) = tk at *
          generalize (⟨(mbs m).toArray⟩ : ByteArray) = tx at *
          have hbA := hbo
          go_wp2_with fail
          refine (M1.out _).mono ?_
          rintro e w1 ⟨rfl, hb1⟩
          have hc := (hb1.cell (cell_lt' hc)).trans hc
          have hbA := hbA.trans (hb1.mono hbA.size)
          clear hb1
          go_wp2_with fail
          refine (T1.out _).mono ?_
          rintro e w1 ⟨rfl, hb1⟩
          have hc := (hb1.cell (cell_lt' hc)).trans hc
          have hbA := hbA.trans (hb1.mono hbA.size)
          clear hb1
          go_wp2_with fail
          refine (T2.out _).mono ?_
          rintro e w1 ⟨rfl, hb1⟩
          have hc := (hb1.cell (cell_lt' hc)).trans hc
          have hbA := hbA.trans (hb1.mono hbA.size)
          clear hb1
          go_wp2_with fail
          refine (M2.out _).mono ?_
          rintro e w1 ⟨rfl, hb1⟩
          have hc := (hb1.cell (cell_lt' hc)).trans hc
          have hbA := hbA.trans (hb1.mono hbA.size)
          clear hb1
          go_wp2_with fail
          refine (X1.out _).mono ?_
          rintro e w1 ⟨rfl, hb1⟩
          have hc := (hb1.cell (cell_lt' hc)).trans hc
          have hbA := hbA.trans (hb1.mono hbA.size)
          clear hb1
          go_wp2_with fail
          refine (X2.out _).mono ?_
          rintro e w1 ⟨rfl, hb1⟩
          have hc := (hb1.cell (cell_lt' hc)).trans hc
          have hbA := hbA.trans (hb1.mono hbA.size)
          clear hb1
          go_wp2_with fail
          refine (X1.out _).mono ?_
          rintro e w1 ⟨rfl, hb1⟩
          have hc := (hb1.cell (cell_lt' hc)).trans hc
          have hbA := hbA.trans (hb1.mono hbA.size)
          clear hb1
          go_wp2_with fail
          refine (T3.out _).mono ?_
          rintro e w1 ⟨rfl, hb1⟩
          have hc := (hb1.cell (cell_lt' hc)).trans hc
          have hbA := hbA.trans (hb1.mono hbA.size)
          clear hb1
          go_wp2_with fail
          go_roundw
          case rel => exact ⟨i + 1, by omega, by omega, by go_num, hbA⟩
          case measure => simp [intOf]; omega
        · have h3' : 3000 < (s.size : Int) := by omega
          go_wp2_with fail
          go_ret
          exact ⟨rfl, hbo⟩
      · have hlt2' : ¬ (i : Int) < 15 := by omega
        go_wp2_with (go_at_call 29; refine (wakes5 _).mono ?_; rintro e w1 ⟨rfl, hb1⟩)
        go_ret
        exact ⟨rfl, hbo.trans (hb1.mono hszr)⟩
    · have hlt' : ¬ (i : Int) < (len : Int) := by omega
      go_wp2_with (go_at_call 29; refine (wakes5 _).mono ?_; rintro e w1 ⟨rfl, hb1⟩)
      go_ret
      exact ⟨rfl, hbo.trans (hb1.mono hszr)⟩
end Go.Proofs.Ytliaegnhnnnojaa

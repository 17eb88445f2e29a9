import Derived.Test.YtnhmhedabdmnbaaBlF
set_option linter.unusedSimpArgs false
set_option linter.unusedVariables false
namespace Go.Proofs.Ytnhmhedabdmnbaa
open Go.RowKit

/-! The page's Fits. -/
theorem any_prs_true {p : Nat × ByteArray → Bool} {g : Nat → Nat} {f : Nat → ByteArray} {n k : Nat} (hk : k < n) (h : p (g k, f k) = true) : (prs g f n).any p = true := by
  refine List.any_eq_true.2 ⟨_, ?_, h⟩
  simp only [prs, List.mem_map, List.mem_range]
  exact ⟨k, hk, rfl⟩
theorem any_prs_false {p : Nat × ByteArray → Bool} {g : Nat → Nat} {f : Nat → ByteArray} {n : Nat} (h : ∀ k, k < n → p (g k, f k) = false) : (prs g f n).any p = false := by
  refine List.any_eq_false.2 fun x hx => ?_
  simp only [prs, List.mem_map, List.mem_range] at hx
  obtain ⟨k, hk, rfl⟩ := hx
  rw [h k hk]
  exact Bool.false_ne_true
set_option maxRecDepth 100000 in
set_option maxHeartbeats 2000000 in
theorem rfits_no (hl n : Nat) (aH aB : Option Addr) (cH cB : Nat) (g : Nat → Nat) (f : Nat → ByteArray) (w : World) (h : ¬ (cnts n = true ∧ hl = n)) (hn : n ≤ 9223372036854775807) (hln : hl ≤ 9223372036854775807) :
    Calls Try.prog 10 #[.slice aH hl cH, .slice aB n cB] w fun e w' => e = .returned (.int .i64 (fitE hl n g f)) ∧ w' = w := by
  have HV : Hid (fitE hl n g f = 1) := if_neg h
  by_cases h1 : (n : Int) < 1
  · clear h
    go_enter Try.func10, Try.ntmps10
    go_wp2
    go_ret
    exact ⟨by rw [HV.out]; rfl, rfl⟩
  · by_cases h4 : 4 < (n : Int)
    · clear h
      go_enter Try.func10, Try.ntmps10
      go_wp2
      go_ret
      exact ⟨by rw [HV.out]; rfl, rfl⟩
    · have hne : ((hl : Int) != (n : Int)) = true := by
        rw [bne_iff_ne]
        intro e
        exact h ⟨by simp [cnts]; omega, by omega⟩
      clear h
      go_enter Try.func10, Try.ntmps10
      go_wp2
      go_ret
      exact ⟨by rw [HV.out]; rfl, rfl⟩
set_option maxRecDepth 100000 in
set_option maxHeartbeats 2000000 in
theorem rfits_go (n : Nat) (aH aB : Option Addr) (cH cB : Nat) (g : Nat → Nat) (f : Nat → ByteArray) (w : World) (hc : cnts n = true)
    (hH : ∀ i, i < n → ∃ b off, aH = some ⟨b, off, none⟩ ∧ w.cell? ⟨b, off + i, none⟩ = some (.int .u64 (g i : Int))) (hB : ∀ i, i < n → ∃ b off, aB = some ⟨b, off, none⟩ ∧ w.cell? ⟨b, off + i, none⟩ = some (.string (f i))) :
    Calls Try.prog 10 #[.slice aH n cH, .slice aB n cB] w fun e w' => e = .returned (.int .i64 (fitE n n g f)) ∧ Below w.heap.size w w' := by
  have HV : Hid (fitE n n g f = if (prs g f n).any big then 2 else if (prs g f n).any unfit then 1 else 0) := if_pos ⟨hc, rfl⟩
  have hn : (1 : Int) ≤ n ∧ (n : Int) ≤ 4 := by simpa [cnts] using hc
  have h1 : ¬ (n : Int) < 1 := by omega
  have h4 : ¬ 4 < (n : Int) := by omega
  have hne : ((n : Int) != (n : Int)) = false := by rw [bne_eq_false_iff_eq]
  have HP : Hid ((∀ i, i < n → ∃ b off, aH = some ⟨b, off, none⟩ ∧ w.cell? ⟨b, off + i, none⟩ = some (.int .u64 (g i : Int))) ∧ (∀ i, i < n → ∃ b off, aB = some ⟨b, off, none⟩ ∧ w.cell? ⟨b, off + i, none⟩ = some (.string (f i)))) := ⟨hH, hB⟩
  clear hH hB hc hn
  go_enter Try.func10, Try.ntmps10
  go_wp2
  go_loopw [5] (fun i wr => ∃ k : Nat, k ≤ n ∧ i = .int .i64 k ∧ wr = w ∧ ∀ j, j < k → (f j).size ≤ 64) (fun i _ => n - (intOf i).toNat)
  case atStart => exact ⟨0, by omega, rfl, rfl, fun j hj => absurd hj (by omega)⟩
  case round =>
    obtain ⟨k, hk, rfl, rfl, hall⟩ := hrel
    have HAll : Hid (∀ j, j < k → (f j).size ≤ 64) := hall
    clear hall
    by_cases hlt : k < n
    · have hlt' : (k : Int) < (n : Int) := by omega
      obtain ⟨b, off, rfl, hcB⟩ := HP.out.2 k hlt
      by_cases hb : 64 < (f k).size
      · have hb' : 64 < ((f k).size : Int) := by omega
        have HR : Hid (fitE n n g f = 2) := by show _ = _; rw [HV.out, any_prs_true (p := big) hlt (by simp [big, hb])]; rfl
        clear HV
        go_wp2
        go_ret
        exact ⟨by rw [HR.out]; rfl, Below.refl _ _⟩
      · have hb' : ¬ 64 < ((f k).size : Int) := by omega
        go_wp2
        go_roundw
        case rel =>
          refine ⟨k + 1, by omega, by go_num, trivial, fun j hj => ?_⟩
          rcases Nat.lt_or_ge j k with h | h
          · exact HAll.out j h
          · obtain rfl : j = k := by omega
            omega
        case measure => simp [intOf]; omega
    · have hlt' : ¬ (k : Int) < (n : Int) := by omega
      obtain rfl : k = n := by omega
      have HB : Hid ((prs g f k).any big = false) := any_prs_false (p := big) fun j hj => by have := HAll.out j hj; simp [big]; omega
      have HV : Hid (fitE k k g f = if (prs g f k).any unfit then 1 else 0) := by show _ = _; rw [HV.out, HB.out]; rfl
      clear HB hlt hlt'
      go_wp2
      go_loopw [6] (fun i wq => ∃ j : Nat, j ≤ k ∧ i = .int .i64 j ∧ Below wr.heap.size wr wq ∧ ∀ l, l < j → mk (bl (f l)) = g l) (fun i _ => k - (intOf i).toNat)
      case atStart => exact ⟨0, by omega, rfl, Below.refl _ _, fun j hj => absurd hj (by omega)⟩
      case round =>
        obtain ⟨j, hj, rfl, hbq, hfit⟩ := hrel
        have HFit : Hid (∀ l, l < j → mk (bl (f l)) = g l) := hfit
        clear hfit
        by_cases hlt : j < k
        · have hlt' : (j : Int) < (k : Int) := by omega
          obtain ⟨b, off, rfl, hcB⟩ := HP.out.2 j hlt
          obtain ⟨b', off', rfl, hcH⟩ := HP.out.1 j hlt
          have hcB := (hbq.cell (cell_lt' hcB)).trans hcB
          have hcH := (hbq.cell (cell_lt' hcH)).trans hcH
          have hz := HAll.out j hlt
          have hh := fun w => rhash (f j) (by omega) w
          by_cases hb : mk (bl (f j)) = g j
          · rw [hb] at hh
            have HH : Hid (∀ w, Calls Try.prog 8 #[.string (f j)] w fun e w' => e = .returned (.int .u64 (g j : Int)) ∧ w' = w) := hh
            clear hh
            go_wp2_with fail
            go_quiet ((go_at_call 8; exact Calls.quiet_of_same (HH.out _)))
            go_wp2
            go_roundw
            case rel =>
              refine ⟨j + 1, by omega, by go_num, bdrewN hbq _, fun l hl => ?_⟩
              rcases Nat.lt_or_ge l j with h | h
              · exact HFit.out l h
              · obtain rfl : l = j := by omega
                exact hb
            case measure => simp [intOf]; omega
          · have HH : Hid (∀ w, Calls Try.prog 8 #[.string (f j)] w fun e w' => e = .returned (.int .u64 (mk (bl (f j)) : Int)) ∧ w' = w) := hh
            have HR : Hid (fitE k k g f = 1) := by show _ = _; rw [HV.out, any_prs_true (p := unfit) hlt (by simp [unfit, hb])]; rfl
            have hb' : ((g j : Int) != (mk (bl (f j)) : Int)) = true := by rw [bne_iff_ne]; omega
            clear hh
            generalize mk (bl (f j)) = m at *
            go_wp2_with fail
            go_quiet ((go_at_call 8; exact Calls.quiet_of_same (HH.out _)))
            go_wp2
            go_ret
            exact ⟨by rw [HR.out]; rfl, bdrewN hbq _⟩
        · have hlt' : ¬ (j : Int) < (k : Int) := by omega
          have HR : Hid (fitE k k g f = 0) := by show _ = _; rw [HV.out, any_prs_false (p := unfit) fun l hl => by simp [unfit]; exact HFit.out l (by omega)]; rfl
          go_wp2
          go_ret
          exact ⟨by rw [HR.out]; rfl, hbq⟩
end Go.Proofs.Ytnhmhedabdmnbaa

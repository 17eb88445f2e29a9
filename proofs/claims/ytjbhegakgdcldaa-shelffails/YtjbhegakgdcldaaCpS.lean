import Derived.Test.YtjbhegakgdcldaaRw0
set_option linter.unusedSimpArgs false
set_option linter.unusedVariables false
namespace Go.Proofs.Ytjbhegakgdcldaa
open Go.RowKit

/-! tarnref0.CopyStrings: new memory. -/
theorem copyStrings_take_succ (f : Nat → ByteArray) (k : Nat) : (List.range (k + 1)).map f = (List.range k).map f ++ [f k] := by simp [List.range_succ]
set_option maxRecDepth 100000 in
set_option maxHeartbeats 1000000 in
theorem copyStrings (v : Value) (f : Nat → ByteArray) (n : Nat) (w : World) (hs : Ss w v f n) (hn : n ≤ 1099511627776) :
    Calls Try.prog 36 #[v] w fun r w' => (∃ u, r = .returned u ∧ Or 9 cS w' w.heap.size u ((List.range n).map f)) ∧ Below w.heap.size w w' := by
  obtain ⟨-, -, ad, cap, rfl, hat⟩ := hs
  obtain ⟨i0, hi, hz0, hz1, hz2⟩ := info_of infoS
  have HA : Hid (∀ i, i < n → ∃ b off, ad = some ⟨b, off, none⟩ ∧ w.cell? ⟨b, off + i, none⟩ = some (cS (f i))) := hat
  clear hat
  go_enter Try.func36, Try.ntmps36
  go_wp2_with fail
  go_loopw [3, 4] (fun u i wr => ∃ (k : Nat), k ≤ n ∧ i = .int .i64 (k : Int) ∧ Or 9 cS wr w.heap.size u ((List.range k).map f) ∧ Below w.heap.size w wr) (fun _ i _ => n - (intOf i).toNat)
  case atStart => exact ⟨0, by omega, rfl, Or.nil _ _ _ _, Below.refl _ _⟩
  case round =>
    obtain ⟨k, hk, rfl, hown, hbl⟩ := hrel
    have hsz2 := hbl.size
    by_cases hlt : k < n
    · have hlt' : (k : Int) < (n : Int) := by omega
      obtain ⟨b, off, rfl, hc⟩ := HA.out k hlt
      have hc := (hbl.cell (cell_lt' hc)).trans hc
      have HST : Hid ((List.range (k + 1)).map f = (List.range k).map f ++ [f k]) := copyStrings_take_succ f k
      have hl : ((List.range k).map f).length = k := by simp
      obtain ⟨ad, cap, rfl, hcap⟩ := hown.shape
      have HO : Hid (Or 9 cS wr w.heap.size (.slice ad ((List.range k).map f).length cap) ((List.range k).map f)) := hown
      have hown : wr.ownsRow w.heap.size 9 1 (.slice ad ((List.range k).map f).length cap) ((List.range k).map f).length (((List.range k).map f).map cS) := hown
      rw [hl] at hown ⊢
      generalize f k = y at *
      go_wp2_with (at_builtin; refine wpList_append_own _ rfl _ _ 52 rfl w.heap.size 9 i0 (.string ⟨#[]⟩) 1 16 Try.underlying52 hi hz0 hz1 hz2 rfl (by decide) _ k _ rfl (hown.alloc _) ⟨wr.heap.size, 0, none⟩ 1 1 [cS y] rfl rfl (cell_one_new _ _ _) (by simp [Value.oneCell']) (by unfold maxLen; omega) (by omega) (by simp; omega) ?_; intro v1 w1 hown1 hgrow1 hnil1)
      go_roundw
      case rel =>
        refine ⟨k + 1, by omega, by go_num, ?_, ?_⟩
        · unfold Or
          rw [HST.out, List.map_append, List.length_append, hl]
          exact hown1
        · exact (hbl.alloc hsz2 _).grown hgrow1 (by simp; omega) (fun j hj => (HO.out.ge (by rw [hl]; exact hj)).1)
      case measure => simp [intOf]; omega
    · have hlt' : ¬ (k : Int) < (n : Int) := by omega
      obtain rfl : k = n := by omega
      go_wp2_with fail
      obtain ⟨ad', cap', rfl, hcap⟩ := hown.shape
      go_ret
      exact ⟨⟨_, rfl, hown⟩, hbl⟩
end Go.Proofs.Ytjbhegakgdcldaa

import Derived.Test.YtnhmhedabdmnbaaAsk6
import Derived.Deep.RegionHeld3
import Derived.Deep.DeepCutAuto
import Derived.BigRegion
set_option linter.unusedSimpArgs false
set_option linter.unusedVariables false
namespace Go.Proofs.Ytnhmhedabdmnbaa
open Go.RowKit

/-! tarnlaw6.BlobHashes, walked. -/
def Small6 (qs : List Q6) : Prop := ∀ q ∈ qs, ∀ i, i < q.n → (q.f i).size ≤ 1048576
set_option maxRecDepth 100000 in
set_option maxHeartbeats 4000000 in
theorem blobHashes_walk (v : Value) (qs : List Q6) (w : World) (hs : Sq6 w v qs) (hsm : Small6 qs) :
    Calls Try.prog 5 #[v] w fun e w' => e = .returned (.bool true) ∧ Below w.heap.size w w' := by
  have HSm : Hid (Small6 qs) := hsm
  obtain ⟨hlen, ad, cap, rfl, hat⟩ := hs
  have HA : Hid _ := hat
  clear hat hsm
  go_enter Try.func5, Try.ntmps5
  go_wp2_with fail
  go_loopw [3] (fun i wr => ∃ k : Nat, k ≤ qs.length ∧ k ≤ 12 ∧ i = .int .i64 k ∧ Below w.heap.size w wr) (fun i _ => qs.length - (intOf i).toNat)
  case atStart => exact ⟨0, by omega, by omega, rfl, Below.refl _ _⟩
  case round =>
    obtain ⟨i, hi, hi20, rfl, hbo⟩ := hrel
    by_cases hlt : i < qs.length
    · have hlt' : (i : Int) < (qs.length : Int) := by omega
      by_cases hlt2 : i < 12
      · have hlt2' : (i : Int) < 12 := by omega
        obtain ⟨b, off, rfl, aH, cH, aB, cB, c0, c1, c2, s0, s1, hk1, hk2⟩ := HA.out i hlt
        have hq : ∀ j, j < qs[i].n → (qs[i].f j).size ≤ 1048576 := HSm.out _ (List.getElem_mem hlt)
        have HC : Hid (w.cell? ⟨b, off + i * 3 + 1, none⟩ = some (.slice aB qs[i].n cB) ∧ Ss w (.slice aB qs[i].n cB) qs[i].f qs[i].n ∧ ∀ j, j < qs[i].n → (qs[i].f j).size ≤ 1048576) := ⟨c1, s1, hq⟩
        have hn := s1.1
        unfold maxLen at hn
        clear c0 c1 c2 s0 s1 hq
        generalize qs[i].f = f at *
        generalize qs[i].n = n at *
        have HB : Hid (Below w.heap.size w wr) := hbo
        clear hbo
        go_upto_region 4 with fail
        go_wp2_with fail
        go_loopw [4] (fun k wq => ∃ m : Nat, m ≤ n ∧ m ≤ 8 ∧ k = .int .i64 m ∧ Below w.heap.size w wq) (fun k _ => n - (intOf k).toNat)
        case atStart => exact ⟨0, by omega, by omega, rfl, HB.out⟩
        case round =>
          clear HB
          obtain ⟨m, hm, hm8, rfl, hB⟩ := hrel
          have c1 := (hB.cell (cell_lt' HC.out.1)).trans HC.out.1
          have HB : Hid (Below w.heap.size w wr) := hB
          by_cases hmn : m < n ∧ m < 8
          · obtain ⟨hmn, hmt⟩ := hmn
            have hmn' : (m : Int) < (n : Int) := by omega
            have hmt' : (m : Int) < 8 := by omega
            obtain ⟨-, b2, off2, rfl, hc⟩ := HC.out.2.1.at hmn
            have hz := HC.out.2.2 m hmn
            replace hc := (hB.cell (cell_lt' hc)).trans hc
            clear hB
            generalize f m = s at *
            have hz' : (s.size : Int) ≤ 1048576 := by omega
            go_upto_region 7 with fail
            go_cut [5] (fun u wx => ∃ (R : Nat) (T : Nat → ByteArray), u = .slice (some ⟨R, 0, none⟩) 4 4 ∧ (∀ j, j < 4 → wx.cell? ⟨R, j, none⟩ = some (.string (T j)) ∧ (T j).size ≤ 2097152) ∧ Below wr.heap.size wr wx)
            case first =>
              go_region
              go_wp2_with fail
              go_meet
              have bR : Bk (wr.alloc (.cells #[.string s, .string (s ++ ⟨#[120]⟩), .string (s ++ ⟨#[0]⟩), .string (⟨#[98, 108, 111, 98]⟩ ++ s)] 9)).drew wr.heap.size #[.string s, .string (s ++ ⟨#[120]⟩), .string (s ++ ⟨#[0]⟩), .string (⟨#[98, 108, 111, 98]⟩ ++ s)] 9 := (Bk.new _ _ _).drew
              refine ⟨wr.heap.size, fun j => if j = 0 then s else if j = 1 then s ++ ⟨#[120]⟩ else if j = 2 then s ++ ⟨#[0]⟩ else ⟨#[98, 108, 111, 98]⟩ ++ s, rfl, fun j hj => ?_, ((Below.refl _ _).alloc (Nat.le_refl _) _).drew⟩
              have : j = 0 ∨ j = 1 ∨ j = 2 ∨ j = 3 := by omega
              have z1 : ByteArray.size ⟨#[120]⟩ = 1 := rfl
              have z2 : ByteArray.size ⟨#[0]⟩ = 1 := rfl
              have z3 : ByteArray.size ⟨#[98, 108, 111, 98]⟩ = 4 := rfl
              rcases this with rfl | rfl | rfl | rfl
              · exact ⟨bR.cell 0, by simp; omega⟩
              · exact ⟨bR.cell 1, by simp [ByteArray.size_append]; omega⟩
              · exact ⟨bR.cell 2, by simp [ByteArray.size_append]; omega⟩
              · exact ⟨bR.cell 3, by simp [ByteArray.size_append]; omega⟩
            case rest =>
              obtain ⟨R, T, rfl, hT, hbc⟩ := hcut
              replace HB : Hid (Below w.heap.size w wc) := HB.out.trans (hbc.mono HB.out.size)
              have HT : Hid (∀ j, j < 4 → wc.cell? ⟨R, j, none⟩ = some (.string (T j)) ∧ (T j).size ≤ 2097152) := hT
              clear hT hbc c1 hc hz hz'
              go_wp2_with fail
              go_loopw [6] (fun u wq => ∃ j : Nat, j ≤ 4 ∧ u = .int .i64 j ∧ (∀ j, j < 4 → wq.cell? ⟨R, j, none⟩ = some (.string (T j))) ∧ Below w.heap.size w wq) (fun u _ => 4 - (intOf u).toNat)
              case atStart => exact ⟨0, by omega, rfl, fun j hj => (HT.out j hj).1, HB.out⟩
              case round =>
                clear HB
                obtain ⟨j, hj, rfl, hcs, hB⟩ := hrel
                have HB : Hid (Below w.heap.size w wr) := hB
                have HCs : Hid (∀ j, j < 4 → wr.cell? ⟨R, j, none⟩ = some (.string (T j))) := hcs
                clear hcs hB
                by_cases hj4 : j < 4
                · have hj4' : (j : Int) < 4 := by omega
                  have hcj := HCs.out j hj4
                  have hzj := (HT.out j hj4).2
                  generalize T j = t at hcj hzj
                  have HH : Hid (∀ w, Calls Try.prog 6 #[.string t] w fun e w' => e = .returned (.tuple #[.int .u64 (hV t : Int), .int .i64 (hE t)]) ∧ Below w.heap.size w w') := fun w => hash _ w
                  have HR : Hid (∀ w, Calls Try.prog 8 #[.string t] w fun e w' => e = .returned (.int .u64 (mk (bl t) : Int)) ∧ w' = w) := fun w => rhash _ (by omega) w
                  by_cases hz : 64 < t.size
                  · have hz' : 64 < (t.size : Int) := by omega
                    have hz2 : ¬ (t.size : Int) ≤ 64 := by omega
                    rw [show hV t = 0 from if_pos hz, show hE t = 2 from if_pos hz] at HH
                    clear hz
                    go_wp2_with fail
                    refine (HH.out _).mono ?_
                    rintro e w1 ⟨rfl, hb1⟩
                    replace hcj := (hb1.cell (cell_lt' hcj)).trans hcj
                    replace HCs : Hid (∀ j, j < 4 → w1.cell? ⟨R, j, none⟩ = some (.string (T j))) := fun j hj => (hb1.cell (cell_lt' (HCs.out j hj))).trans (HCs.out j hj)
                    replace HB : Hid (Below w.heap.size w w1) := HB.out.trans (hb1.mono HB.out.size)
                    clear hb1
                    go_wp2_with (first | (go_at_call 7; refine (num6 _ _).mono ?_; rintro e w2 ⟨rfl, rfl⟩) | (go_at_call 8; refine (HR.out _).mono ?_; rintro e w2 ⟨rfl, rfl⟩))
                    go_roundw
                    case rel => exact ⟨j + 1, by omega, by go_num, HCs.out, HB.out⟩
                    case measure => simp [intOf]; omega
                  · have hz' : ¬ 64 < (t.size : Int) := by omega
                    have hz2 : (t.size : Int) ≤ 64 := by omega
                    rw [show hV t = mk (bl t) from if_neg hz, show hE t = 0 from if_neg hz] at HH
                    clear hz
                    generalize mk (bl t) = y at *
                    go_wp2_with fail
                    refine (HH.out _).mono ?_
                    rintro e w1 ⟨rfl, hb1⟩
                    replace hcj := (hb1.cell (cell_lt' hcj)).trans hcj
                    replace HCs : Hid (∀ j, j < 4 → w1.cell? ⟨R, j, none⟩ = some (.string (T j))) := fun j hj => (hb1.cell (cell_lt' (HCs.out j hj))).trans (HCs.out j hj)
                    replace HB : Hid (Below w.heap.size w w1) := HB.out.trans (hb1.mono HB.out.size)
                    clear hb1
                    go_wp2_with (first | (go_at_call 7; refine (num6 _ _).mono ?_; rintro e w2 ⟨rfl, rfl⟩) | (go_at_call 8; refine (HR.out _).mono ?_; rintro e w2 ⟨rfl, rfl⟩))
                    go_roundw
                    case rel => exact ⟨j + 1, by omega, by go_num, HCs.out, HB.out⟩
                    case measure => simp [intOf]; omega
                · have hj4' : ¬ (j : Int) < 4 := by omega
                  go_wp2_with fail
                  go_roundw
                  case rel => exact ⟨m + 1, by omega, by omega, by go_num, HB.out⟩
                  case measure => simp [intOf]; omega
          · have hend : ¬ (m : Int) < (n : Int) ∨ ((m : Int) < (n : Int) ∧ ¬ (m : Int) < 8) := by
              by_cases h : (m : Int) < (n : Int)
              · exact .inr ⟨h, by omega⟩
              · exact .inl h
            clear hmn hB
            rcases hend with hend | ⟨hend, hend2⟩
            · go_wp2_with fail
              go_roundw
              case rel => exact ⟨i + 1, by omega, by omega, by go_num, HB.out⟩
              case measure => simp [intOf]; omega
            · go_wp2_with fail
              go_roundw
              case rel => exact ⟨i + 1, by omega, by omega, by go_num, HB.out⟩
              case measure => simp [intOf]; omega
      · have hlt2' : ¬ (i : Int) < 12 := by omega
        go_wp2_with (go_at_call 12; refine (wakes6 _).mono ?_; rintro e w1 ⟨rfl, rfl⟩)
        go_ret
        exact ⟨rfl, hbo⟩
    · have hlt' : ¬ (i : Int) < (qs.length : Int) := by omega
      go_wp2_with (go_at_call 12; refine (wakes6 _).mono ?_; rintro e w1 ⟨rfl, rfl⟩)
      go_ret
      exact ⟨rfl, hbo⟩
end Go.Proofs.Ytnhmhedabdmnbaa

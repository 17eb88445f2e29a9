import Derived.Test.YtadenpceddfapaaWakes
import Derived.Test.YtadenpceddfapaaAll
import Derived.Test.YtadenpceddfapaaTold
import Derived.Test.YtadenpceddfapaaRMul
import Derived.Test.YtadenpceddfapaaMul
import Derived.Deep.RegionWith
import Derived.Deep.DeepCutAuto
set_option linter.unusedSimpArgs false
set_option linter.unusedVariables false
namespace Go.Proofs.Ytadenpceddfapaa
open Go.RowKit

theorem told_mul (n m : Nat) (w : World) : Calls Try.prog 18 #[V (mulV n m), .int .i64 (mulOkE n m), V (mulV n m), .bool (mulOk n m)] w fun e w' => e = .returned (.bool true) ∧ Below w.heap.size w w' := by
  by_cases h : n * m < M256
  · have := told_yes (n * m) w
    simpa [mulV, mulOkE, mulOk, h] using this
  · have := told_no 0 w
    simpa [mulV, mulOkE, mulOk, h] using this
set_option maxRecDepth 100000 in
set_option maxHeartbeats 2000000 in
theorem numProducts_walk (v : Value) (ns : List Nat) (w : World) (hs : Sl w v ns) :
    Calls Try.prog 4 #[v] w fun e w' => e = .returned (.bool true) ∧ Below w.heap.size w w' := by
  go_enter Try.func4, Try.ntmps4
  go_wp2_with (go_at_call 13; refine (all_x v ns w hs).mono ?_; rintro e w1 ⟨v1, rfl, hs1, hb1⟩)
  clear hs
  obtain ⟨xs, hxs⟩ : ∃ xs, xs = ends ++ ns.take 12 := ⟨_, rfl⟩
  rw [← hxs] at hs1
  clear hxs
  obtain ⟨ad, cap, rfl, hat⟩ := hs1.at
  have HA : Hid (∀ i (hi : i < xs.length), ∃ b off, ad = some ⟨b, off, none⟩ ∧ w1.cell? ⟨b, off + i * 4, none⟩ = some (.int .u64 (lb xs[i] 0)) ∧ w1.cell? ⟨b, off + i * 4 + 1, none⟩ = some (.int .u64 (lb xs[i] 1)) ∧ w1.cell? ⟨b, off + i * 4 + 2, none⟩ = some (.int .u64 (lb xs[i] 2)) ∧ w1.cell? ⟨b, off + i * 4 + 3, none⟩ = some (.int .u64 (lb xs[i] 3))) := hat
  have HS : Hid (Sl w1 (.slice ad xs.length cap) xs) := hs1
  have hlen : xs.length ≤ 9223372036854775807 := hs1.2.1
  have hsz1 := hb1.size
  clear hat hs1
  go_wp2_with fail
  go_loopw [4] (fun i wr => ∃ k : Nat, k ≤ xs.length ∧ i = .int .i64 k ∧ Below w1.heap.size w1 wr) (fun i _ => xs.length - (intOf i).toNat)
  case atStart => exact ⟨0, by omega, rfl, Below.refl _ _⟩
  case round =>
    obtain ⟨i, hi, rfl, hbo⟩ := hrel
    obtain ⟨wo, rfl⟩ : ∃ wo : World, wo = wr := ⟨_, rfl⟩
    by_cases hlt : i < xs.length
    · go_wp2_with fail
      go_loopw [5] (fun j wr => ∃ k : Nat, k ≤ xs.length ∧ j = .int .i64 k ∧ Below w1.heap.size w1 wr) (fun j _ => xs.length - (intOf j).toNat)
      case atStart => exact ⟨0, by omega, rfl, hbo⟩
      case round =>
        clear hbo
        obtain ⟨k, hk, rfl, hbk⟩ := hrel
        by_cases hlt2 : k < xs.length
        · have hszr := hbk.size
          obtain ⟨b, off, rfl, hc0, hc1, hc2, hc3⟩ := HA.out i hlt
          obtain ⟨b', off', hab, hd0, hd1, hd2, hd3⟩ := HA.out k hlt2
          obtain ⟨rfl, rfl⟩ : b = b' ∧ off = off' := by simpa using hab
          clear hab
          have hc0 := (hbk.cell (p := ⟨b, off + i * 4, none⟩) (cell_lt hc0)).trans hc0
          have hc1 := (hbk.cell (p := ⟨b, off + i * 4 + 1, none⟩) (cell_lt hc1)).trans hc1
          have hc2 := (hbk.cell (p := ⟨b, off + i * 4 + 2, none⟩) (cell_lt hc2)).trans hc2
          have hc3 := (hbk.cell (p := ⟨b, off + i * 4 + 3, none⟩) (cell_lt hc3)).trans hc3
          have hd0 := (hbk.cell (p := ⟨b, off + k * 4, none⟩) (cell_lt hd0)).trans hd0
          have hd1 := (hbk.cell (p := ⟨b, off + k * 4 + 1, none⟩) (cell_lt hd1)).trans hd1
          have hd2 := (hbk.cell (p := ⟨b, off + k * 4 + 2, none⟩) (cell_lt hd2)).trans hd2
          have hd3 := (hbk.cell (p := ⟨b, off + k * 4 + 3, none⟩) (cell_lt hd3)).trans hd3
          have Hn : Hid (xs[i] < M256) := HS.out.1 _ (List.getElem_mem hlt)
          have Hm : Hid (xs[k] < M256) := HS.out.1 _ (List.getElem_mem hlt2)
          generalize xs[i] = n at hc0 hc1 hc2 hc3 Hn
          generalize xs[k] = m at hd0 hd1 hd2 hd3 Hm
          have hbw : b < wr.heap.size := cell_lt hc0
          have hbn : ¬ b = wr.heap.size := by omega
          go_upto_region 8 with fail
          go_cut [6, 7] (fun p e wx => ∃ B, p = .pointer (some ⟨B, 0, none⟩) ∧ wr.heap.size ≤ B ∧ Bk wx B (A4 (lb (mulV n m) 0) (lb (mulV n m) 1) (lb (mulV n m) 2) (lb (mulV n m) 3)) 26 ∧ e = .int .i64 (mulOkE n m) ∧ Below wr.heap.size wr wx)
          case first =>
            go_region_with (go_at_call 22; refine (mul n m Hn.out Hm.out _).mono ?_; rintro e w2 ⟨rfl, hb2⟩; have hsz2 := hb2.size; simp only [World.size_alloc, World.size_drew] at hsz2 hb2; try (have hz := (Bk.new wr (A4 0 0 0 0) 26).drew.below hb2 (by omega); have hz0 := hz.cell 0; have hz1 := hz.cell 1; have hz2 := hz.cell 2; have hz3 := hz.cell 3; have hf0 := hz.frozen 0; have hf1 := hz.frozen 1; have hf2 := hz.frozen 2; have hf3 := hz.frozen 3; simp only [List.getElem?_toArray, List.getElem?_cons_zero, List.getElem?_cons_succ] at hz0 hz1 hz2 hz3))
            all_goals
              go_wp2_with fail
              go_meet
              first
                | exact meetB hz hb2
                | exact meetA hsz2 hb2
          case rest =>
            obtain ⟨B1, rfl, hB1, hk1, rfl, hbx⟩ := hcut
            obtain ⟨wa, rfl⟩ : ∃ wa : World, wa = wc := ⟨_, rfl⟩
            have hsza := hbx.size
            have hc0 := (hbx.cell (p := ⟨b, off + i * 4, none⟩) hbw).trans hc0
            have hc1 := (hbx.cell (p := ⟨b, off + i * 4 + 1, none⟩) hbw).trans hc1
            have hc2 := (hbx.cell (p := ⟨b, off + i * 4 + 2, none⟩) hbw).trans hc2
            have hc3 := (hbx.cell (p := ⟨b, off + i * 4 + 3, none⟩) hbw).trans hc3
            have hd0 := (hbx.cell (p := ⟨b, off + k * 4, none⟩) hbw).trans hd0
            have hd1 := (hbx.cell (p := ⟨b, off + k * 4 + 1, none⟩) hbw).trans hd1
            have hd2 := (hbx.cell (p := ⟨b, off + k * 4 + 2, none⟩) hbw).trans hd2
            have hd3 := (hbx.cell (p := ⟨b, off + k * 4 + 3, none⟩) hbw).trans hd3
            have hbw2 : b < wa.heap.size := by omega
            have hbn2 : ¬ b = wa.heap.size := by omega
            go_upto_region 9 with fail
            go_cut [8, 9] (fun p e wx => ∃ B, p = .pointer (some ⟨B, 0, none⟩) ∧ wa.heap.size ≤ B ∧ Bk wx B (A4 (lb (mulV n m) 0) (lb (mulV n m) 1) (lb (mulV n m) 2) (lb (mulV n m) 3)) 26 ∧ e = .bool (mulOk n m) ∧ Below wa.heap.size wa wx)
            case first =>
              go_region_with (go_at_call 23; refine (rmul n m Hn.out Hm.out _).mono ?_; rintro e w2 ⟨rfl, hb2⟩; have hsz2 := hb2.size; simp only [World.size_alloc, World.size_drew] at hsz2 hb2; try (have hz := (Bk.new wa (A4 0 0 0 0) 26).drew.below hb2 (by omega); have hz0 := hz.cell 0; have hz1 := hz.cell 1; have hz2 := hz.cell 2; have hz3 := hz.cell 3; have hf0 := hz.frozen 0; have hf1 := hz.frozen 1; have hf2 := hz.frozen 2; have hf3 := hz.frozen 3; simp only [List.getElem?_toArray, List.getElem?_cons_zero, List.getElem?_cons_succ] at hz0 hz1 hz2 hz3))
              all_goals
                go_wp2_with fail
                go_meet
                first
                  | exact meetB hz hb2
                  | exact meetA hsz2 hb2
            case rest =>
              obtain ⟨B2, rfl, _, hk2, rfl, hby⟩ := hcut
              have hk1 := hk1.below hby hk1.lt
              have hszb := hby.size
              have p0 := hk1.cell 0
              have p1 := hk1.cell 1
              have p2 := hk1.cell 2
              have p3 := hk1.cell 3
              have q0 := hk2.cell 0
              have q1 := hk2.cell 1
              have q2 := hk2.cell 2
              have q3 := hk2.cell 3
              simp only [List.getElem?_toArray, List.getElem?_cons_zero, List.getElem?_cons_succ] at p0 p1 p2 p3 q0 q1 q2 q3
              clear hc0 hc1 hc2 hc3 hd0 hd1 hd2 hd3 hk1 hk2
              go_wp2_with (go_at_call 18; refine (told_mul n m _).mono ?_; rintro e w3 ⟨rfl, hb3⟩)
              go_roundw
              case rel => exact ⟨k + 1, by omega, by go_num, ((hbk.trans (hbx.mono (by omega))).trans (hby.mono (by omega))).trans (hb3.mono (by omega))⟩
              case measure => simp [intOf]; omega
        · go_wp2_with fail
          go_roundw
          case rel => exact ⟨i + 1, by omega, by go_num, hbk⟩
          case measure => simp [intOf]; omega
    · have hszo := hbo.size
      go_wp2_with (go_at_call 21; refine (wakes _).mono ?_; rintro e w4 ⟨rfl, hb4⟩)
      go_ret
      exact ⟨rfl, (hb1.trans (hbo.mono (by omega))).trans (hb4.mono (by omega))⟩
end Go.Proofs.Ytadenpceddfapaa

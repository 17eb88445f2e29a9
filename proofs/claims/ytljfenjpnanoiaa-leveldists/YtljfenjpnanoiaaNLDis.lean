import Derived.Test.YtljfenjpnanoiaaLvlE
import Derived.Test.YtljfenjpnanoiaaT3
import Derived.Test.YtljfenjpnanoiaaMeet
import Derived.Deep.RegionWith
import Derived.Deep.DeepCutAuto
import Derived.Deep.CutBlock
import Derived.Deep.RegionHeld3
set_option linter.unusedSimpArgs false
set_option linter.unusedVariables false
namespace Go.Proofs.Ytljfenjpnanoiaa
open Go.RowKit

set_option maxRecDepth 100000 in
set_option maxHeartbeats 4000000 in
theorem levelDists_walk (v : Value) (ns : List Nat) (w : World) (hs : Sl w v ns) :
    Calls Try.prog 6 #[v] w fun e w' => e = .returned (.bool true) ∧ Below w.heap.size w w' := by
  obtain ⟨ad, cap, rfl, hat⟩ := hs.at
  have HA : Hid (∀ i (hi : i < ns.length), ∃ b off, ad = some ⟨b, off, none⟩ ∧ w.cell? ⟨b, off + i * 4, none⟩ = some (.int .u64 (lb ns[i] 0)) ∧ w.cell? ⟨b, off + i * 4 + 1, none⟩ = some (.int .u64 (lb ns[i] 1)) ∧ w.cell? ⟨b, off + i * 4 + 2, none⟩ = some (.int .u64 (lb ns[i] 2)) ∧ w.cell? ⟨b, off + i * 4 + 3, none⟩ = some (.int .u64 (lb ns[i] 3))) := hat
  have HS : Hid (Sl w (.slice ad ns.length cap) ns) := hs
  have hlen : ns.length ≤ 9223372036854775807 := hs.2.1
  clear hat hs
  go_enter Try.func6, Try.ntmps6
  go_wp2_with fail
  go_loopw [3] (fun i wr => ∃ k : Nat, k ≤ ns.length ∧ k ≤ 15 ∧ i = .int .i64 k ∧ Below w.heap.size w wr) (fun i _ => 15 - (intOf i).toNat)
  case atStart => exact ⟨0, by omega, by omega, rfl, Below.refl _ _⟩
  case round =>
    obtain ⟨i, hi1, hi2, rfl, hbo⟩ := hrel
    have hszo := hbo.size
    by_cases hlt : i < ns.length
    · have hlt' : (i : Int) < (ns.length : Int) := by omega
      by_cases hlt2 : i < 15
      · focus
          have hlt3 : (i : Int) < 15 := by omega
          go_wp2_with fail
          go_loopw [4] (fun j wr => ∃ k : Nat, k ≤ i ∧ j = .int .i64 k ∧ Below w.heap.size w wr) (fun j _ => i - (intOf j).toNat)
          case atStart => exact ⟨0, by omega, rfl, hbo⟩
          case round =>
            clear hbo hszo
            obtain ⟨k, hk, rfl, hbk⟩ := hrel
            by_cases hki : k < i
            · have hszr := hbk.size
              have hki' : (k : Int) < (i : Int) := by omega
              have hk' : (k : Int) < (ns.length : Int) := by omega
              have h0' : (0 : Int) < (ns.length : Int) := by omega
              have h0n : 0 < ns.length := by omega
              have hkn : k < ns.length := by omega
              obtain ⟨b, off, rfl, hc0, hc1, hc2, hc3⟩ := HA.out i hlt
              obtain ⟨b', off', hab, hd0, hd1, hd2, hd3⟩ := HA.out k (by omega)
              obtain ⟨rfl, rfl⟩ : b = b' ∧ off = off' := by simpa using hab
              obtain ⟨b'', off'', hab', he0, he1, he2, he3⟩ := HA.out 0 (by omega)
              obtain ⟨rfl, rfl⟩ : b = b'' ∧ off = off'' := by simpa using hab'
              clear hab hab'
              have hc0 := (hbk.cell (p := ⟨b, off + i * 4, none⟩) (cell_lt hc0)).trans hc0
              have hc1 := (hbk.cell (p := ⟨b, off + i * 4 + 1, none⟩) (cell_lt hc1)).trans hc1
              have hc2 := (hbk.cell (p := ⟨b, off + i * 4 + 2, none⟩) (cell_lt hc2)).trans hc2
              have hc3 := (hbk.cell (p := ⟨b, off + i * 4 + 3, none⟩) (cell_lt hc3)).trans hc3
              have hd0 := (hbk.cell (p := ⟨b, off + k * 4, none⟩) (cell_lt hd0)).trans hd0
              have hd1 := (hbk.cell (p := ⟨b, off + k * 4 + 1, none⟩) (cell_lt hd1)).trans hd1
              have hd2 := (hbk.cell (p := ⟨b, off + k * 4 + 2, none⟩) (cell_lt hd2)).trans hd2
              have hd3 := (hbk.cell (p := ⟨b, off + k * 4 + 3, none⟩) (cell_lt hd3)).trans hd3
              have he0 := (hbk.cell (p := ⟨b, off + 0 * 4, none⟩) (cell_lt he0)).trans he0
              have he1 := (hbk.cell (p := ⟨b, off + 0 * 4 + 1, none⟩) (cell_lt he1)).trans he1
              have he2 := (hbk.cell (p := ⟨b, off + 0 * 4 + 2, none⟩) (cell_lt he2)).trans he2
              have he3 := (hbk.cell (p := ⟨b, off + 0 * 4 + 3, none⟩) (cell_lt he3)).trans he3
              simp only [Nat.zero_mul, Nat.add_zero] at he0 he1 he2 he3
              have Hn : Hid (ns[i] < M256) := HS.out.1 _ (List.getElem_mem _)
              have Hm : Hid (ns[k] < M256) := HS.out.1 _ (List.getElem_mem _)
              have Hq : Hid (ns[0] < M256) := HS.out.1 _ (List.getElem_mem _)
              generalize ns[i] = n at hc0 hc1 hc2 hc3 Hn
              generalize ns[k] = m at hd0 hd1 hd2 hd3 Hm
              generalize ns[0] = q at he0 he1 he2 he3 Hq
              have hT : T3 b (off + i * 4) (off + k * 4) off n m q wr wr := ⟨hc0, hc1, hc2, hc3, hd0, hd1, hd2, hd3, he0, he1, he2, he3, Below.refl _ _⟩
              have b1 := lvl_le Hn.out
              have b2 := lvl_le Hm.out
              have b3 := lvl_le Hq.out
              go_upto_region 7 with fail
              go_cut [5] (fun d wx => d = .int .i64 ((lvl n : Int) - (lvl m : Int)) ∧ T3 b (off + i * 4) (off + k * 4) off n m q wr wx)
              case first =>
                go_region_held3 (fun w' => w'.cell? ⟨b, off + i * 4, none⟩ = some (.int .u64 (lb n 0)) ∧ w'.cell? ⟨b, off + i * 4 + 1, none⟩ = some (.int .u64 (lb n 1)) ∧ w'.cell? ⟨b, off + i * 4 + 2, none⟩ = some (.int .u64 (lb n 2)) ∧ w'.cell? ⟨b, off + i * 4 + 3, none⟩ = some (.int .u64 (lb n 3)) ∧ w'.cell? ⟨b, off + k * 4, none⟩ = some (.int .u64 (lb m 0)) ∧ w'.cell? ⟨b, off + k * 4 + 1, none⟩ = some (.int .u64 (lb m 1)) ∧ w'.cell? ⟨b, off + k * 4 + 2, none⟩ = some (.int .u64 (lb m 2)) ∧ w'.cell? ⟨b, off + k * 4 + 3, none⟩ = some (.int .u64 (lb m 3)) ∧ w'.cell? ⟨b, off, none⟩ = some (.int .u64 (lb q 0)) ∧ w'.cell? ⟨b, off + 1, none⟩ = some (.int .u64 (lb q 1)) ∧ w'.cell? ⟨b, off + 2, none⟩ = some (.int .u64 (lb q 2)) ∧ w'.cell? ⟨b, off + 3, none⟩ = some (.int .u64 (lb q 3)) ∧ Below wr.heap.size wr w') ((show T3 b (off + i * 4) (off + k * 4) off n m q wr _; repeat (first | with_reducible exact hT | with_reducible refine T3.drew ?_))) ((go_at_call 14; refine (dist _ _ (by first | exact Hn.out | exact Hm.out | exact Hq.out) (by first | exact Hn.out | exact Hm.out | exact Hq.out) _).mono ?_; rintro e w2 ⟨rfl, hb2⟩; have hT := T3.below (b := b) (o := off + i * 4) (p := off + k * 4) (q := off) (a := n) (c := m) (d := q) (w0 := wr) (by repeat (first | with_reducible exact hT | with_reducible refine T3.drew ?_)) hb2))
                all_goals
                  go_wp2_with fail
                  go_meet
                  exact ⟨rfl, hT⟩
              case rest =>
                obtain ⟨rfl, hT⟩ := hcut
                obtain ⟨wa, rfl⟩ : ∃ wa : World, wa = wc := ⟨_, rfl⟩
                have hT0 := hT
                obtain ⟨hc0, hc1, hc2, hc3, hd0, hd1, hd2, hd3, he0, he1, he2, he3, hBx⟩ := hT0
                have hne : ((lvl m : Int) - (lvl n : Int) != -((lvl n : Int) - (lvl m : Int))) = false := by rw [bne_eq_false_iff_eq]; omega
                have hne2 : ((lvl n : Int) - (lvl q : Int) + ((lvl q : Int) - (lvl m : Int)) != (lvl n : Int) - (lvl m : Int)) = false := by rw [bne_eq_false_iff_eq]; omega
                have hw1 : IntKind.i64.wrap ((lvl n : Int) - (lvl m : Int)) = (lvl n : Int) - (lvl m : Int) := by rw [IntKind.wrap_i64]; omega
                have hw2 : IntKind.i64.wrap (-((lvl n : Int) - (lvl m : Int))) = -((lvl n : Int) - (lvl m : Int)) := by rw [IntKind.wrap_i64]; omega
                have hw3 : IntKind.i64.wrap ((lvl n : Int) - (lvl q : Int) + ((lvl q : Int) - (lvl m : Int))) = (lvl n : Int) - (lvl q : Int) + ((lvl q : Int) - (lvl m : Int)) := by rw [IntKind.wrap_i64]; omega
                have hne0 : ((lvl n : Int) - (lvl m : Int) != (lvl n : Int) - (lvl m : Int)) = false := by rw [bne_eq_false_iff_eq]
                go_upto_region 8 with fail
                go_region_held3 (fun w' => w'.cell? ⟨b, off + i * 4, none⟩ = some (.int .u64 (lb n 0)) ∧ w'.cell? ⟨b, off + i * 4 + 1, none⟩ = some (.int .u64 (lb n 1)) ∧ w'.cell? ⟨b, off + i * 4 + 2, none⟩ = some (.int .u64 (lb n 2)) ∧ w'.cell? ⟨b, off + i * 4 + 3, none⟩ = some (.int .u64 (lb n 3)) ∧ w'.cell? ⟨b, off + k * 4, none⟩ = some (.int .u64 (lb m 0)) ∧ w'.cell? ⟨b, off + k * 4 + 1, none⟩ = some (.int .u64 (lb m 1)) ∧ w'.cell? ⟨b, off + k * 4 + 2, none⟩ = some (.int .u64 (lb m 2)) ∧ w'.cell? ⟨b, off + k * 4 + 3, none⟩ = some (.int .u64 (lb m 3)) ∧ w'.cell? ⟨b, off, none⟩ = some (.int .u64 (lb q 0)) ∧ w'.cell? ⟨b, off + 1, none⟩ = some (.int .u64 (lb q 1)) ∧ w'.cell? ⟨b, off + 2, none⟩ = some (.int .u64 (lb q 2)) ∧ w'.cell? ⟨b, off + 3, none⟩ = some (.int .u64 (lb q 3)) ∧ Below wr.heap.size wr w') ((show T3 b (off + i * 4) (off + k * 4) off n m q wr _; repeat (first | with_reducible exact hT | with_reducible refine T3.drew ?_))) (first | (go_at_call 14; refine (dist _ _ (by first | exact Hn.out | exact Hm.out | exact Hq.out) (by first | exact Hn.out | exact Hm.out | exact Hq.out) _).mono ?_; rintro e w2 ⟨rfl, hb2⟩; have hT := T3.below (b := b) (o := off + i * 4) (p := off + k * 4) (q := off) (a := n) (c := m) (d := q) (w0 := wr) (by repeat (first | with_reducible exact hT | with_reducible refine T3.drew ?_)) hb2) | (go_at_call 12; refine (rlevel _ (by first | exact Hn.out | exact Hm.out | exact Hq.out) _).mono ?_; rintro e w2 ⟨rfl, hb2⟩; have hT := T3.below (b := b) (o := off + i * 4) (p := off + k * 4) (q := off) (a := n) (c := m) (d := q) (w0 := wr) (by repeat (first | with_reducible exact hT | with_reducible refine T3.drew ?_)) hb2))
                clear hw1 hw2 hw3 hne hne2 hne0
                go_wp2_with fail
                go_roundw
                case rel => exact ⟨k + 1, by omega, by go_num, hbk.trans (hT.bel.mono (by omega))⟩
                case measure => simp [intOf]; omega
            · have hki' : decide ((k : Int) < (i : Int)) = false := by simp; omega
              go_wp2_with fail
              go_roundw
              case rel => exact ⟨i + 1, by omega, by omega, by go_num, hbk⟩
              case measure => simp [intOf]; omega
      · have hb8 : decide ((i : Int) < 15) = false := by simp; omega
        go_wp2_with (go_at_call 15; refine (wakes3 _).mono ?_; rintro e w4 ⟨rfl, hb4⟩)
        go_ret
        exact ⟨rfl, hbo.trans (hb4.mono (by omega))⟩
    · have hb9 : decide ((i : Int) < (ns.length : Int)) = false := by simp; omega
      go_wp2_with (go_at_call 15; refine (wakes3 _).mono ?_; rintro e w4 ⟨rfl, hb4⟩)
      go_ret
      exact ⟨rfl, hbo.trans (hb4.mono (by omega))⟩
end Go.Proofs.Ytljfenjpnanoiaa

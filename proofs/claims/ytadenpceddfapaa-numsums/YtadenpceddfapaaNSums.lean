import Derived.Test.YtadenpceddfapaaWakes
import Derived.Test.YtadenpceddfapaaAll
import Derived.Test.YtadenpceddfapaaCmp
import Derived.Test.YtadenpceddfapaaRCmp
import Derived.Test.YtadenpceddfapaaAdd
import Derived.Test.YtadenpceddfapaaRAdd
import Derived.Test.YtadenpceddfapaaSub
import Derived.Test.YtadenpceddfapaaRSub
import Derived.Test.YtadenpceddfapaaTold
import Derived.Test.YtadenpceddfapaaPCmp0
import Derived.Deep.RegionHeld
import Derived.Deep.DeepCutAuto
set_option linter.unusedSimpArgs false
set_option linter.unusedVariables false
namespace Go.Proofs.Ytadenpceddfapaa
open Go.RowKit

def E8 (b p q n m : Nat) (w' : World) : Prop := w'.cell? ⟨b, p, none⟩ = some (.int .u64 (lb n 0)) ∧ w'.cell? ⟨b, p + 1, none⟩ = some (.int .u64 (lb n 1)) ∧ w'.cell? ⟨b, p + 2, none⟩ = some (.int .u64 (lb n 2)) ∧ w'.cell? ⟨b, p + 3, none⟩ = some (.int .u64 (lb n 3)) ∧ w'.cell? ⟨b, q, none⟩ = some (.int .u64 (lb m 0)) ∧ w'.cell? ⟨b, q + 1, none⟩ = some (.int .u64 (lb m 1)) ∧ w'.cell? ⟨b, q + 2, none⟩ = some (.int .u64 (lb m 2)) ∧ w'.cell? ⟨b, q + 3, none⟩ = some (.int .u64 (lb m 3))
theorem E8.of {b p q n m nn : Nat} {w W w' : World} (h : E8 b p q n m w) (hb : Below nn W w') (hW : ∀ o, W.cell? ⟨b, o, none⟩ = w.cell? ⟨b, o, none⟩) (hl : b < nn) : E8 b p q n m w' := by
  obtain ⟨h0, h1, h2, h3, h4, h5, h6, h7⟩ := h
  exact ⟨below_at hb hl ((hW _).trans h0), below_at hb hl ((hW _).trans h1), below_at hb hl ((hW _).trans h2), below_at hb hl ((hW _).trans h3), below_at hb hl ((hW _).trans h4), below_at hb hl ((hW _).trans h5), below_at hb hl ((hW _).trans h6), below_at hb hl ((hW _).trans h7)⟩
theorem told_addS (n m : Nat) (w : World) : Calls Try.prog 18 #[V (addV n m), .int .i64 (addOkE n m), V (addV n m), .bool (addOk n m)] w fun e w' => e = .returned (.bool true) ∧ Below w.heap.size w w' := by
  by_cases h : n + m < M256
  · have := told_yes (n + m) w
    simpa [addV, addOkE, addOk, h] using this
  · have := told_no 0 w
    simpa [addV, addOkE, addOk, h] using this
theorem told_subS (n m : Nat) (w : World) : Calls Try.prog 18 #[V (subV n m), .int .i64 (subOkE n m), V (subV n m), .bool (subOk n m)] w fun e w' => e = .returned (.bool true) ∧ Below w.heap.size w w' := by
  by_cases h : m ≤ n
  · have := told_yes (n - m) w
    simpa [subV, subOkE, subOk, h] using this
  · have := told_no 0 w
    simpa [subV, subOkE, subOk, h] using this
def S24 (b p q n m x y B1 B2 B3 B4 : Nat) (w' : World) : Prop := w'.cell? ⟨b, p, none⟩ = some (.int .u64 (lb n 0)) ∧ w'.cell? ⟨b, p + 1, none⟩ = some (.int .u64 (lb n 1)) ∧ w'.cell? ⟨b, p + 2, none⟩ = some (.int .u64 (lb n 2)) ∧ w'.cell? ⟨b, p + 3, none⟩ = some (.int .u64 (lb n 3)) ∧ w'.cell? ⟨b, q, none⟩ = some (.int .u64 (lb m 0)) ∧ w'.cell? ⟨b, q + 1, none⟩ = some (.int .u64 (lb m 1)) ∧ w'.cell? ⟨b, q + 2, none⟩ = some (.int .u64 (lb m 2)) ∧ w'.cell? ⟨b, q + 3, none⟩ = some (.int .u64 (lb m 3)) ∧ w'.cell? ⟨B1, 0, none⟩ = some (.int .u64 (lb x 0)) ∧ w'.cell? ⟨B1, 1, none⟩ = some (.int .u64 (lb x 1)) ∧ w'.cell? ⟨B1, 2, none⟩ = some (.int .u64 (lb x 2)) ∧ w'.cell? ⟨B1, 3, none⟩ = some (.int .u64 (lb x 3)) ∧ w'.cell? ⟨B2, 0, none⟩ = some (.int .u64 (lb y 0)) ∧ w'.cell? ⟨B2, 1, none⟩ = some (.int .u64 (lb y 1)) ∧ w'.cell? ⟨B2, 2, none⟩ = some (.int .u64 (lb y 2)) ∧ w'.cell? ⟨B2, 3, none⟩ = some (.int .u64 (lb y 3)) ∧ w'.cell? ⟨B3, 0, none⟩ = some (.int .u64 (lb x 0)) ∧ w'.cell? ⟨B3, 1, none⟩ = some (.int .u64 (lb x 1)) ∧ w'.cell? ⟨B3, 2, none⟩ = some (.int .u64 (lb x 2)) ∧ w'.cell? ⟨B3, 3, none⟩ = some (.int .u64 (lb x 3)) ∧ w'.cell? ⟨B4, 0, none⟩ = some (.int .u64 (lb y 0)) ∧ w'.cell? ⟨B4, 1, none⟩ = some (.int .u64 (lb y 1)) ∧ w'.cell? ⟨B4, 2, none⟩ = some (.int .u64 (lb y 2)) ∧ w'.cell? ⟨B4, 3, none⟩ = some (.int .u64 (lb y 3))
theorem S24.below {b p q n m x y B1 B2 B3 B4 : Nat} {w w' : World} (h : S24 b p q n m x y B1 B2 B3 B4 w) (hb : Below w.heap.size w w') : S24 b p q n m x y B1 B2 B3 B4 w' := by
  obtain ⟨h0, h1, h2, h3, h4, h5, h6, h7, h8, h9, h10, h11, h12, h13, h14, h15, h16, h17, h18, h19, h20, h21, h22, h23⟩ := h
  exact ⟨below_at hb (cell_lt h0) h0, below_at hb (cell_lt h1) h1, below_at hb (cell_lt h2) h2, below_at hb (cell_lt h3) h3, below_at hb (cell_lt h4) h4, below_at hb (cell_lt h5) h5, below_at hb (cell_lt h6) h6, below_at hb (cell_lt h7) h7, below_at hb (cell_lt h8) h8, below_at hb (cell_lt h9) h9, below_at hb (cell_lt h10) h10, below_at hb (cell_lt h11) h11, below_at hb (cell_lt h12) h12, below_at hb (cell_lt h13) h13, below_at hb (cell_lt h14) h14, below_at hb (cell_lt h15) h15, below_at hb (cell_lt h16) h16, below_at hb (cell_lt h17) h17, below_at hb (cell_lt h18) h18, below_at hb (cell_lt h19) h19, below_at hb (cell_lt h20) h20, below_at hb (cell_lt h21) h21, below_at hb (cell_lt h22) h22, below_at hb (cell_lt h23) h23⟩
theorem S24.drew {b p q n m x y B1 B2 B3 B4 : Nat} {w : World} (h : S24 b p q n m x y B1 B2 B3 B4 w) : S24 b p q n m x y B1 B2 B3 B4 w.drew := h.below ((Below.refl _ w).drew)
set_option maxRecDepth 100000 in
set_option maxHeartbeats 16000000 in
theorem numSums_walk (v : Value) (ns : List Nat) (w : World) (hs : Sl w v ns) :
    Calls Try.prog 3 #[v] w fun e w' => e = .returned (.bool true) ∧ Below w.heap.size w w' := by
  go_enter Try.func3, Try.ntmps3
  go_wp2_with (go_at_call 13; refine (all_x v ns w hs).mono ?_; rintro e w1 ⟨v1, rfl, hs1, hb1⟩)
  clear hs
  obtain ⟨xs, hxs⟩ : ∃ xs, xs = ends ++ ns.take 12 := ⟨_, rfl⟩
  rw [← hxs] at hs1
  clear hxs
  obtain ⟨ad, cap, rfl, hat⟩ := hs1.at
  have HA : Hid (∀ i (hi : i < xs.length), ∃ b off, ad = some ⟨b, off, none⟩ ∧ w1.cell? ⟨b, off + i * 4, none⟩ = some (.int .u64 (lb xs[i] 0)) ∧ w1.cell? ⟨b, off + i * 4 + 1, none⟩ = some (.int .u64 (lb xs[i] 1)) ∧ w1.cell? ⟨b, off + i * 4 + 2, none⟩ = some (.int .u64 (lb xs[i] 2)) ∧ w1.cell? ⟨b, off + i * 4 + 3, none⟩ = some (.int .u64 (lb xs[i] 3))) := hat
  have HS : Hid (Sl w1 (.slice ad xs.length cap) xs) := hs1
  have hlen : xs.length ≤ 9223372036854775807 := hs1.2.1
  have hsz1 := hb1.size
  clear hat hs1
  go_wp2_with fail
  go_loopw [4] (fun i wr => ∃ k : Nat, k ≤ xs.length ∧ i = .int .i64 k ∧ Below w1.heap.size w1 wr) (fun i _ => xs.length - (intOf i).toNat)
  case atStart => exact ⟨0, by omega, rfl, Below.refl _ _⟩
  case round =>
    obtain ⟨i, hi, rfl, hbo⟩ := hrel
    obtain ⟨wo, rfl⟩ : ∃ wo : World, wo = wr := ⟨_, rfl⟩
    by_cases hlt : i < xs.length
    · go_wp2_with fail
      go_loopw [5] (fun j wr => ∃ k : Nat, k ≤ xs.length ∧ j = .int .i64 k ∧ Below w1.heap.size w1 wr) (fun j _ => xs.length - (intOf j).toNat)
      case atStart => exact ⟨0, by omega, rfl, hbo⟩
      case round =>
        clear hbo
        obtain ⟨k, hk, rfl, hbk⟩ := hrel
        by_cases hlt2 : k < xs.length
        · have hszr := hbk.size
          obtain ⟨b, off, rfl, hc0, hc1, hc2, hc3⟩ := HA.out i hlt
          obtain ⟨b', off', hab, hd0, hd1, hd2, hd3⟩ := HA.out k hlt2
          obtain ⟨rfl, rfl⟩ : b = b' ∧ off = off' := by simpa using hab
          have Hn : Hid (xs[i] < M256) := HS.out.1 _ (List.getElem_mem hlt)
          have Hm : Hid (xs[k] < M256) := HS.out.1 _ (List.getElem_mem hlt2)
          generalize xs[i] = n at hc0 hc1 hc2 hc3 Hn
          generalize xs[k] = m at hd0 hd1 hd2 hd3 Hm
          have hbw : b < w1.heap.size := cell_lt hc0
          replace hc0 := below_at hbk hbw hc0
          replace hc1 := below_at hbk hbw hc1
          replace hc2 := below_at hbk hbw hc2
          replace hc3 := below_at hbk hbw hc3
          replace hd0 := below_at hbk hbw hd0
          replace hd1 := below_at hbk hbw hd1
          replace hd2 := below_at hbk hbw hd2
          replace hd3 := below_at hbk hbw hd3
          clear hab
          have hb0 : Below w1.heap.size w1 wr := hbk
          clear hbk
          have hbwwr : b < wr.heap.size := cell_lt hc0
          have hbnwr : ¬ b = wr.heap.size := by omega
          go_upto_region 8 with fail
          go_cut [6, 7] (fun p e wx => ∃ B, p = .pointer (some ⟨B, 0, none⟩) ∧ wr.heap.size ≤ B ∧ Bk wx B (A4 (lb (addV n m) 0) (lb (addV n m) 1) (lb (addV n m) 2) (lb (addV n m) 3)) 26 ∧ e = .int .i64 (addOkE n m) ∧ Below wr.heap.size wr wx)
          case first =>
            go_region_with (go_at_call 14; refine (add n m Hn.out Hm.out _).mono ?_; rintro e w2 ⟨rfl, hb2⟩; have hsz2 := hb2.size; simp only [World.size_alloc, World.size_drew] at hsz2 hb2; try (have hz := (Bk.new wr (A4 0 0 0 0) 26).drew.below hb2 (by omega); have hz0 := hz.cell 0; have hz1 := hz.cell 1; have hz2 := hz.cell 2; have hz3 := hz.cell 3; have hf0 := hz.frozen 0; have hf1 := hz.frozen 1; have hf2 := hz.frozen 2; have hf3 := hz.frozen 3; simp only [List.getElem?_toArray, List.getElem?_cons_zero, List.getElem?_cons_succ] at hz0 hz1 hz2 hz3))
            all_goals
              go_wp2_with fail
              go_meet
              first
                | exact meetB hz hb2
                | exact meetA hsz2 hb2
          case rest =>
            obtain ⟨B1, rfl, hgB1, hkB1, rfl, hbwa⟩ := hcut
            obtain ⟨wa, rfl⟩ : ∃ wa : World, wa = wc := ⟨_, rfl⟩
            have hszwa := hbwa.size
            replace hc0 := below_at hbwa hbwwr hc0
            replace hc1 := below_at hbwa hbwwr hc1
            replace hc2 := below_at hbwa hbwwr hc2
            replace hc3 := below_at hbwa hbwwr hc3
            replace hd0 := below_at hbwa hbwwr hd0
            replace hd1 := below_at hbwa hbwwr hd1
            replace hd2 := below_at hbwa hbwwr hd2
            replace hd3 := below_at hbwa hbwwr hd3
            have hbwwa : b < wa.heap.size := cell_lt hc0
            have hbnwa : ¬ b = wa.heap.size := by omega
            go_upto_region 9 with fail
            go_cut [8, 9] (fun p e wx => ∃ B, p = .pointer (some ⟨B, 0, none⟩) ∧ wa.heap.size ≤ B ∧ Bk wx B (A4 (lb (subV n m) 0) (lb (subV n m) 1) (lb (subV n m) 2) (lb (subV n m) 3)) 26 ∧ e = .int .i64 (subOkE n m) ∧ Below wa.heap.size wa wx)
            case first =>
              go_region_with (go_at_call 15; refine (sub n m Hn.out Hm.out _).mono ?_; rintro e w2 ⟨rfl, hb2⟩; have hsz2 := hb2.size; simp only [World.size_alloc, World.size_drew] at hsz2 hb2; try (have hz := (Bk.new wa (A4 0 0 0 0) 26).drew.below hb2 (by omega); have hz0 := hz.cell 0; have hz1 := hz.cell 1; have hz2 := hz.cell 2; have hz3 := hz.cell 3; have hf0 := hz.frozen 0; have hf1 := hz.frozen 1; have hf2 := hz.frozen 2; have hf3 := hz.frozen 3; simp only [List.getElem?_toArray, List.getElem?_cons_zero, List.getElem?_cons_succ] at hz0 hz1 hz2 hz3))
              all_goals
                go_wp2_with fail
                go_meet
                first
                  | exact meetB hz hb2
                  | exact meetA hsz2 hb2
            case rest =>
              obtain ⟨B2, rfl, hgB2, hkB2, rfl, hbwb⟩ := hcut
              obtain ⟨wb, rfl⟩ : ∃ wb : World, wb = wc := ⟨_, rfl⟩
              have hszwb := hbwb.size
              have hkB1 := hkB1.below hbwb hkB1.lt
              replace hc0 := below_at hbwb hbwwa hc0
              replace hc1 := below_at hbwb hbwwa hc1
              replace hc2 := below_at hbwb hbwwa hc2
              replace hc3 := below_at hbwb hbwwa hc3
              replace hd0 := below_at hbwb hbwwa hd0
              replace hd1 := below_at hbwb hbwwa hd1
              replace hd2 := below_at hbwb hbwwa hd2
              replace hd3 := below_at hbwb hbwwa hd3
              have hbwwb : b < wb.heap.size := cell_lt hc0
              have hbnwb : ¬ b = wb.heap.size := by omega
              go_upto_region 10 with fail
              go_cut [10, 11] (fun p e wx => ∃ B, p = .pointer (some ⟨B, 0, none⟩) ∧ wb.heap.size ≤ B ∧ Bk wx B (A4 (lb (addV n m) 0) (lb (addV n m) 1) (lb (addV n m) 2) (lb (addV n m) 3)) 26 ∧ e = .bool (addOk n m) ∧ Below wb.heap.size wb wx)
              case first =>
                go_region_with (go_at_call 16; refine (radd n m Hn.out Hm.out _).mono ?_; rintro e w2 ⟨rfl, hb2⟩; have hsz2 := hb2.size; simp only [World.size_alloc, World.size_drew] at hsz2 hb2; try (have hz := (Bk.new wb (A4 0 0 0 0) 26).drew.below hb2 (by omega); have hz0 := hz.cell 0; have hz1 := hz.cell 1; have hz2 := hz.cell 2; have hz3 := hz.cell 3; have hf0 := hz.frozen 0; have hf1 := hz.frozen 1; have hf2 := hz.frozen 2; have hf3 := hz.frozen 3; simp only [List.getElem?_toArray, List.getElem?_cons_zero, List.getElem?_cons_succ] at hz0 hz1 hz2 hz3))
                all_goals
                  go_wp2_with fail
                  go_meet
                  first
                    | exact meetB hz hb2
                    | exact meetA hsz2 hb2
              case rest =>
                obtain ⟨B3, rfl, hgB3, hkB3, rfl, hbwd⟩ := hcut
                obtain ⟨wd, rfl⟩ : ∃ wd : World, wd = wc := ⟨_, rfl⟩
                have hszwd := hbwd.size
                have hkB1 := hkB1.below hbwd hkB1.lt
                have hkB2 := hkB2.below hbwd hkB2.lt
                replace hc0 := below_at hbwd hbwwb hc0
                replace hc1 := below_at hbwd hbwwb hc1
                replace hc2 := below_at hbwd hbwwb hc2
                replace hc3 := below_at hbwd hbwwb hc3
                replace hd0 := below_at hbwd hbwwb hd0
                replace hd1 := below_at hbwd hbwwb hd1
                replace hd2 := below_at hbwd hbwwb hd2
                replace hd3 := below_at hbwd hbwwb hd3
                have hbwwd : b < wd.heap.size := cell_lt hc0
                have hbnwd : ¬ b = wd.heap.size := by omega
                go_upto_region 11 with fail
                go_cut [12, 13] (fun p e wx => ∃ B, p = .pointer (some ⟨B, 0, none⟩) ∧ wd.heap.size ≤ B ∧ Bk wx B (A4 (lb (subV n m) 0) (lb (subV n m) 1) (lb (subV n m) 2) (lb (subV n m) 3)) 26 ∧ e = .bool (subOk n m) ∧ Below wd.heap.size wd wx)
                case first =>
                  go_region_with (go_at_call 17; refine (rsub n m Hn.out Hm.out _).mono ?_; rintro e w2 ⟨rfl, hb2⟩; have hsz2 := hb2.size; simp only [World.size_alloc, World.size_drew] at hsz2 hb2; try (have hz := (Bk.new wd (A4 0 0 0 0) 26).drew.below hb2 (by omega); have hz0 := hz.cell 0; have hz1 := hz.cell 1; have hz2 := hz.cell 2; have hz3 := hz.cell 3; have hf0 := hz.frozen 0; have hf1 := hz.frozen 1; have hf2 := hz.frozen 2; have hf3 := hz.frozen 3; simp only [List.getElem?_toArray, List.getElem?_cons_zero, List.getElem?_cons_succ] at hz0 hz1 hz2 hz3))
                  all_goals
                    go_wp2_with fail
                    go_meet
                    first
                      | exact meetB hz hb2
                      | exact meetA hsz2 hb2
                case rest =>
                  obtain ⟨B4, rfl, hgB4, hkB4, rfl, hbwe⟩ := hcut
                  obtain ⟨we, rfl⟩ : ∃ we : World, we = wc := ⟨_, rfl⟩
                  have hszwe := hbwe.size
                  have hkB1 := hkB1.below hbwe hkB1.lt
                  have hkB2 := hkB2.below hbwe hkB2.lt
                  have hkB3 := hkB3.below hbwe hkB3.lt
                  replace hc0 := below_at hbwe hbwwd hc0
                  replace hc1 := below_at hbwe hbwwd hc1
                  replace hc2 := below_at hbwe hbwwd hc2
                  replace hc3 := below_at hbwe hbwwd hc3
                  replace hd0 := below_at hbwe hbwwd hd0
                  replace hd1 := below_at hbwe hbwwd hd1
                  replace hd2 := below_at hbwe hbwwd hd2
                  replace hd3 := below_at hbwe hbwwd hd3
                  have hT : S24 b (off + i * 4) (off + k * 4) n m (addV n m) (subV n m) B1 B2 B3 B4 we := ⟨hc0, hc1, hc2, hc3, hd0, hd1, hd2, hd3, hkB1.cell 0, hkB1.cell 1, hkB1.cell 2, hkB1.cell 3, hkB2.cell 0, hkB2.cell 1, hkB2.cell 2, hkB2.cell 3, hkB3.cell 0, hkB3.cell 1, hkB3.cell 2, hkB3.cell 3, hkB4.cell 0, hkB4.cell 1, hkB4.cell 2, hkB4.cell 3⟩
                  have hbs : Below we.heap.size we we := Below.refl _ _
                  have hcc : (cmpV n m != cmpV n m) = false := by simp
                  clear hc0 hc1 hc2 hc3 hd0 hd1 hd2 hd3 hkB1 hkB2 hkB3 hkB4
                  go_upto_region 12 with fail
                  go_region_held (fun w' => w'.cell? ⟨b, off + i * 4, none⟩ = some (.int .u64 (lb n 0)) ∧ w'.cell? ⟨b, off + i * 4 + 1, none⟩ = some (.int .u64 (lb n 1)) ∧ w'.cell? ⟨b, off + i * 4 + 2, none⟩ = some (.int .u64 (lb n 2)) ∧ w'.cell? ⟨b, off + i * 4 + 3, none⟩ = some (.int .u64 (lb n 3)) ∧ w'.cell? ⟨b, off + k * 4, none⟩ = some (.int .u64 (lb m 0)) ∧ w'.cell? ⟨b, off + k * 4 + 1, none⟩ = some (.int .u64 (lb m 1)) ∧ w'.cell? ⟨b, off + k * 4 + 2, none⟩ = some (.int .u64 (lb m 2)) ∧ w'.cell? ⟨b, off + k * 4 + 3, none⟩ = some (.int .u64 (lb m 3)) ∧ w'.cell? ⟨B1, 0, none⟩ = some (.int .u64 (lb (addV n m) 0)) ∧ w'.cell? ⟨B1, 1, none⟩ = some (.int .u64 (lb (addV n m) 1)) ∧ w'.cell? ⟨B1, 2, none⟩ = some (.int .u64 (lb (addV n m) 2)) ∧ w'.cell? ⟨B1, 3, none⟩ = some (.int .u64 (lb (addV n m) 3)) ∧ w'.cell? ⟨B2, 0, none⟩ = some (.int .u64 (lb (subV n m) 0)) ∧ w'.cell? ⟨B2, 1, none⟩ = some (.int .u64 (lb (subV n m) 1)) ∧ w'.cell? ⟨B2, 2, none⟩ = some (.int .u64 (lb (subV n m) 2)) ∧ w'.cell? ⟨B2, 3, none⟩ = some (.int .u64 (lb (subV n m) 3)) ∧ w'.cell? ⟨B3, 0, none⟩ = some (.int .u64 (lb (addV n m) 0)) ∧ w'.cell? ⟨B3, 1, none⟩ = some (.int .u64 (lb (addV n m) 1)) ∧ w'.cell? ⟨B3, 2, none⟩ = some (.int .u64 (lb (addV n m) 2)) ∧ w'.cell? ⟨B3, 3, none⟩ = some (.int .u64 (lb (addV n m) 3)) ∧ w'.cell? ⟨B4, 0, none⟩ = some (.int .u64 (lb (subV n m) 0)) ∧ w'.cell? ⟨B4, 1, none⟩ = some (.int .u64 (lb (subV n m) 1)) ∧ w'.cell? ⟨B4, 2, none⟩ = some (.int .u64 (lb (subV n m) 2)) ∧ w'.cell? ⟨B4, 3, none⟩ = some (.int .u64 (lb (subV n m) 3))) (first | exact S24.drew hT | exact hT) (first | (go_at_call_of 18 (Value.bool (addOk n m)); refine (told_addS n m _).mono ?_; rintro e w3 ⟨rfl, hb3⟩; (first | (have hT := S24.below (S24.drew hT) hb3; have hbs := below_step hbs hb3) | (have hT := S24.below hT hb3; have hbs := below_step2 hbs hb3))) | (go_at_call_of 18 (Value.bool (subOk n m)); refine (told_subS n m _).mono ?_; rintro e w3 ⟨rfl, hb3⟩; (first | (have hT := S24.below (S24.drew hT) hb3; have hbs := below_step hbs hb3) | (have hT := S24.below hT hb3; have hbs := below_step2 hbs hb3))) | (go_at_call 19; refine (cmp n m Hn.out Hm.out _).mono ?_; rintro e w3 ⟨rfl, hb3⟩; (first | (have hT := S24.below (S24.drew hT) hb3; have hbs := below_step hbs hb3) | (have hT := S24.below hT hb3; have hbs := below_step2 hbs hb3))) | (go_at_call 20; refine (rcmp n m Hn.out Hm.out _).mono ?_; rintro e w3 ⟨rfl, hb3⟩; (first | (have hT := S24.below (S24.drew hT) hb3; have hbs := below_step hbs hb3) | (have hT := S24.below hT hb3; have hbs := below_step2 hbs hb3))))
                  have hbq : Below w1.heap.size w1 we := (((hb0.trans (hbwa.mono (by omega))).trans (hbwb.mono (by omega))).trans (hbwd.mono (by omega))).trans (hbwe.mono (by omega))
                  clear hT hb0 hbwa hbwb hbwd hbwe
                  go_wp2_with fail
                  go_roundw
                  case rel => exact ⟨k + 1, by omega, by go_num, hbq.trans (hbs.mono (by omega))⟩
                  case measure => simp [intOf]; omega
        · go_wp2_with fail
          go_roundw
          case rel => exact ⟨i + 1, by omega, by go_num, hbk⟩
          case measure => simp [intOf]; omega
    · have hszo := hbo.size
      go_wp2_with (go_at_call 21; refine (wakes _).mono ?_; rintro e w4 ⟨rfl, hb4⟩)
      go_ret
      exact ⟨rfl, (hb1.trans (hbo.mono (by omega))).trans (hb4.mono (by omega))⟩
end Go.Proofs.Ytadenpceddfapaa

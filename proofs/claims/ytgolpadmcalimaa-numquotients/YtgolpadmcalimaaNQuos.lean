import Derived.Test.YtgolpadmcalimaaWakes
import Derived.Test.YtgolpadmcalimaaAll
import Derived.Test.YtgolpadmcalimaaNumE
import Derived.Test.YtgolpadmcalimaaDivC
import Derived.Test.YtgolpadmcalimaaRDiv
import Derived.Test.YtgolpadmcalimaaPCmp0
import Derived.Deep.RegionWith
import Derived.Test.YtgolpadmcalimaaBlk
import Derived.Deep.RegionHeld3
import Derived.Laws.NewBlocks
import Derived.Deep.DeepCutAuto
set_option linter.unusedSimpArgs false
set_option linter.unusedVariables false
namespace Go.Proofs.Ytgolpadmcalimaa
open Go.RowKit

/-- Two numbers of a list, cell by cell. -/
def Two2 (b o p n m : Nat) (w' : World) : Prop := w'.cell? ⟨b, o, none⟩ = some (.int .u64 (lb n 0)) ∧ w'.cell? ⟨b, o + 1, none⟩ = some (.int .u64 (lb n 1)) ∧ w'.cell? ⟨b, o + 2, none⟩ = some (.int .u64 (lb n 2)) ∧ w'.cell? ⟨b, o + 3, none⟩ = some (.int .u64 (lb n 3)) ∧ w'.cell? ⟨b, p, none⟩ = some (.int .u64 (lb m 0)) ∧ w'.cell? ⟨b, p + 1, none⟩ = some (.int .u64 (lb m 1)) ∧ w'.cell? ⟨b, p + 2, none⟩ = some (.int .u64 (lb m 2)) ∧ w'.cell? ⟨b, p + 3, none⟩ = some (.int .u64 (lb m 3))
theorem Two2.below {b o p n m : Nat} {w w' : World} (h : Two2 b o p n m w) (hb : Below w.heap.size w w') : Two2 b o p n m w' := by
  obtain ⟨h0, h1, h2, h3, h4, h5, h6, h7⟩ := h
  exact ⟨below_at hb (cell_lt h0) h0, below_at hb (cell_lt h1) h1, below_at hb (cell_lt h2) h2, below_at hb (cell_lt h3) h3, below_at hb (cell_lt h4) h4, below_at hb (cell_lt h5) h5, below_at hb (cell_lt h6) h6, below_at hb (cell_lt h7) h7⟩
theorem Two2.drew {b o p n m : Nat} {w : World} (h : Two2 b o p n m w) : Two2 b o p n m w.drew := h
theorem Two2.alloc {b o p n m : Nat} {w : World} (h : Two2 b o p n m w) (x : Obj) : Two2 b o p n m (w.alloc x) := h.below ((Below.refl _ w).alloc (Nat.le_refl _) x)
theorem Two2.set {b o p n m : Nat} {w : World} (h : Two2 b o p n m w) {a : Addr} (ha : b ≠ a.block) (u : Value) : Two2 b o p n m (w.setCell a u) := by
  have e : ∀ i, (w.setCell a u).cell? ⟨b, i, none⟩ = w.cell? ⟨b, i, none⟩ := fun i => World.cell?_of_block (Below.heap_setCell w a u b ha)
  unfold Two2; simp only [e]; exact h
set_option maxRecDepth 100000 in
set_option maxHeartbeats 2000000 in
theorem numQuotients_walk (v : Value) (ns : List Nat) (w : World) (hs : Sl w v ns) :
    Calls Try.prog 10 #[v] w fun e w' => e = .returned (.bool true) ∧ Below w.heap.size w w' := by
  go_enter Try.func10, Try.ntmps10
  go_wp2_with (go_at_call 25; refine (all_x v ns w hs).mono ?_; rintro e w1 ⟨v1, rfl, hs1, hb1⟩)
  clear hs
  obtain ⟨xs, hxs⟩ : ∃ xs, xs = ends ++ ns.take 12 := ⟨_, rfl⟩
  rw [← hxs] at hs1
  clear hxs
  obtain ⟨ad, cap, rfl, hat⟩ := hs1.at
  have HA : Hid (∀ i (hi : i < xs.length), ∃ b off, ad = some ⟨b, off, none⟩ ∧ w1.cell? ⟨b, off + i * 4, none⟩ = some (.int .u64 (lb xs[i] 0)) ∧ w1.cell? ⟨b, off + i * 4 + 1, none⟩ = some (.int .u64 (lb xs[i] 1)) ∧ w1.cell? ⟨b, off + i * 4 + 2, none⟩ = some (.int .u64 (lb xs[i] 2)) ∧ w1.cell? ⟨b, off + i * 4 + 3, none⟩ = some (.int .u64 (lb xs[i] 3))) := hat
  have HS : Hid (Sl w1 (.slice ad xs.length cap) xs) := hs1
  have hlen : xs.length ≤ 9223372036854775807 := hs1.2.1
  have hsz1 := hb1.size
  clear hat hs1
  go_wp2_with fail
  go_loopw [4] (fun i wr => ∃ k : Nat, k ≤ xs.length ∧ i = .int .i64 k ∧ Below w1.heap.size w1 wr) (fun i _ => xs.length - (intOf i).toNat)
  case atStart => exact ⟨0, by omega, rfl, Below.refl _ _⟩
  case round =>
    obtain ⟨i, hi, rfl, hbo⟩ := hrel
    obtain ⟨wo, rfl⟩ : ∃ wo : World, wo = wr := ⟨_, rfl⟩
    by_cases hlt : i < xs.length
    · go_wp2_with fail
      go_loopw [5] (fun j wr => ∃ k : Nat, k ≤ xs.length ∧ j = .int .i64 k ∧ Below w1.heap.size w1 wr) (fun j _ => xs.length - (intOf j).toNat)
      case atStart => exact ⟨0, by omega, rfl, hbo⟩
      case round =>
        clear hbo
        obtain ⟨k, hk, rfl, hbk⟩ := hrel
        by_cases hlt2 : k < xs.length
        · have hszr := hbk.size
          obtain ⟨b, off, rfl, hc0, hc1, hc2, hc3⟩ := HA.out i hlt
          obtain ⟨b', off', hab, hd0, hd1, hd2, hd3⟩ := HA.out k hlt2
          obtain ⟨rfl, rfl⟩ : b = b' ∧ off = off' := by simpa using hab
          clear hab
          have hc0 := (hbk.cell (p := ⟨b, off + i * 4, none⟩) (cell_lt hc0)).trans hc0
          have hc1 := (hbk.cell (p := ⟨b, off + i * 4 + 1, none⟩) (cell_lt hc1)).trans hc1
          have hc2 := (hbk.cell (p := ⟨b, off + i * 4 + 2, none⟩) (cell_lt hc2)).trans hc2
          have hc3 := (hbk.cell (p := ⟨b, off + i * 4 + 3, none⟩) (cell_lt hc3)).trans hc3
          have hd0 := (hbk.cell (p := ⟨b, off + k * 4, none⟩) (cell_lt hd0)).trans hd0
          have hd1 := (hbk.cell (p := ⟨b, off + k * 4 + 1, none⟩) (cell_lt hd1)).trans hd1
          have hd2 := (hbk.cell (p := ⟨b, off + k * 4 + 2, none⟩) (cell_lt hd2)).trans hd2
          have hd3 := (hbk.cell (p := ⟨b, off + k * 4 + 3, none⟩) (cell_lt hd3)).trans hd3
          have Hn : Hid (xs[i] < M256) := HS.out.1 _ (List.getElem_mem hlt)
          have Hm : Hid (xs[k] < M256) := HS.out.1 _ (List.getElem_mem hlt2)
          generalize xs[i] = n at hc0 hc1 hc2 hc3 Hn
          generalize xs[k] = m at hd0 hd1 hd2 hd3 Hm
          have hbw : b < wr.heap.size := cell_lt hc0
          have hbn : ¬ b = wr.heap.size := by omega
          go_upto_region 8 with fail
          go_cut [6, 7, 8] (fun p r e wx => ∃ B C, p = .pointer (some ⟨B, 0, none⟩) ∧ r = .pointer (some ⟨C, 0, none⟩) ∧ Bk wx B (A4 (lb (n / m) 0) (lb (n / m) 1) (lb (n / m) 2) (lb (n / m) 3)) 25 ∧ Bk wx C (A4 (lb (divR n m) 0) (lb (divR n m) 1) (lb (divR n m) 2) (lb (divR n m) 3)) 25 ∧ e = .int .i64 (divE m) ∧ Below wr.heap.size wr wx)
          case first =>
            have hT : Two2 b (off + i * 4) (off + k * 4) n m wr := ⟨hc0, hc1, hc2, hc3, hd0, hd1, hd2, hd3⟩
            go_region_held3 (fun w' => w'.cell? ⟨b, off + i * 4, none⟩ = some (.int .u64 (lb n 0)) ∧ w'.cell? ⟨b, off + i * 4 + 1, none⟩ = some (.int .u64 (lb n 1)) ∧ w'.cell? ⟨b, off + i * 4 + 2, none⟩ = some (.int .u64 (lb n 2)) ∧ w'.cell? ⟨b, off + i * 4 + 3, none⟩ = some (.int .u64 (lb n 3)) ∧ w'.cell? ⟨b, off + k * 4, none⟩ = some (.int .u64 (lb m 0)) ∧ w'.cell? ⟨b, off + k * 4 + 1, none⟩ = some (.int .u64 (lb m 1)) ∧ w'.cell? ⟨b, off + k * 4 + 2, none⟩ = some (.int .u64 (lb m 2)) ∧ w'.cell? ⟨b, off + k * 4 + 3, none⟩ = some (.int .u64 (lb m 3))) ((show Two2 b (off + i * 4) (off + k * 4) n m _; repeat (first | with_reducible exact hT | with_reducible refine Two2.drew ?_ | with_reducible refine Two2.alloc ?_ _ | with_reducible refine Two2.set ?_ (by simp <;> omega) _))) ((go_at_call 26; refine (div n m Hn.out Hm.out _).mono ?_; rintro e w2 ⟨rfl, hb2⟩; have hT := Two2.below (b := b) (o := off + i * 4) (p := off + k * 4) (n := n) (m := m) (by repeat (first | with_reducible exact hT | with_reducible refine Two2.drew ?_ | with_reducible refine Two2.alloc ?_ _)) hb2; have hsz2 := hb2.size; simp only [World.size_alloc, World.size_drew] at hsz2 hb2; have bw : Below wr.heap.size wr w2 := Below.trans (by repeat (first | with_reducible exact Below.refl _ _ | with_reducible refine Below.drew ?_ | with_reducible refine Below.alloc ?_ (by first | omega | (simp <;> omega)) _)) (hb2.mono (by omega)); try (have hz := Bk.below (b := wr.heap.size) (vs := A4 0 0 0 0) (t := 25) (by first | with_reducible exact (Bk.new wr _ _).drew | with_reducible exact ((Bk.new wr _ _).alloc _).drew | with_reducible exact Bk.new wr _ _ | with_reducible exact (Bk.new wr _ _).alloc _) hb2 (by omega); have lz := hz.lt; have nz : ¬ wr.heap.size = w2.heap.size := (by omega); have z0 := hz.cell 0; have zf0 := hz.frozen 0; have z1 := hz.cell 1; have zf1 := hz.frozen 1; have z2 := hz.cell 2; have zf2 := hz.frozen 2; have z3 := hz.cell 3; have zf3 := hz.frozen 3; simp only [List.getElem?_toArray, List.getElem?_cons_zero, List.getElem?_cons_succ] at z0 z1 z2 z3); try (have hy := Bk.below (b := wr.heap.size + 1) (vs := A4 0 0 0 0) (t := 25) (by first | with_reducible exact (Bk.new' (wr.alloc _) _ _ (by simp)).drew | with_reducible exact Bk.new' (wr.alloc _) _ _ (by simp)) hb2 (by omega); have ly := hy.lt; have ny : ¬ wr.heap.size + 1 = w2.heap.size := (by omega); have y0 := hy.cell 0; have yf0 := hy.frozen 0; have y1 := hy.cell 1; have yf1 := hy.frozen 1; have y2 := hy.cell 2; have yf2 := hy.frozen 2; have y3 := hy.cell 3; have yf3 := hy.frozen 3; simp only [List.getElem?_toArray, List.getElem?_cons_zero, List.getElem?_cons_succ] at y0 y1 y2 y3)))
            all_goals
              go_wp2_with fail
              go_meet
              refine ⟨_, _, rfl, rfl, ?_, ?_, rfl, ?_⟩
              · repeat (first | with_reducible exact hz | with_reducible exact hy | with_reducible exact Bk.new _ _ _ | with_reducible exact Bk.new' _ _ _ (by simp) | with_reducible refine set4_Bk (x0 := .int .u64 0) (x1 := .int .u64 0) (x2 := .int .u64 0) (x3 := .int .u64 0) ?_ _ _ _ _ | with_reducible refine set4_other ?_ (by omega) _ _ _ _ | with_reducible refine Bk.alloc ?_ _)
              · repeat (first | with_reducible exact hz | with_reducible exact hy | with_reducible exact Bk.new _ _ _ | with_reducible exact Bk.new' _ _ _ (by simp) | with_reducible refine set4_Bk (x0 := .int .u64 0) (x1 := .int .u64 0) (x2 := .int .u64 0) (x3 := .int .u64 0) ?_ _ _ _ _ | with_reducible refine set4_other ?_ (by omega) _ _ _ _ | with_reducible refine Bk.alloc ?_ _)
              · repeat (first | with_reducible exact bw | with_reducible refine set4_below ?_ (by omega) _ _ _ _ | with_reducible refine Below.alloc ?_ (by first | omega | (simp <;> omega)) _)
          case rest =>
            obtain ⟨B1, C1, rfl, rfl, hk1, hr1, rfl, hbx⟩ := hcut
            obtain ⟨wa, rfl⟩ : ∃ wa : World, wa = wc := ⟨_, rfl⟩
            have hsza := hbx.size
            have hc0 := (hbx.cell (p := ⟨b, off + i * 4, none⟩) hbw).trans hc0
            have hc1 := (hbx.cell (p := ⟨b, off + i * 4 + 1, none⟩) hbw).trans hc1
            have hc2 := (hbx.cell (p := ⟨b, off + i * 4 + 2, none⟩) hbw).trans hc2
            have hc3 := (hbx.cell (p := ⟨b, off + i * 4 + 3, none⟩) hbw).trans hc3
            have hd0 := (hbx.cell (p := ⟨b, off + k * 4, none⟩) hbw).trans hd0
            have hd1 := (hbx.cell (p := ⟨b, off + k * 4 + 1, none⟩) hbw).trans hd1
            have hd2 := (hbx.cell (p := ⟨b, off + k * 4 + 2, none⟩) hbw).trans hd2
            have hd3 := (hbx.cell (p := ⟨b, off + k * 4 + 3, none⟩) hbw).trans hd3
            have hbw2 : b < wa.heap.size := by omega
            have hbn2 : ¬ b = wa.heap.size := by omega
            have lk1 := hk1.lt
            have lr1 := hr1.lt
            have p0 := hk1.cell 0
            have pf0 := hk1.frozen 0
            have p1 := hk1.cell 1
            have pf1 := hk1.frozen 1
            have p2 := hk1.cell 2
            have pf2 := hk1.frozen 2
            have p3 := hk1.cell 3
            have pf3 := hk1.frozen 3
            simp only [List.getElem?_toArray, List.getElem?_cons_zero, List.getElem?_cons_succ] at p0 p1 p2 p3
            have r0 := hr1.cell 0
            have rf0 := hr1.frozen 0
            have r1 := hr1.cell 1
            have rf1 := hr1.frozen 1
            have r2 := hr1.cell 2
            have rf2 := hr1.frozen 2
            have r3 := hr1.cell 3
            have rf3 := hr1.frozen 3
            simp only [List.getElem?_toArray, List.getElem?_cons_zero, List.getElem?_cons_succ] at r0 r1 r2 r3
            by_cases hm0 : m = 0
            · have hE : divE m = 3 := if_pos hm0
              have hq0 : n / m = 0 := by rw [hm0, Nat.div_zero]
              have hr0 : divR n m = 0 := if_pos hm0
              have he0 : ∀ w, (binOp .eql 25 (V m) (.agg (A4 0 0 0 0))).run Try.prog w = .ok (.bool true) w := fun w => by rw [eql26_0 m Hm.out, hm0]; rfl
              have he1 : ∀ w, (binOp .neq 25 (V (n / m)) (.agg (A4 0 0 0 0))).run Try.prog w = .ok (.bool false) w := fun w => by rw [hq0, neq26_0 0 (by decide)]; rfl
              have he2 : ∀ w, (binOp .neq 25 (V (divR n m)) (.agg (A4 0 0 0 0))).run Try.prog w = .ok (.bool false) w := fun w => by rw [hr0, neq26_0 0 (by decide)]; rfl
              rw [hE]
              clear hm0 hE hq0 hr0 hc0 hc1 hc2 hc3
              go_wp2_with (go_at_call 27; refine (num_any _ _).mono ?_; rintro e w3 ⟨rfl, rfl⟩)
              go_roundw
              case rel => exact ⟨k + 1, by omega, by go_num, hbk.trans (hbx.mono (by omega))⟩
              case measure => simp [intOf]; omega
            · have hE : divE m = 0 := if_neg hm0
              have hr0 : divR n m = n % m := if_neg hm0
              have he0 : ∀ w, (binOp .eql 25 (V m) (.agg (A4 0 0 0 0))).run Try.prog w = .ok (.bool false) w := fun w => by rw [eql26_0 m Hm.out]; simp [hm0]
              have HP : Hid (0 < m) := Nat.pos_of_ne_zero hm0
              rw [hE]
              have HR : Hid (divR n m = n % m) := hr0
              clear hm0 hE hr0
              go_upto_region 12 with fail
              go_cut [9, 10] (fun p r wx => ∃ B C, p = .pointer (some ⟨B, 0, none⟩) ∧ r = .pointer (some ⟨C, 0, none⟩) ∧ Bk wx B (A4 (lb (n / m) 0) (lb (n / m) 1) (lb (n / m) 2) (lb (n / m) 3)) 25 ∧ Bk wx C (A4 (lb (n % m) 0) (lb (n % m) 1) (lb (n % m) 2) (lb (n % m) 3)) 25 ∧ Below wa.heap.size wa wx)
              case first =>
                have hT : Two2 b (off + i * 4) (off + k * 4) n m wa := ⟨hc0, hc1, hc2, hc3, hd0, hd1, hd2, hd3⟩
                go_region_held3 (fun w' => w'.cell? ⟨b, off + i * 4, none⟩ = some (.int .u64 (lb n 0)) ∧ w'.cell? ⟨b, off + i * 4 + 1, none⟩ = some (.int .u64 (lb n 1)) ∧ w'.cell? ⟨b, off + i * 4 + 2, none⟩ = some (.int .u64 (lb n 2)) ∧ w'.cell? ⟨b, off + i * 4 + 3, none⟩ = some (.int .u64 (lb n 3)) ∧ w'.cell? ⟨b, off + k * 4, none⟩ = some (.int .u64 (lb m 0)) ∧ w'.cell? ⟨b, off + k * 4 + 1, none⟩ = some (.int .u64 (lb m 1)) ∧ w'.cell? ⟨b, off + k * 4 + 2, none⟩ = some (.int .u64 (lb m 2)) ∧ w'.cell? ⟨b, off + k * 4 + 3, none⟩ = some (.int .u64 (lb m 3))) ((show Two2 b (off + i * 4) (off + k * 4) n m _; repeat (first | with_reducible exact hT | with_reducible refine Two2.drew ?_ | with_reducible refine Two2.alloc ?_ _ | with_reducible refine Two2.set ?_ (by simp <;> omega) _))) ((go_at_call 28; refine (rdiv n m Hn.out Hm.out HP.out _).mono ?_; rintro e w2 ⟨rfl, hb2⟩; have hT := Two2.below (b := b) (o := off + i * 4) (p := off + k * 4) (n := n) (m := m) (by repeat (first | with_reducible exact hT | with_reducible refine Two2.drew ?_ | with_reducible refine Two2.alloc ?_ _)) hb2; have hsz2 := hb2.size; simp only [World.size_alloc, World.size_drew] at hsz2 hb2; have bw : Below wa.heap.size wa w2 := Below.trans (by repeat (first | with_reducible exact Below.refl _ _ | with_reducible refine Below.drew ?_ | with_reducible refine Below.alloc ?_ (by first | omega | (simp <;> omega)) _)) (hb2.mono (by omega)); try (have hz := Bk.below (b := wa.heap.size) (vs := A4 0 0 0 0) (t := 25) (by first | with_reducible exact (Bk.new wa _ _).drew | with_reducible exact ((Bk.new wa _ _).alloc _).drew | with_reducible exact Bk.new wa _ _ | with_reducible exact (Bk.new wa _ _).alloc _) hb2 (by omega); have lz := hz.lt; have nz : ¬ wa.heap.size = w2.heap.size := (by omega); have z0 := hz.cell 0; have zf0 := hz.frozen 0; have z1 := hz.cell 1; have zf1 := hz.frozen 1; have z2 := hz.cell 2; have zf2 := hz.frozen 2; have z3 := hz.cell 3; have zf3 := hz.frozen 3; simp only [List.getElem?_toArray, List.getElem?_cons_zero, List.getElem?_cons_succ] at z0 z1 z2 z3); try (have hy := Bk.below (b := wa.heap.size + 1) (vs := A4 0 0 0 0) (t := 25) (by first | with_reducible exact (Bk.new' (wa.alloc _) _ _ (by simp)).drew | with_reducible exact Bk.new' (wa.alloc _) _ _ (by simp)) hb2 (by omega); have ly := hy.lt; have ny : ¬ wa.heap.size + 1 = w2.heap.size := (by omega); have y0 := hy.cell 0; have yf0 := hy.frozen 0; have y1 := hy.cell 1; have yf1 := hy.frozen 1; have y2 := hy.cell 2; have yf2 := hy.frozen 2; have y3 := hy.cell 3; have yf3 := hy.frozen 3; simp only [List.getElem?_toArray, List.getElem?_cons_zero, List.getElem?_cons_succ] at y0 y1 y2 y3)))
                all_goals
                  go_wp2_with fail
                  go_meet
                  refine ⟨_, _, rfl, rfl, ?_, ?_, ?_⟩
                  · repeat (first | with_reducible exact hz | with_reducible exact hy | with_reducible exact Bk.new _ _ _ | with_reducible exact Bk.new' _ _ _ (by simp) | with_reducible refine set4_Bk (x0 := .int .u64 0) (x1 := .int .u64 0) (x2 := .int .u64 0) (x3 := .int .u64 0) ?_ _ _ _ _ | with_reducible refine set4_other ?_ (by omega) _ _ _ _ | with_reducible refine Bk.alloc ?_ _)
                  · repeat (first | with_reducible exact hz | with_reducible exact hy | with_reducible exact Bk.new _ _ _ | with_reducible exact Bk.new' _ _ _ (by simp) | with_reducible refine set4_Bk (x0 := .int .u64 0) (x1 := .int .u64 0) (x2 := .int .u64 0) (x3 := .int .u64 0) ?_ _ _ _ _ | with_reducible refine set4_other ?_ (by omega) _ _ _ _ | with_reducible refine Bk.alloc ?_ _)
                  · repeat (first | with_reducible exact bw | with_reducible refine set4_below ?_ (by omega) _ _ _ _ | with_reducible refine Below.alloc ?_ (by first | omega | (simp <;> omega)) _)
              case rest =>
                obtain ⟨B2, C2, rfl, rfl, hk2, hr2, hby⟩ := hcut
                have hk1 := hk1.below hby hk1.lt
                have hr1 := hr1.below hby hr1.lt
                have hszb := hby.size
                have he1 : ∀ w, (binOp .neq 25 (V (n / m)) (V (n / m))).run Try.prog w = .ok (.bool false) w := fun w => by rw [neq26, eq4_same]; rfl
                have he2 : ∀ w, (binOp .neq 25 (V (divR n m)) (V (n % m))).run Try.prog w = .ok (.bool false) w := fun w => by rw [HR.out, neq26, eq4_same]; rfl
                have lk2 := hk2.lt
                have lr2 := hr2.lt
                clear hc0 hc1 hc2 hc3 hd0 hd1 hd2 hd3
                have s0 := hk1.cell 0
                have sf0 := hk1.frozen 0
                have s1 := hk1.cell 1
                have sf1 := hk1.frozen 1
                have s2 := hk1.cell 2
                have sf2 := hk1.frozen 2
                have s3 := hk1.cell 3
                have sf3 := hk1.frozen 3
                simp only [List.getElem?_toArray, List.getElem?_cons_zero, List.getElem?_cons_succ] at s0 s1 s2 s3
                have t0 := hr1.cell 0
                have tf0 := hr1.frozen 0
                have t1 := hr1.cell 1
                have tf1 := hr1.frozen 1
                have t2 := hr1.cell 2
                have tf2 := hr1.frozen 2
                have t3 := hr1.cell 3
                have tf3 := hr1.frozen 3
                simp only [List.getElem?_toArray, List.getElem?_cons_zero, List.getElem?_cons_succ] at t0 t1 t2 t3
                have u0 := hk2.cell 0
                have uf0 := hk2.frozen 0
                have u1 := hk2.cell 1
                have uf1 := hk2.frozen 1
                have u2 := hk2.cell 2
                have uf2 := hk2.frozen 2
                have u3 := hk2.cell 3
                have uf3 := hk2.frozen 3
                simp only [List.getElem?_toArray, List.getElem?_cons_zero, List.getElem?_cons_succ] at u0 u1 u2 u3
                have x0 := hr2.cell 0
                have xf0 := hr2.frozen 0
                have x1 := hr2.cell 1
                have xf1 := hr2.frozen 1
                have x2 := hr2.cell 2
                have xf2 := hr2.frozen 2
                have x3 := hr2.cell 3
                have xf3 := hr2.frozen 3
                simp only [List.getElem?_toArray, List.getElem?_cons_zero, List.getElem?_cons_succ] at x0 x1 x2 x3
                go_wp2_with (go_at_call 27; refine (num_any _ _).mono ?_; rintro e w3 ⟨rfl, rfl⟩)
                go_roundw
                case rel => exact ⟨k + 1, by omega, by go_num, (hbk.trans (hbx.mono (by omega))).trans (hby.mono (by omega))⟩
                case measure => simp [intOf]; omega
        · go_wp2_with fail
          go_roundw
          case rel => exact ⟨i + 1, by omega, by go_num, hbk⟩
          case measure => simp [intOf]; omega
    · have hszo := hbo.size
      go_wp2_with (go_at_call 29; refine (wakes _).mono ?_; rintro e w4 ⟨rfl, hb4⟩)
      go_ret
      exact ⟨rfl, (hb1.trans (hbo.mono (by omega))).trans (hb4.mono (by omega))⟩
end Go.Proofs.Ytgolpadmcalimaa

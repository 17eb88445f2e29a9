/- Texts joined: RCst RCmp. -/
import Derived.Test.YtapjonmgjccpbaaJ0
import Derived.Test.YtapjonmgjccpbaaJ11
import Derived.Test.YtapjonmgjccpbaaRMul
import Derived.Test.YtapjonmgjccpbaaRAdd
import Derived.Deep.RegionHeld3
import Derived.Deep.DeepCutAuto
section
set_option linter.unusedSimpArgs false
set_option linter.unusedVariables false
namespace Go.Proofs.Ytapjonmgjccpbaa
open Go.RowKit

/-! tarnref7.Cost. -/
set_option maxRecDepth 100000 in
set_option maxHeartbeats 4000000 in
theorem rcost (t : TX) (u : Value) (aB : Option Addr) (cB : Nat) (w : World) (hw : TXw t) (g : Nat) (hg : t.ga = (g : Int)) (hb : t.bs.length ≤ 1000000) :
    Calls Try.prog 48 #[.agg (txc t u (.slice aB t.bs.length cB))] w fun e w' => e = .returned (.tuple #[V (costV t), .bool (decide (costN t < M256))]) ∧ Below w.heap.size w w' := by
  have hg2 := hw.ga
  have HW : Hid (TXw t) := hw
  have HO1 : Hid (∀ w, Calls Try.prog 77 #[.int .i64 t.ga] w fun e w' => e = .returned (V g) ∧ Below w.heap.size w w') := fun w => by rw [hg]; exact rofn g (by omega) w
  have HM1 : Hid (∀ w, Calls Try.prog 76 #[V t.ca, V g] w fun e w' => e = .returned (.tuple #[V (mulV t.ca g), .bool (mulOk t.ca g)]) ∧ Below w.heap.size w w') := fun w => rmul _ _ hw.ca (by unfold M256; omega) w
  have HO2 : Hid (∀ w, Calls Try.prog 77 #[.int .i64 ((131072 * t.bs.length : Nat) : Int)] w fun e w' => e = .returned (V (131072 * t.bs.length)) ∧ Below w.heap.size w w') := fun w => rofn _ (by omega) w
  have HM2 : Hid (∀ w, Calls Try.prog 76 #[V t.bc, V (131072 * t.bs.length)] w fun e w' => e = .returned (.tuple #[V (mulV t.bc (131072 * t.bs.length)), .bool (mulOk t.bc (131072 * t.bs.length))]) ∧ Below w.heap.size w w') := fun w => rmul _ _ hw.bc (by unfold M256; omega) w
  have HG : Hid (t.ga.toNat = g) := by show _ = _; omega
  clear hg hg2 hw
  obtain ⟨v, hv⟩ : ∃ v : Value, v = .slice aB t.bs.length cB := ⟨_, rfl⟩
  obtain ⟨wr, hwr⟩ : ∃ wr, wr = (w.alloc (.cells (txc t u (.slice aB t.bs.length cB)) 30)).alloc (.cells (A4 0 0 0 0) 26) := ⟨_, rfl⟩
  go_enter Try.func48, Try.ntmps48
  go_upto_region 1 with fail
  rw [← hwr]
  have bX : Bk wr w.heap.size (txc t u (.slice aB t.bs.length cB)) 30 := by rw [hwr]; exact (Bk.new _ _ _).alloc _
  have bR : Bk wr (w.heap.size + 1) (A4 0 0 0 0) 26 := by rw [hwr]; exact Bk.new' _ _ _ (by simp)
  have hBw : Below w.heap.size w wr := by rw [hwr]; exact ((Below.refl _ _).alloc (Nat.le_refl _) _).alloc (by simp) _
  clear hwr hv
  obtain ⟨X, hX⟩ : ∃ X, X = w.heap.size := ⟨_, rfl⟩
  have HX : Hid (X = w.heap.size) := hX
  rw [← hX] at bX bR ⊢
  have HT : Hid (C5 X 6 18 t.ca (.int .i64 t.ga) wr) := ⟨bX.cell 6, bX.cell 7, bX.cell 8, bX.cell 9, bX.cell 18⟩
  have lX := bX.lt
  have lR := bR.lt
  have HB : Hid (Bk wr X (txc t u (.slice aB t.bs.length cB)) 30 ∧ Bk wr (X + 1) (A4 0 0 0 0) 26 ∧ Below w.heap.size w wr) := ⟨bX, bR, hBw⟩
  clear bX bR hBw hX v
  go_cut [4, 5] (fun p e wx => ∃ B, p = .pointer (some ⟨B, 0, none⟩) ∧ wr.heap.size ≤ B ∧ Bk wx B (A4 (lb (mulV t.ca g) 0) (lb (mulV t.ca g) 1) (lb (mulV t.ca g) 2) (lb (mulV t.ca g) 3)) 26 ∧ e = .bool (mulOk t.ca g) ∧ Below wr.heap.size wr wx)
  case first =>
    have hT : C5 X 6 18 t.ca (.int .i64 t.ga) wr := HT.out
    go_region_held3 (fun w' => w'.cell? ⟨X, 6, none⟩ = some (.int .u64 (lb t.ca 0)) ∧ w'.cell? ⟨X, 7, none⟩ = some (.int .u64 (lb t.ca 1)) ∧ w'.cell? ⟨X, 8, none⟩ = some (.int .u64 (lb t.ca 2)) ∧ w'.cell? ⟨X, 9, none⟩ = some (.int .u64 (lb t.ca 3)) ∧ w'.cell? ⟨X, 18, none⟩ = some (.int .i64 t.ga)) ((show C5 X 6 18 t.ca (.int .i64 t.ga) _; repeat (first | with_reducible exact hT | with_reducible refine C5.drew ?_ | with_reducible refine C5.alloc ?_ _ | with_reducible refine C5.set ?_ (by first | omega | (simp <;> omega)) _))) ((first | (go_at_call 77; refine (HO1.out _).mono ?_; rintro e v2 ⟨rfl, hb2⟩; have hT := C5.below (X := X) (o := 6) (p := 18) (a := t.ca) (v := .int .i64 t.ga) (by repeat (first | with_reducible exact hT | with_reducible refine C5.drew ?_ | with_reducible refine C5.alloc ?_ _)) hb2; have hs2 := hb2.size; (try simp only [World.size_alloc, World.drew_heap] at hs2); have bw : Below wr.heap.size wr v2 := Below.trans (by repeat (first | with_reducible exact Below.refl _ _ | with_reducible refine Below.drew ?_ | with_reducible refine Below.alloc ?_ (by first | omega | (simp <;> omega)) _)) (hb2.mono (by first | omega | (simp <;> omega))); have bwz2 := bw.size; (try (have hz := Bk.below (b := wr.heap.size) (vs := A4 0 0 0 0) (t := 26) (by first | with_reducible exact Bk.new' _ _ _ (by rfl) | with_reducible exact (Bk.new' _ _ _ (by rfl)).drew) hb2 (by first | omega | (simp <;> omega)); have lz := hz.lt; have z0 := hz.cell 0; have zf0 := hz.frozen 0; have z1 := hz.cell 1; have zf1 := hz.frozen 1; have z2 := hz.cell 2; have zf2 := hz.frozen 2; have z3 := hz.cell 3; have zf3 := hz.frozen 3; simp only [List.getElem?_toArray, List.getElem?_cons_zero, List.getElem?_cons_succ] at z0 z1 z2 z3))) | (go_at_call 76; refine (HM1.out _).mono ?_; rintro e v3 ⟨rfl, hb3⟩; have hT := C5.below (X := X) (o := 6) (p := 18) (a := t.ca) (v := .int .i64 t.ga) (by repeat (first | with_reducible exact hT | with_reducible refine C5.drew ?_ | with_reducible refine C5.alloc ?_ _)) hb3; have hs3 := hb3.size; (try simp only [World.size_alloc, World.drew_heap] at hs3); have bw : Below wr.heap.size wr v3 := Below.trans (by repeat (first | with_reducible exact bw | with_reducible refine Below.drew ?_ | with_reducible refine Below.alloc ?_ (by first | omega | (simp <;> omega)) _)) (hb3.mono (by first | omega | (simp <;> omega))); have bwz3 := bw.size; (try (have hz := Bk.below (b := wr.heap.size) (vs := A4 0 0 0 0) (t := 26) (by first | with_reducible exact hz | with_reducible exact Bk.drew hz) hb3 (by first | omega | (simp <;> omega)); have lz := hz.lt; have z0 := hz.cell 0; have zf0 := hz.frozen 0; have z1 := hz.cell 1; have zf1 := hz.frozen 1; have z2 := hz.cell 2; have zf2 := hz.frozen 2; have z3 := hz.cell 3; have zf3 := hz.frozen 3; simp only [List.getElem?_toArray, List.getElem?_cons_zero, List.getElem?_cons_succ] at z0 z1 z2 z3)); (try (have hy := Bk.below (b := v2.heap.size) (vs := A4 0 0 0 0) (t := 26) (by first | with_reducible exact Bk.new' _ _ _ (by rfl) | with_reducible exact (Bk.new' _ _ _ (by rfl)).drew) hb3 (by first | omega | (simp <;> omega)); have ly := hy.lt; have y0 := hy.cell 0; have yf0 := hy.frozen 0; have y1 := hy.cell 1; have yf1 := hy.frozen 1; have y2 := hy.cell 2; have yf2 := hy.frozen 2; have y3 := hy.cell 3; have yf3 := hy.frozen 3; simp only [List.getElem?_toArray, List.getElem?_cons_zero, List.getElem?_cons_succ] at y0 y1 y2 y3)))))
    all_goals
      go_wp2_with fail
      go_meet
      refine ⟨_, rfl, ?_, ?_, rfl, ?_⟩
      · first | omega | (simp <;> omega)
      · repeat (first | with_reducible exact hz | with_reducible exact hy | with_reducible exact Bk.new _ _ _ | with_reducible exact Bk.new' _ _ _ (by simp) | with_reducible refine set4_Bk (x0 := .int .u64 0) (x1 := .int .u64 0) (x2 := .int .u64 0) (x3 := .int .u64 0) ?_ _ _ _ _ | with_reducible refine Bk.drew ?_)
      · repeat (first | with_reducible exact bw | with_reducible refine Below.drew ?_ | with_reducible refine set4_below ?_ (by first | omega | (simp <;> omega)) _ _ _ _ | with_reducible refine Below.alloc ?_ (by first | omega | (simp <;> omega)) _)
  case rest =>
    obtain ⟨B1, rfl, hB1, bB1, rfl, hbx⟩ := hcut
    obtain ⟨wa, hwa⟩ : ∃ wa, wa = wc := ⟨_, rfl⟩
    rw [← hwa] at bB1 hbx ⊢
    clear hwa
    have hbX := HB.out.1.below hbx lX
    have hbR := HB.out.2.1.below hbx lR
    have hBa := HB.out.2.2.trans (hbx.mono HB.out.2.2.size)
    replace HT : Hid (C5 X 10 20 t.bc (.slice aB t.bs.length cB) wa) := ⟨hbX.cell 10, hbX.cell 11, hbX.cell 12, hbX.cell 13, hbX.cell 20⟩
    replace HB : Hid (Bk wa X (txc t u (.slice aB t.bs.length cB)) 30 ∧ Bk wa (X + 1) (A4 0 0 0 0) 26 ∧ Below w.heap.size w wa) := ⟨hbX, hbR, hBa⟩
    have HB1 : Hid (Bk wa B1 (A4 (lb (mulV t.ca g) 0) (lb (mulV t.ca g) 1) (lb (mulV t.ca g) 2) (lb (mulV t.ca g) 3)) 26) := bB1
    have lX2 := hbX.lt
    have lR2 := hbR.lt
    have lB2 := bB1.lt
    have hw64 : IntKind.i64.wrap (131072 * (t.bs.length : Int)) = ((131072 * t.bs.length : Nat) : Int) := by rw [IntKind.wrap_i64]; omega
    have hw64' : wrap64 (131072 * (t.bs.length : Int)) = ((131072 * t.bs.length : Nat) : Int) := by unfold wrap64; omega
    clear hbX hbR hBa bB1 hbx HO1 HM1
    go_upto_region 2 with fail
    go_cut [6, 7] (fun p e wx => ∃ B, p = .pointer (some ⟨B, 0, none⟩) ∧ wa.heap.size ≤ B ∧ Bk wx B (A4 (lb (mulV t.bc (131072 * t.bs.length)) 0) (lb (mulV t.bc (131072 * t.bs.length)) 1) (lb (mulV t.bc (131072 * t.bs.length)) 2) (lb (mulV t.bc (131072 * t.bs.length)) 3)) 26 ∧ e = .bool (mulOk t.bc (131072 * t.bs.length)) ∧ Below wa.heap.size wa wx)
    case first =>
      have hT : C5 X 10 20 t.bc (.slice aB t.bs.length cB) wa := HT.out
      go_region_held3 (fun w' => w'.cell? ⟨X, 10, none⟩ = some (.int .u64 (lb t.bc 0)) ∧ w'.cell? ⟨X, 11, none⟩ = some (.int .u64 (lb t.bc 1)) ∧ w'.cell? ⟨X, 12, none⟩ = some (.int .u64 (lb t.bc 2)) ∧ w'.cell? ⟨X, 13, none⟩ = some (.int .u64 (lb t.bc 3)) ∧ w'.cell? ⟨X, 20, none⟩ = some (.slice aB t.bs.length cB)) ((show C5 X 10 20 t.bc (.slice aB t.bs.length cB) _; repeat (first | with_reducible exact hT | with_reducible refine C5.drew ?_ | with_reducible refine C5.alloc ?_ _ | with_reducible refine C5.set ?_ (by first | omega | (simp <;> omega)) _))) ((first | (go_at_call 77; refine (HO2.out _).mono ?_; rintro e v2 ⟨rfl, hb2⟩; have hT := C5.below (X := X) (o := 10) (p := 20) (a := t.bc) (v := .slice aB t.bs.length cB) (by repeat (first | with_reducible exact hT | with_reducible refine C5.drew ?_ | with_reducible refine C5.alloc ?_ _)) hb2; have hs2 := hb2.size; (try simp only [World.size_alloc, World.drew_heap] at hs2); have bw : Below wa.heap.size wa v2 := Below.trans (by repeat (first | with_reducible exact Below.refl _ _ | with_reducible refine Below.drew ?_ | with_reducible refine Below.alloc ?_ (by first | omega | (simp <;> omega)) _)) (hb2.mono (by first | omega | (simp <;> omega))); have bwz2 := bw.size; (try (have hz := Bk.below (b := wa.heap.size) (vs := A4 0 0 0 0) (t := 26) (by first | with_reducible exact Bk.new' _ _ _ (by rfl) | with_reducible exact (Bk.new' _ _ _ (by rfl)).drew) hb2 (by first | omega | (simp <;> omega)); have lz := hz.lt; have z0 := hz.cell 0; have zf0 := hz.frozen 0; have z1 := hz.cell 1; have zf1 := hz.frozen 1; have z2 := hz.cell 2; have zf2 := hz.frozen 2; have z3 := hz.cell 3; have zf3 := hz.frozen 3; simp only [List.getElem?_toArray, List.getElem?_cons_zero, List.getElem?_cons_succ] at z0 z1 z2 z3))) | (go_at_call 76; refine (HM2.out _).mono ?_; rintro e v3 ⟨rfl, hb3⟩; have hT := C5.below (X := X) (o := 10) (p := 20) (a := t.bc) (v := .slice aB t.bs.length cB) (by repeat (first | with_reducible exact hT | with_reducible refine C5.drew ?_ | with_reducible refine C5.alloc ?_ _)) hb3; have hs3 := hb3.size; (try simp only [World.size_alloc, World.drew_heap] at hs3); have bw : Below wa.heap.size wa v3 := Below.trans (by repeat (first | with_reducible exact bw | with_reducible refine Below.drew ?_ | with_reducible refine Below.alloc ?_ (by first | omega | (simp <;> omega)) _)) (hb3.mono (by first | omega | (simp <;> omega))); have bwz3 := bw.size; (try (have hz := Bk.below (b := wa.heap.size) (vs := A4 0 0 0 0) (t := 26) (by first | with_reducible exact hz | with_reducible exact Bk.drew hz) hb3 (by first | omega | (simp <;> omega)); have lz := hz.lt; have z0 := hz.cell 0; have zf0 := hz.frozen 0; have z1 := hz.cell 1; have zf1 := hz.frozen 1; have z2 := hz.cell 2; have zf2 := hz.frozen 2; have z3 := hz.cell 3; have zf3 := hz.frozen 3; simp only [List.getElem?_toArray, List.getElem?_cons_zero, List.getElem?_cons_succ] at z0 z1 z2 z3)); (try (have hy := Bk.below (b := v2.heap.size) (vs := A4 0 0 0 0) (t := 26) (by first | with_reducible exact Bk.new' _ _ _ (by rfl) | with_reducible exact (Bk.new' _ _ _ (by rfl)).drew) hb3 (by first | omega | (simp <;> omega)); have ly := hy.lt; have y0 := hy.cell 0; have yf0 := hy.frozen 0; have y1 := hy.cell 1; have yf1 := hy.frozen 1; have y2 := hy.cell 2; have yf2 := hy.frozen 2; have y3 := hy.cell 3; have yf3 := hy.frozen 3; simp only [List.getElem?_toArray, List.getElem?_cons_zero, List.getElem?_cons_succ] at y0 y1 y2 y3)))))
      all_goals
        go_wp2_with fail
        go_meet
        refine ⟨_, rfl, ?_, ?_, rfl, ?_⟩
        · first | omega | (simp <;> omega)
        · repeat (first | with_reducible exact hz | with_reducible exact hy | with_reducible exact Bk.new _ _ _ | with_reducible exact Bk.new' _ _ _ (by simp) | with_reducible refine set4_Bk (x0 := .int .u64 0) (x1 := .int .u64 0) (x2 := .int .u64 0) (x3 := .int .u64 0) ?_ _ _ _ _ | with_reducible refine Bk.drew ?_)
        · repeat (first | with_reducible exact bw | with_reducible refine Below.drew ?_ | with_reducible refine set4_below ?_ (by first | omega | (simp <;> omega)) _ _ _ _ | with_reducible refine Below.alloc ?_ (by first | omega | (simp <;> omega)) _)
    case rest =>
      obtain ⟨B2, rfl, hB2, bB2, rfl, hby⟩ := hcut
      obtain ⟨wb, hwb⟩ : ∃ wb, wb = wc := ⟨_, rfl⟩
      rw [← hwb] at bB2 hby ⊢
      clear hwb
      have bX := HB.out.1.below hby lX2
      have bR := HB.out.2.1.below hby lR2
      have bB1 := HB1.out.below hby lB2
      have HBb : Hid (Below w.heap.size w wb) := HB.out.2.2.trans (hby.mono HB.out.2.2.size)
      have lX3 := bX.lt
      have lR3 := bR.lt
      have r0 := bR.cell 0
      have rf0 := bR.frozen 0
      have r1 := bR.cell 1
      have rf1 := bR.frozen 1
      have r2 := bR.cell 2
      have rf2 := bR.frozen 2
      have r3 := bR.cell 3
      have rf3 := bR.frozen 3
      simp only [List.getElem?_toArray, List.getElem?_cons_zero, List.getElem?_cons_succ] at r0 r1 r2 r3
      clear HT HB HB1 hby HO2 HM2 hw64 hw64'
      have HX3 : Hid (Bk wb X (txc t u (.slice aB t.bs.length cB)) 30 ∧ Bk wb (X + 1) (A4 0 0 0 0) 26) := ⟨bX, bR⟩
      have HC : Hid (costN t = t.ca * g + t.bc * (131072 * t.bs.length) + t.va) := by show _ = _; unfold costN; rw [HG.out]
      have no : ¬ costN t < M256 → costV t = 0 ∧ decide (costN t < M256) = false := fun h => ⟨if_neg h, decide_eq_false h⟩
      have HNo : Hid (¬ costN t < M256 → costV t = 0 ∧ decide (costN t < M256) = false) := no
      clear no
      by_cases ha : t.ca * g < M256
      · by_cases hb2 : t.bc * (131072 * t.bs.length) < M256
        · rw [show mulOk t.ca g = true from decide_eq_true ha, show mulOk t.bc (131072 * t.bs.length) = true from decide_eq_true hb2]
          rw [show mulV t.ca g = t.ca * g from if_pos ha] at bB1
          rw [show mulV t.bc (131072 * t.bs.length) = t.bc * (131072 * t.bs.length) from if_pos hb2] at bB2
          have hva := HW.out.va
          have HA1 : Hid (∀ w, Calls Try.prog 78 #[V (t.ca * g), V (t.bc * (131072 * t.bs.length))] w fun e w' => e = .returned (.tuple #[V (addV (t.ca * g) (t.bc * (131072 * t.bs.length))), .bool (addOk (t.ca * g) (t.bc * (131072 * t.bs.length)))]) ∧ Below w.heap.size w w') := fun w => radd _ _ ha hb2 w
          generalize t.ca * g = A at *
          generalize t.bc * (131072 * t.bs.length) = B at *
          have p0 := bB1.cell 0
          have p1 := bB1.cell 1
          have p2 := bB1.cell 2
          have p3 := bB1.cell 3
          simp only [List.getElem?_toArray, List.getElem?_cons_zero, List.getElem?_cons_succ] at p0 p1 p2 p3
          have q0 := bB2.cell 0
          have q1 := bB2.cell 1
          have q2 := bB2.cell 2
          have q3 := bB2.cell 3
          simp only [List.getElem?_toArray, List.getElem?_cons_zero, List.getElem?_cons_succ] at q0 q1 q2 q3
          by_cases hc : A + B < M256
          · rw [show addV A B = A + B from if_pos hc, show addOk A B = true from decide_eq_true hc] at HA1
            have HA2 : Hid (∀ w, Calls Try.prog 78 #[V (A + B), V t.va] w fun e w' => e = .returned (.tuple #[V (addV (A + B) t.va), .bool (addOk (A + B) t.va)]) ∧ Below w.heap.size w w') := fun w => radd _ _ hc hva w
            have HV : Hid (costV t = addV (A + B) t.va ∧ decide (costN t < M256) = addOk (A + B) t.va) := by
              refine ⟨?_, ?_⟩
              · unfold costV addV; rw [HC.out]
              · unfold addOk; rw [HC.out]
            generalize A + B = D at *
            go_wp2_with fail
            refine (HA1.out _).mono ?_
            rintro e w5 ⟨rfl, hb5⟩
            have bX5 := HX3.out.1.below hb5 lX3
            have bR5 := HX3.out.2.below hb5 lR3
            have lX5 := bX5.lt
            have lR5 := bR5.lt
            have HB5 : Hid (Below w.heap.size w w5) := HBb.out.trans (hb5.mono HBb.out.size)
            have x14 := bX5.cell 14
            have x15 := bX5.cell 15
            have x16 := bX5.cell 16
            have x17 := bX5.cell 17
            simp only [List.getElem?_toArray, List.getElem?_cons_zero, List.getElem?_cons_succ] at x14 x15 x16 x17
            have HR5 : Hid (Bk w5 (X + 1) (A4 0 0 0 0) 26) := bR5
            clear bX5 bR5 HX3 hb5 r0 r1 r2 r3 rf0 rf1 rf2 rf3 p0 p1 p2 p3 q0 q1 q2 q3 bB1 bB2 bX bR
            go_wp2_with fail
            refine (HA2.out _).mono ?_
            rintro e w6 ⟨rfl, hb6⟩
            have bR6 := (HR5.out.alloc _).below hb6 (by simp; omega)
            have HB6 : Hid (Below w.heap.size w w6) := (HB5.out.alloc HB5.out.size _).trans (hb6.mono (by simp; have := HB5.out.size; omega))
            have r0 := bR6.cell 0
            have rf0 := bR6.frozen 0
            have r1 := bR6.cell 1
            have rf1 := bR6.frozen 1
            have r2 := bR6.cell 2
            have rf2 := bR6.frozen 2
            have r3 := bR6.cell 3
            have rf3 := bR6.frozen 3
            simp only [List.getElem?_toArray, List.getElem?_cons_zero, List.getElem?_cons_succ] at r0 r1 r2 r3
            have lR6 := bR6.lt
            clear bR6 hb6
            go_wp2_with fail
            refine bodyPost_ret (v := .tuple #[V (addV D t.va), .bool (addOk D t.va)]) ?_ rfl ⟨by rw [HV.out.1, HV.out.2], ?_⟩
            · simp [results, Try.results48, go_sem, r0, r1, r2, r3]
            · exact set4_below HB6.out (by rw [HX.out]; omega) _ _ _ _
          · rw [show addV A B = 0 from if_neg hc, show addOk A B = false from decide_eq_false hc, V_zero] at HA1
            go_wp2_with fail
            refine (HA1.out _).mono ?_
            rintro e w5 ⟨rfl, hb5⟩
            have HN : Hid (costV t = 0 ∧ decide (costN t < M256) = false) := HNo.out (by rw [HC.out]; omega)
            have bR5 := HX3.out.2.below hb5 lR3
            have lR5 := bR5.lt
            have HB5 : Hid (Below w.heap.size w w5) := HBb.out.trans (hb5.mono HBb.out.size)
            clear r0 r1 r2 r3 rf0 rf1 rf2 rf3 p0 p1 p2 p3 q0 q1 q2 q3 bB1 bB2 bX bR HX3 hb5
            have r0 := bR5.cell 0
            have rf0 := bR5.frozen 0
            have r1 := bR5.cell 1
            have rf1 := bR5.frozen 1
            have r2 := bR5.cell 2
            have rf2 := bR5.frozen 2
            have r3 := bR5.cell 3
            have rf3 := bR5.frozen 3
            simp only [List.getElem?_toArray, List.getElem?_cons_zero, List.getElem?_cons_succ] at r0 r1 r2 r3
            have bQ : Hid (Bk (((((w5.setCell ⟨X + 1, 0, none⟩ (.int .u64 0)).setCell ⟨X + 1, 1, none⟩ (.int .u64 0)).setCell ⟨X + 1, 2, none⟩ (.int .u64 0)).setCell ⟨X + 1, 3, none⟩ (.int .u64 0)).alloc (.cells (A4 0 0 0 0) 26)) (X + 1) (A4 0 0 0 0) 26) := (set4_Bk bR5 _ _ _ _).alloc _
            clear bR5
            go_wp2_with fail
            have s0 := bQ.out.cell 0
            have s1 := bQ.out.cell 1
            have s2 := bQ.out.cell 2
            have s3 := bQ.out.cell 3
            simp only [List.getElem?_toArray, List.getElem?_cons_zero, List.getElem?_cons_succ] at s0 s1 s2 s3
            have HBz := set4_below HB5.out (b := X + 1) (by rw [HX.out]; omega) (.int .u64 0) (.int .u64 0) (.int .u64 0) (.int .u64 0)
            refine bodyPost_ret (v := .tuple #[V 0, .bool false]) ?_ rfl ⟨by rw [HN.out.1, HN.out.2], HBz.alloc HBz.size _⟩
            rw [V_zero]
            simp [results, Try.results48, go_sem, s0, s1, s2, s3]
        · rw [show mulOk t.ca g = true from decide_eq_true ha, show mulOk t.bc (131072 * t.bs.length) = false from decide_eq_false hb2]
          clear bB1 bB2
          have HN : Hid (costV t = 0 ∧ decide (costN t < M256) = false) := HNo.out (by rw [HC.out]; omega)
          go_wp2_with fail
          refine bodyPost_ret (v := .tuple #[V 0, .bool false]) ?_ rfl ⟨by rw [HN.out.1, HN.out.2], ?_⟩
          · rw [V_zero]; simp [results, Try.results48, go_sem, r0, r1, r2, r3]
          · exact set4_below HBb.out (by rw [HX.out]; omega) _ _ _ _
      · rw [show mulOk t.ca g = false from decide_eq_false ha]
        generalize mulOk t.bc (131072 * t.bs.length) = ok2
        clear bB1 bB2
        have HN : Hid (costV t = 0 ∧ decide (costN t < M256) = false) := HNo.out (by rw [HC.out]; omega)
        go_wp2_with fail
        refine bodyPost_ret (v := .tuple #[V 0, .bool false]) ?_ rfl ⟨by rw [HN.out.1, HN.out.2], ?_⟩
        · rw [V_zero]; simp [results, Try.results48, go_sem, r0, r1, r2, r3]
        · exact set4_below HBb.out (by rw [HX.out]; omega) _ _ _ _
end Go.Proofs.Ytapjonmgjccpbaa
end
section
set_option linter.unusedSimpArgs false
set_option linter.unusedVariables false
namespace Go.Proofs.Ytapjonmgjccpbaa
open Go.RowKit

set_option maxHeartbeats 1000000 in
theorem rcmp (n m : Nat) (hn : n < M256) (hm : m < M256) (w : World) :
    Calls Try.prog 21 #[V n, V m] w fun e w' => e = .returned (.int .i64 (cmpV n m)) ∧ Below w.heap.size w w' := by
  have Hn : Hid (n < M256) := hn
  have Hm : Hid (m < M256) := hm
  clear hn hm
  go_enter Try.func21, Try.ntmps21
  go_wp2
  go_loopw [5] (fun i wr => ∃ (k : Nat), k ≤ 4 ∧ i = .int .i64 ((k : Int) - 1) ∧ Bk wr w.heap.size (A4 (lb n 0) (lb n 1) (lb n 2) (lb n 3)) 26 ∧ Bk wr (w.heap.size + 1) (A4 (lb m 0) (lb m 1) (lb m 2) (lb m 3)) 26 ∧ Below w.heap.size w wr ∧ Alk k n m) (fun i _ => (intOf i + 1).toNat)
  case atStart =>
    refine ⟨4, by omega, rfl, ?_, ?_, ?_, alk4 n m⟩
    · exact (Bk.new _ _ _).alloc _
    · exact Bk.new' _ _ _ (by simp)
    · exact ((Below.refl _ _).alloc (Nat.le_refl _) _).alloc (by simp) _
  case round =>
    obtain ⟨k, hk, rfl, ha, hb, hbl, hinv⟩ := hrel
    have hk' : k = 0 ∨ k = 1 ∨ k = 2 ∨ k = 3 ∨ k = 4 := by omega
    rcases hk' with rfl | rfl | rfl | rfl | rfl
    · have hs := alkSame Hn.out Hm.out hinv
      have HS : Hid (n = m) := hs
      clear hs
      go_wp2
      go_ret
      exact ⟨by rw [← HS.out, cmpV_same]; rfl, hbl⟩
    · have hak := ha.cell 0
      have hbk := hb.cell 0
      simp only [List.getElem?_toArray, List.getElem?_cons_zero, List.getElem?_cons_succ] at hak hbk
      go_wp2
      go_quiet (fail)
      go_wp2
      · have hlt : lb n 0 < lb m 0 := by assumption
        go_ret
        exact ⟨by rw [cmpV_less (alkLess Hn.out Hm.out (by omega) hinv hlt)]; rfl, bdrewN hbl _⟩
      · have hge : lb m 0 ≤ lb n 0 := by assumption
        go_quiet (fail)
        go_wp2
        · have hgt : lb m 0 < lb n 0 := by assumption
          go_ret
          exact ⟨by rw [cmpV_more (alkMore Hn.out Hm.out (by omega) hinv hgt)]; rfl, bdrewN (bdrewN hbl _) _⟩
        · have hle : lb n 0 ≤ lb m 0 := by assumption
          go_roundw
          case rel => exact ⟨0, by omega, rfl, ha.drewN _, hb.drewN _, bdrewN hbl _, alkStep (by omega) hinv hle hge⟩
          case measure => simp [intOf]
    · have hak := ha.cell 1
      have hbk := hb.cell 1
      simp only [List.getElem?_toArray, List.getElem?_cons_zero, List.getElem?_cons_succ] at hak hbk
      go_wp2
      go_quiet (fail)
      go_wp2
      · have hlt : lb n 1 < lb m 1 := by assumption
        go_ret
        exact ⟨by rw [cmpV_less (alkLess Hn.out Hm.out (by omega) hinv hlt)]; rfl, bdrewN hbl _⟩
      · have hge : lb m 1 ≤ lb n 1 := by assumption
        go_quiet (fail)
        go_wp2
        · have hgt : lb m 1 < lb n 1 := by assumption
          go_ret
          exact ⟨by rw [cmpV_more (alkMore Hn.out Hm.out (by omega) hinv hgt)]; rfl, bdrewN (bdrewN hbl _) _⟩
        · have hle : lb n 1 ≤ lb m 1 := by assumption
          go_roundw
          case rel => exact ⟨1, by omega, rfl, ha.drewN _, hb.drewN _, bdrewN hbl _, alkStep (by omega) hinv hle hge⟩
          case measure => simp [intOf]
    · have hak := ha.cell 2
      have hbk := hb.cell 2
      simp only [List.getElem?_toArray, List.getElem?_cons_zero, List.getElem?_cons_succ] at hak hbk
      go_wp2
      go_quiet (fail)
      go_wp2
      · have hlt : lb n 2 < lb m 2 := by assumption
        go_ret
        exact ⟨by rw [cmpV_less (alkLess Hn.out Hm.out (by omega) hinv hlt)]; rfl, bdrewN hbl _⟩
      · have hge : lb m 2 ≤ lb n 2 := by assumption
        go_quiet (fail)
        go_wp2
        · have hgt : lb m 2 < lb n 2 := by assumption
          go_ret
          exact ⟨by rw [cmpV_more (alkMore Hn.out Hm.out (by omega) hinv hgt)]; rfl, bdrewN (bdrewN hbl _) _⟩
        · have hle : lb n 2 ≤ lb m 2 := by assumption
          go_roundw
          case rel => exact ⟨2, by omega, rfl, ha.drewN _, hb.drewN _, bdrewN hbl _, alkStep (by omega) hinv hle hge⟩
          case measure => simp [intOf]
    · have hak := ha.cell 3
      have hbk := hb.cell 3
      simp only [List.getElem?_toArray, List.getElem?_cons_zero, List.getElem?_cons_succ] at hak hbk
      go_wp2
      go_quiet (fail)
      go_wp2
      · have hlt : lb n 3 < lb m 3 := by assumption
        go_ret
        exact ⟨by rw [cmpV_less (alkLess Hn.out Hm.out (by omega) hinv hlt)]; rfl, bdrewN hbl _⟩
      · have hge : lb m 3 ≤ lb n 3 := by assumption
        go_quiet (fail)
        go_wp2
        · have hgt : lb m 3 < lb n 3 := by assumption
          go_ret
          exact ⟨by rw [cmpV_more (alkMore Hn.out Hm.out (by omega) hinv hgt)]; rfl, bdrewN (bdrewN hbl _) _⟩
        · have hle : lb n 3 ≤ lb m 3 := by assumption
          go_roundw
          case rel => exact ⟨3, by omega, rfl, ha.drewN _, hb.drewN _, bdrewN hbl _, alkStep (by omega) hinv hle hge⟩
          case measure => simp [intOf]
end Go.Proofs.Ytapjonmgjccpbaa
end

import Derived.Test.YtgolpadmcalimaaRFake
import Derived.Test.YtgolpadmcalimaaRSub
import Derived.Test.YtgolpadmcalimaaNext
set_option linter.unusedSimpArgs false
set_option linter.unusedVariables false
namespace Go.Proofs.Ytgolpadmcalimaa
open Go.RowKit

/-- What the page's own next fee holds. -/
structure NS (w W : World) (n B v : Nat) : Prop where
  bA : Bk W w.heap.size (A4 (lb (n) 0) (lb (n) 1) (lb (n) 2) (lb (n) 3)) 25
  bR : Bk W (w.heap.size + 1) (A4 0 0 0 0) 25
  bB : Bk W B (A4 (lb (v) 0) (lb (v) 1) (lb (v) 2) (lb (v) 3)) 25
  hb : w.heap.size + 1 < B
  hB : Below w.heap.size w W
theorem NS.below {w A A' : World} {n B v : Nat} (h : NS w A n B v) (hb : Below A.heap.size A A') : NS w A' n B v :=
  ⟨h.bA.below hb h.bA.lt, h.bR.below hb h.bR.lt, h.bB.below hb h.bB.lt, h.hb, h.hB.trans (hb.mono h.hB.size)⟩
theorem NS.drew {w A : World} {n B v : Nat} (h : NS w A n B v) : NS w A.drew n B v := h.below (Below.refl _ A).drew
theorem NS.setB {w A : World} {n B v : Nat} (h : NS w A n B v) (u : Nat) : NS w ((((A.setCell ⟨B, 0, none⟩ (.int .u64 (lb u 0))).setCell ⟨B, 1, none⟩ (.int .u64 (lb u 1))).setCell ⟨B, 2, none⟩ (.int .u64 (lb u 2))).setCell ⟨B, 3, none⟩ (.int .u64 (lb u 3))) n B u :=
  ⟨set4_other h.bA (by have := h.hb; omega) _ _ _ _, set4_other h.bR (by have := h.hb; omega) _ _ _ _, set4_Bk h.bB _ _ _ _, h.hb, set4_below h.hB (by have := h.hb; omega) _ _ _ _⟩
set_option maxRecDepth 100000 in
set_option maxHeartbeats 2000000 in
theorem rnext (n u t : Nat) (hn : n < M256) (t1 : 1 ≤ t) (t2 : t ≤ 1073741824) (hu : u ≤ 2 * t) (w : World) :
    Calls Try.prog 21 #[V n, .int .i64 (u : Int), .int .i64 (t : Int)] w fun e w' => e = .returned (.tuple #[V (nxV n u t), .bool (nxOk n u t)]) ∧ Below w.heap.size w w' := by
  by_cases he : u = t
  · subst he
    have ok : nxOk n u u = true := by simp [nxOk]
    rw [show nxV n u u = n by unfold nxV; rw [if_pos ok, if_pos rfl], ok]
    go_enter Try.func21, Try.ntmps21
    go_upto_region 1 with fail
    have bA : Bk ((w.alloc (.cells (A4 (lb (n) 0) (lb (n) 1) (lb (n) 2) (lb (n) 3)) 25)).alloc (.cells (A4 0 0 0 0) 25)) w.heap.size (A4 (lb (n) 0) (lb (n) 1) (lb (n) 2) (lb (n) 3)) 25 := (Bk.new _ _ _).alloc _
    have bR : Bk ((w.alloc (.cells (A4 (lb (n) 0) (lb (n) 1) (lb (n) 2) (lb (n) 3)) 25)).alloc (.cells (A4 0 0 0 0) 25)) (w.heap.size + 1) (A4 0 0 0 0) 25 := Bk.new' _ _ _ (by simp)
    have hB : Below w.heap.size w ((w.alloc (.cells (A4 (lb (n) 0) (lb (n) 1) (lb (n) 2) (lb (n) 3)) 25)).alloc (.cells (A4 0 0 0 0) 25)) := ((Below.refl _ w).alloc (Nat.le_refl _) _).alloc (by simp) _
    generalize ((w.alloc (.cells (A4 (lb (n) 0) (lb (n) 1) (lb (n) 2) (lb (n) 3)) 25)).alloc (.cells (A4 0 0 0 0) 25)) = w2 at *
    have n0 := bA.cell 0
    have nf0 := bA.frozen 0
    have n1 := bA.cell 1
    have nf1 := bA.frozen 1
    have n2 := bA.cell 2
    have nf2 := bA.frozen 2
    have n3 := bA.cell 3
    have nf3 := bA.frozen 3
    simp only [List.getElem?_toArray, List.getElem?_cons_zero, List.getElem?_cons_succ] at n0 n1 n2 n3
    have r0 := bR.cell 0
    have rf0 := bR.frozen 0
    have r1 := bR.cell 1
    have rf1 := bR.frozen 1
    have r2 := bR.cell 2
    have rf2 := bR.frozen 2
    have r3 := bR.cell 3
    have rf3 := bR.frozen 3
    simp only [List.getElem?_toArray, List.getElem?_cons_zero, List.getElem?_cons_succ] at r0 r1 r2 r3
    go_wp2
    have kR := set4_Bk bR (.int .u64 (lb (n) 0)) (.int .u64 (lb (n) 1)) (.int .u64 (lb (n) 2)) (.int .u64 (lb (n) 3))
    have hBr := set4_below hB (b := w.heap.size + 1) (by omega) (.int .u64 (lb (n) 0)) (.int .u64 (lb (n) 1)) (.int .u64 (lb (n) 2)) (.int .u64 (lb (n) 3))
    generalize World.setCell _ _ _ = W9 at kR hBr ⊢
    have q0 := kR.cell 0
    have qf0 := kR.frozen 0
    have q1 := kR.cell 1
    have qf1 := kR.frozen 1
    have q2 := kR.cell 2
    have qf2 := kR.frozen 2
    have q3 := kR.cell 3
    have qf3 := kR.frozen 3
    simp only [List.getElem?_toArray, List.getElem?_cons_zero, List.getElem?_cons_succ] at q0 q1 q2 q3
    refine bodyPost_ret (v := .tuple #[V n, .bool true]) ?_ rfl ⟨rfl, hBr⟩
    simp [results, Try.results21, go_sem, q0, q1, q2, q3]
  · have hnb : ((u : Int) == (t : Int)) = false := by simp; omega
    have HNE : Hid (u ≠ t) := he
    have hds : (nxD u t : Int) = if u < t then (t : Int) - u else (u : Int) - t := by unfold nxD; split <;> omega
    obtain ⟨d, hd⟩ : ∃ d, d = nxD u t := ⟨_, rfl⟩
    have hdl : d ≤ 1073741824 := by rw [hd]; unfold nxD; split <;> omega
    have HD : Hid (d = nxD u t) := hd
    rw [← hd] at hds
    have hof := fun w => rof d (by omega) w
    have hml : ∀ w, Calls Try.prog 34 #[V n, .agg (A4 (d : Int) 0 0 0)] w fun e w' => e = .returned (.tuple #[V (mulV n d), .bool (mulOk n d)]) ∧ Below w.heap.size w w' := fun w => by
      have := rmul n d hn (by unfold M256; omega) w
      rw [← V_one d (by omega)] at this
      exact this
    have HOF : Hid (∀ w, Calls Try.prog 36 #[.int .i64 (d : Int)] w fun e w' => e = .returned (.agg (A4 (d : Int) 0 0 0)) ∧ Below w.heap.size w w') := hof
    have HML : Hid (∀ w, Calls Try.prog 34 #[V n, .agg (A4 (d : Int) 0 0 0)] w fun e w' => e = .returned (.tuple #[V (mulV n d), .bool (mulOk n d)]) ∧ Below w.heap.size w w') := hml
    clear hof hml he hd
    go_enter Try.func21, Try.ntmps21
    go_upto_region 3 with fail
    have bA : Bk ((w.alloc (.cells (A4 (lb (n) 0) (lb (n) 1) (lb (n) 2) (lb (n) 3)) 25)).alloc (.cells (A4 0 0 0 0) 25)) w.heap.size (A4 (lb (n) 0) (lb (n) 1) (lb (n) 2) (lb (n) 3)) 25 := (Bk.new _ _ _).alloc _
    have bR : Bk ((w.alloc (.cells (A4 (lb (n) 0) (lb (n) 1) (lb (n) 2) (lb (n) 3)) 25)).alloc (.cells (A4 0 0 0 0) 25)) (w.heap.size + 1) (A4 0 0 0 0) 25 := Bk.new' _ _ _ (by simp)
    have hB : Below w.heap.size w ((w.alloc (.cells (A4 (lb (n) 0) (lb (n) 1) (lb (n) 2) (lb (n) 3)) 25)).alloc (.cells (A4 0 0 0 0) 25)) := ((Below.refl _ w).alloc (Nat.le_refl _) _).alloc (by simp) _
    have hsz : w.heap.size + 1 < ((w.alloc (.cells (A4 (lb (n) 0) (lb (n) 1) (lb (n) 2) (lb (n) 3)) 25)).alloc (.cells (A4 0 0 0 0) 25)).heap.size := by simp
    generalize ((w.alloc (.cells (A4 (lb (n) 0) (lb (n) 1) (lb (n) 2) (lb (n) 3)) 25)).alloc (.cells (A4 0 0 0 0) 25)) = wa at *
    go_upto_if 19 with fail
    go_cut [8] (fun q wx => q = .int .i64 (d : Int) ∧ wx = wa)
    case first =>
      by_cases hlt : u < t
      · rw [if_pos hlt] at hds
        have h1 : (u : Int) - t < 0 := by omega
        have h2 : -((u : Int) - t) = d := by omega
        have H2 : Hid (-((u : Int) - t) = (d : Int)) := h2
        clear h2 hds
        go_wp2_with fail
        go_meet
        exact ⟨by rw [← H2.out], rfl⟩
      · rw [if_neg hlt] at hds
        have h1 : ¬ (u : Int) - t < 0 := by omega
        have H2 : Hid ((u : Int) - t = (d : Int)) := hds.symm
        clear hds
        go_wp2_with fail
        go_meet
        exact ⟨by rw [← H2.out], rfl⟩
    case rest =>
      obtain ⟨rfl, rfl⟩ := hcut
      clear hds
      obtain ⟨wa, rfl⟩ : ∃ wa : World, wa = wc := ⟨_, rfl⟩
      go_upto_region 6 with fail
      go_cut [9, 10] (fun p q wx => ∃ B, p = .pointer (some ⟨B, 0, none⟩) ∧ wa.heap.size ≤ B ∧ Bk wx B (A4 (lb (mulV n d) 0) (lb (mulV n d) 1) (lb (mulV n d) 2) (lb (mulV n d) 3)) 25 ∧ q = .bool (mulOk n d) ∧ Below wa.heap.size wa wx)
      case first =>
        have hT : One4 w.heap.size n wa := One4.of bA
        have bw : Below wa.heap.size wa wa := Below.refl _ _
        go_region_held3 (fun w' => w'.cell? ⟨w.heap.size, 0, none⟩ = some (.int .u64 (lb (n) 0)) ∧ w'.cell? ⟨w.heap.size, 1, none⟩ = some (.int .u64 (lb (n) 1)) ∧ w'.cell? ⟨w.heap.size, 2, none⟩ = some (.int .u64 (lb (n) 2)) ∧ w'.cell? ⟨w.heap.size, 3, none⟩ = some (.int .u64 (lb (n) 3))) ((show One4 w.heap.size n _; repeat (first | with_reducible exact hT | with_reducible refine One4.drew ?_ | with_reducible refine One4.alloc ?_ _ | with_reducible refine One4.set ?_ (by simp <;> omega) _))) (first | (go_at_call 36; refine (HOF.out _).mono ?_; rintro e w2 ⟨rfl, hb2⟩; have hT := One4.below (b := w.heap.size) (n := n) (by repeat (first | with_reducible exact hT | with_reducible refine One4.drew ?_ | with_reducible refine One4.alloc ?_ _)) hb2; have hsz2 := hb2.size; (try simp only [World.size_alloc, World.size_drew] at hsz2 hb2); have bw : Below wa.heap.size wa w2 := Below.trans (by repeat (first | with_reducible exact bw | with_reducible refine Below.drew ?_ | with_reducible refine Below.alloc ?_ (by first | omega | (simp <;> omega)) _)) (hb2.mono (by have := bw.size; first | omega | (simp <;> omega))); try (have hz := Bk.below (b := wa.heap.size) (vs := A4 0 0 0 0) (t := 25) (by first | with_reducible exact (Bk.new wa _ _).drew | with_reducible exact Bk.new wa _ _) hb2 (by omega); have lz := hz.lt; have z0 := hz.cell 0; have zf0 := hz.frozen 0; have z1 := hz.cell 1; have zf1 := hz.frozen 1; have z2 := hz.cell 2; have zf2 := hz.frozen 2; have z3 := hz.cell 3; have zf3 := hz.frozen 3; simp only [List.getElem?_toArray, List.getElem?_cons_zero, List.getElem?_cons_succ] at z0 z1 z2 z3)) | (go_at_call 34; refine (HML.out _).mono ?_; rintro e w3 ⟨rfl, hb3⟩; have hT := One4.below (b := w.heap.size) (n := n) (by repeat (first | with_reducible exact hT | with_reducible refine One4.drew ?_ | with_reducible refine One4.alloc ?_ _)) hb3; have hsz3 := hb3.size; (try simp only [World.size_alloc, World.size_drew] at hsz3 hb3); have bw : Below wa.heap.size wa w3 := Below.trans (by repeat (first | with_reducible exact bw | with_reducible refine Below.drew ?_ | with_reducible refine Below.alloc ?_ (by first | omega | (simp <;> omega)) _)) (hb3.mono (by have := bw.size; first | omega | (simp <;> omega))); (first | (have hz := Bk.below hz hb3 lz; have lz := hz.lt; have z0 := hz.cell 0; have zf0 := hz.frozen 0; have z1 := hz.cell 1; have zf1 := hz.frozen 1; have z2 := hz.cell 2; have zf2 := hz.frozen 2; have z3 := hz.cell 3; have zf3 := hz.frozen 3; simp only [List.getElem?_toArray, List.getElem?_cons_zero, List.getElem?_cons_succ] at z0 z1 z2 z3) | (try (have hz := Bk.below (b := w2.heap.size) (vs := A4 0 0 0 0) (t := 25) (by first | with_reducible exact (Bk.new w2 _ _).drew | with_reducible exact Bk.new w2 _ _) hb3 (by omega); have lz := hz.lt; have z0 := hz.cell 0; have zf0 := hz.frozen 0; have z1 := hz.cell 1; have zf1 := hz.frozen 1; have z2 := hz.cell 2; have zf2 := hz.frozen 2; have z3 := hz.cell 3; have zf3 := hz.frozen 3; simp only [List.getElem?_toArray, List.getElem?_cons_zero, List.getElem?_cons_succ] at z0 z1 z2 z3)))))
        all_goals
          go_wp2_with fail
          go_meet
          refine ⟨_, rfl, by omega, ?_, rfl, ?_⟩
          · repeat (first | with_reducible exact hz | with_reducible exact Bk.new _ _ _ | with_reducible exact Bk.new' _ _ _ (by simp) | with_reducible refine set4_Bk (x0 := .int .u64 0) (x1 := .int .u64 0) (x2 := .int .u64 0) (x3 := .int .u64 0) ?_ _ _ _ _ | with_reducible refine set4_other ?_ (by omega) _ _ _ _ | with_reducible refine Bk.alloc ?_ _)
          · repeat (first | with_reducible exact bw | with_reducible refine set4_below ?_ (by omega) _ _ _ _ | with_reducible refine Below.alloc ?_ (by first | omega | (simp <;> omega)) _)
      case rest =>
        obtain ⟨B, rfl, hBl, bB, rfl, hbx⟩ := hcut
        have hN : NS w wc n B (mulV n d) := ⟨bA.below hbx bA.lt, bR.below hbx bR.lt, bB, by omega, hB.trans (hbx.mono (by omega))⟩
        clear bA bR bB hB hbx hsz hBl
        obtain ⟨wa, rfl⟩ : ∃ wa : World, wa = wc := ⟨_, rfl⟩
        have hlb := hN.hb
        cases hok : mulOk n d
        · have ok : nxOk n u t = false := by
            have h2 : ¬ n * d < M256 := by simpa [mulOk] using hok
            simp only [nxOk]; rw [← HD.out]; simp [HNE.out, h2]
          have HV : Hid (nxV n u t = 0 ∧ nxOk n u t = false) := ⟨by unfold nxV; rw [ok]; rfl, ok⟩
          clear hok ok
          have r0 := hN.bR.cell 0
          have rf0 := hN.bR.frozen 0
          have r1 := hN.bR.cell 1
          have rf1 := hN.bR.frozen 1
          have r2 := hN.bR.cell 2
          have rf2 := hN.bR.frozen 2
          have r3 := hN.bR.cell 3
          have rf3 := hN.bR.frozen 3
          simp only [List.getElem?_toArray, List.getElem?_cons_zero, List.getElem?_cons_succ] at r0 r1 r2 r3
          go_wp2
          have kR := set4_Bk hN.bR (.int .u64 0) (.int .u64 0) (.int .u64 0) (.int .u64 0)
          have hBr := set4_below hN.hB (b := w.heap.size + 1) (by omega) (.int .u64 0) (.int .u64 0) (.int .u64 0) (.int .u64 0)
          generalize World.setCell _ _ _ = W9 at kR hBr ⊢
          have q0 := kR.cell 0
          have qf0 := kR.frozen 0
          have q1 := kR.cell 1
          have qf1 := kR.frozen 1
          have q2 := kR.cell 2
          have qf2 := kR.frozen 2
          have q3 := kR.cell 3
          have qf3 := kR.frozen 3
          simp only [List.getElem?_toArray, List.getElem?_cons_zero, List.getElem?_cons_succ] at q0 q1 q2 q3
          refine bodyPost_ret (v := .tuple #[.agg (A4 0 0 0 0), .bool false]) ?_ rfl ⟨by rw [HV.out.1, HV.out.2, V_zero], hBr⟩
          simp [results, Try.results21, go_sem, q0, q1, q2, q3]
        · have hol : n * d < M256 := by simpa [mulOk] using hok
          rw [show mulV n d = n * d from if_pos hol] at hN
          have hot := fun w => rof t (by omega) w
          have ho8 : ∀ w, Calls Try.prog 36 #[.int .i64 8] w fun e w' => e = .returned (.agg (A4 8 0 0 0)) ∧ Below w.heap.size w w' := fun w => rof 8 (by omega) w
          have hdt : ∀ w, Calls Try.prog 28 #[V (n * d), .agg (A4 (t : Int) 0 0 0)] w fun e w' => e = .returned (.tuple #[V (n * d / t), V (n * d % t)]) ∧ Below w.heap.size w w' := fun w => by
            have := rdiv (n * d) t hol (by unfold M256; omega) (by omega) w
            rw [← V_one t (by omega)] at this
            exact this
          have hd8 : ∀ w, Calls Try.prog 28 #[V (n * d / t), .agg (A4 8 0 0 0)] w fun e w' => e = .returned (.tuple #[V (n * d / t / 8), V (n * d / t % 8)]) ∧ Below w.heap.size w w' := fun w => by
            have := rdiv (n * d / t) 8 (Nat.lt_of_le_of_lt (Nat.div_le_self _ _) hol) (by decide) (by omega) w
            rw [V_small 8 (by omega)] at this
            exact this
          have HC : Hid (n * d / t / 8 = nxC n u t) := by show n * d / t / 8 = nxC n u t; unfold nxC; rw [← HD.out]
          have hcl : n * d / t / 8 < M256 := Nat.lt_of_le_of_lt (Nat.le_trans (Nat.div_le_self _ _) (Nat.div_le_self _ _)) hol
          have HOL : Hid (n * nxD u t < M256) := by rw [← HD.out]; exact hol
          have HDT : Hid (∀ w, Calls Try.prog 28 #[V (n * d), .agg (A4 (t : Int) 0 0 0)] w fun e w' => e = .returned (.tuple #[V (n * d / t), V (n * d % t)]) ∧ Below w.heap.size w w') := hdt
          have HD8 : Hid (∀ w, Calls Try.prog 28 #[V (n * d / t), .agg (A4 8 0 0 0)] w fun e w' => e = .returned (.tuple #[V (n * d / t / 8), V (n * d / t % 8)]) ∧ Below w.heap.size w w') := hd8
          have HOT : Hid (∀ w, Calls Try.prog 36 #[.int .i64 (t : Int)] w fun e w' => e = .returned (.agg (A4 (t : Int) 0 0 0)) ∧ Below w.heap.size w w') := hot
          have HO8 : Hid (∀ w, Calls Try.prog 36 #[.int .i64 8] w fun e w' => e = .returned (.agg (A4 8 0 0 0)) ∧ Below w.heap.size w w') := ho8
          clear hok hol hdt hd8 hot ho8
          generalize n * d / t % 8 = m2 at *
          generalize n * d % t = m1 at *
          generalize n * d / t / 8 = c at *
          generalize n * d / t = b1 at *
          generalize n * d = a1 at *
          go_upto_region 9 with fail
          go_cut [] (fun wx => NS w wx n B (b1))
          case first =>
            have z0 := hN.bB.cell 0
            have zf0 := hN.bB.frozen 0
            have z1 := hN.bB.cell 1
            have zf1 := hN.bB.frozen 1
            have z2 := hN.bB.cell 2
            have zf2 := hN.bB.frozen 2
            have z3 := hN.bB.cell 3
            have zf3 := hN.bB.frozen 3
            simp only [List.getElem?_toArray, List.getElem?_cons_zero, List.getElem?_cons_succ] at z0 z1 z2 z3
            go_region_with (first | (go_at_call 28; refine (HDT.out _).mono ?_; rintro e w6 ⟨rfl, hbw6⟩; have hN := NS.below (w := w) (n := n) (B := B) (v := a1) (by repeat (first | with_reducible exact hN | with_reducible refine NS.drew ?_)) hbw6; have lz := hN.bB.lt; have z0 := hN.bB.cell 0; have zf0 := hN.bB.frozen 0; have z1 := hN.bB.cell 1; have zf1 := hN.bB.frozen 1; have z2 := hN.bB.cell 2; have zf2 := hN.bB.frozen 2; have z3 := hN.bB.cell 3; have zf3 := hN.bB.frozen 3; simp only [List.getElem?_toArray, List.getElem?_cons_zero, List.getElem?_cons_succ] at z0 z1 z2 z3) | (go_at_call 36; refine (HOT.out _).mono ?_; rintro e w5 ⟨rfl, hbw5⟩; have hN := NS.below (w := w) (n := n) (B := B) (v := a1) (by repeat (first | with_reducible exact hN | with_reducible refine NS.drew ?_)) hbw5; have lz := hN.bB.lt; have z0 := hN.bB.cell 0; have zf0 := hN.bB.frozen 0; have z1 := hN.bB.cell 1; have zf1 := hN.bB.frozen 1; have z2 := hN.bB.cell 2; have zf2 := hN.bB.frozen 2; have z3 := hN.bB.cell 3; have zf3 := hN.bB.frozen 3; simp only [List.getElem?_toArray, List.getElem?_cons_zero, List.getElem?_cons_succ] at z0 z1 z2 z3))
            all_goals
              go_wp2_with fail
              go_meet
              exact hN.setB _
          case rest =>
            have hN := hcut
            clear hcut
            obtain ⟨wb, rfl⟩ : ∃ wb : World, wb = wc := ⟨_, rfl⟩
            go_upto_region 10 with fail
            go_cut [] (fun wx => NS w wx n B (c))
            case first =>
              have z0 := hN.bB.cell 0
              have zf0 := hN.bB.frozen 0
              have z1 := hN.bB.cell 1
              have zf1 := hN.bB.frozen 1
              have z2 := hN.bB.cell 2
              have zf2 := hN.bB.frozen 2
              have z3 := hN.bB.cell 3
              have zf3 := hN.bB.frozen 3
              simp only [List.getElem?_toArray, List.getElem?_cons_zero, List.getElem?_cons_succ] at z0 z1 z2 z3
              go_region_with (first | (go_at_call 28; refine (HD8.out _).mono ?_; rintro e w6 ⟨rfl, hbw6⟩; have hN := NS.below (w := w) (n := n) (B := B) (v := b1) (by repeat (first | with_reducible exact hN | with_reducible refine NS.drew ?_)) hbw6; have lz := hN.bB.lt; have z0 := hN.bB.cell 0; have zf0 := hN.bB.frozen 0; have z1 := hN.bB.cell 1; have zf1 := hN.bB.frozen 1; have z2 := hN.bB.cell 2; have zf2 := hN.bB.frozen 2; have z3 := hN.bB.cell 3; have zf3 := hN.bB.frozen 3; simp only [List.getElem?_toArray, List.getElem?_cons_zero, List.getElem?_cons_succ] at z0 z1 z2 z3) | (go_at_call 36; refine (HO8.out _).mono ?_; rintro e w5 ⟨rfl, hbw5⟩; have hN := NS.below (w := w) (n := n) (B := B) (v := b1) (by repeat (first | with_reducible exact hN | with_reducible refine NS.drew ?_)) hbw5; have lz := hN.bB.lt; have z0 := hN.bB.cell 0; have zf0 := hN.bB.frozen 0; have z1 := hN.bB.cell 1; have zf1 := hN.bB.frozen 1; have z2 := hN.bB.cell 2; have zf2 := hN.bB.frozen 2; have z3 := hN.bB.cell 3; have zf3 := hN.bB.frozen 3; simp only [List.getElem?_toArray, List.getElem?_cons_zero, List.getElem?_cons_succ] at z0 z1 z2 z3))
              all_goals
                go_wp2_with fail
                go_meet
                exact hN.setB _
            case rest =>
              have hN := hcut
              clear hcut
              obtain ⟨wd, rfl⟩ : ∃ wd : World, wd = wc := ⟨_, rfl⟩
              have hlb := hN.hb
              have lB := hN.bB.lt
              by_cases hlt : u < t
              · have hle : c ≤ n := by rw [HC.out]; exact nxC_le n u t hlt
                have ok : nxOk n u t = true := by simp [nxOk, HOL.out, hlt]
                have HV : Hid (nxV n u t = n - c ∧ nxOk n u t = true) := ⟨by unfold nxV; rw [if_pos ok, if_neg HNE.out, if_pos hlt, HC.out], ok⟩
                have hsb := fun w => rsub n c hn hcl w
                rw [show subV n c = n - c from if_pos hle, show subOk n c = true from decide_eq_true hle] at hsb
                have HSB : Hid (∀ w, Calls Try.prog 39 #[V n, V c] w fun e w' => e = .returned (.tuple #[V (n - c), .bool true]) ∧ Below w.heap.size w w') := hsb
                have hlt' : (u : Int) < t := by omega
                generalize n - c = v at *
                clear hsb hle ok hcl
                have a0 := hN.bA.cell 0
                have af0 := hN.bA.frozen 0
                have a1 := hN.bA.cell 1
                have af1 := hN.bA.frozen 1
                have a2 := hN.bA.cell 2
                have af2 := hN.bA.frozen 2
                have a3 := hN.bA.cell 3
                have af3 := hN.bA.frozen 3
                simp only [List.getElem?_toArray, List.getElem?_cons_zero, List.getElem?_cons_succ] at a0 a1 a2 a3
                have c0 := hN.bB.cell 0
                have cf0 := hN.bB.frozen 0
                have c1 := hN.bB.cell 1
                have cf1 := hN.bB.frozen 1
                have c2 := hN.bB.cell 2
                have cf2 := hN.bB.frozen 2
                have c3 := hN.bB.cell 3
                have cf3 := hN.bB.frozen 3
                simp only [List.getElem?_toArray, List.getElem?_cons_zero, List.getElem?_cons_succ] at c0 c1 c2 c3
                go_wp2_with (go_at_call 39; refine (HSB.out _).mono ?_; rintro e w9 ⟨rfl, hb9⟩; have bR9 := hN.bR.below hb9 hN.bR.lt; have l9 := bR9.lt; have z0 := bR9.cell 0; have zf0 := bR9.frozen 0; have z1 := bR9.cell 1; have zf1 := bR9.frozen 1; have z2 := bR9.cell 2; have zf2 := bR9.frozen 2; have z3 := bR9.cell 3; have zf3 := bR9.frozen 3; simp only [List.getElem?_toArray, List.getElem?_cons_zero, List.getElem?_cons_succ] at z0 z1 z2 z3)
                have kR := set4_Bk bR9 (.int .u64 (lb (v) 0)) (.int .u64 (lb (v) 1)) (.int .u64 (lb (v) 2)) (.int .u64 (lb (v) 3))
                have hBr := set4_below (hN.hB.trans (hb9.mono hN.hB.size)) (b := w.heap.size + 1) (by omega) (.int .u64 (lb (v) 0)) (.int .u64 (lb (v) 1)) (.int .u64 (lb (v) 2)) (.int .u64 (lb (v) 3))
                generalize World.setCell _ _ _ = W9 at kR hBr ⊢
                have q0 := kR.cell 0
                have qf0 := kR.frozen 0
                have q1 := kR.cell 1
                have qf1 := kR.frozen 1
                have q2 := kR.cell 2
                have qf2 := kR.frozen 2
                have q3 := kR.cell 3
                have qf3 := kR.frozen 3
                simp only [List.getElem?_toArray, List.getElem?_cons_zero, List.getElem?_cons_succ] at q0 q1 q2 q3
                refine bodyPost_ret (v := .tuple #[V v, .bool true]) ?_ rfl ⟨by rw [HV.out.1, HV.out.2], hBr⟩
                simp [results, Try.results21, go_sem, q0, q1, q2, q3]
              · have hlt' : ¬ (u : Int) < t := by omega
                have hml : max 1 c < M256 := by unfold M256 at *; omega
                have had := fun w => radd n (max 1 c) hn hml w
                have HV : Hid (addV n (max 1 c) = nxV n u t ∧ addOk n (max 1 c) = nxOk n u t) := by
                  have e1 : nxOk n u t = decide (n + max 1 c < M256) := by
                    simp only [nxOk, HOL.out, hlt]; rw [← HC.out]; simp [HNE.out]
                  refine ⟨?_, by rw [e1]; rfl⟩
                  unfold nxV addV
                  rw [e1, if_neg HNE.out, if_neg hlt, ← HC.out]
                  simp
                rw [HV.out.1, HV.out.2] at had
                by_cases h0 : c = 0
                · have hez : ∀ w, (binOp .eql 25 (V c) (.agg (A4 0 0 0 0))).run Try.prog w = .ok (.bool true) w := fun w => by rw [eql26_0 c hcl, h0]; rfl
                  have had1 : ∀ w, Calls Try.prog 35 #[V n, .agg (A4 1 0 0 0)] w fun e w' => e = .returned (.tuple #[V (nxV n u t), .bool (nxOk n u t)]) ∧ Below w.heap.size w w' := fun w => by
                    have := had w
                    rw [show V (max 1 c) = .agg (A4 1 0 0 0) by rw [h0]; rw [show max 1 0 = 1 from rfl, V_small 1 (by omega)]; rfl] at this
                    exact this
                  have HAD : Hid (∀ w, Calls Try.prog 35 #[V n, .agg (A4 1 0 0 0)] w fun e w' => e = .returned (.tuple #[V (nxV n u t), .bool (nxOk n u t)]) ∧ Below w.heap.size w w') := had1
                  have ho1 : ∀ w, Calls Try.prog 36 #[.int .i64 1] w fun e w' => e = .returned (.agg (A4 1 0 0 0)) ∧ Below w.heap.size w w' := fun w => rof 1 (by omega) w
                  clear had had1 h0 hcl hml
                  have c0 := hN.bB.cell 0
                  have cf0 := hN.bB.frozen 0
                  have c1 := hN.bB.cell 1
                  have cf1 := hN.bB.frozen 1
                  have c2 := hN.bB.cell 2
                  have cf2 := hN.bB.frozen 2
                  have c3 := hN.bB.cell 3
                  have cf3 := hN.bB.frozen 3
                  simp only [List.getElem?_toArray, List.getElem?_cons_zero, List.getElem?_cons_succ] at c0 c1 c2 c3
                  go_upto_region 15 with (go_at_call 36; refine (ho1 _).mono ?_; rintro e w7 ⟨rfl, hb7⟩; have hN7 := hN.below hb7; have l7 := hN7.bB.lt; have p0 := hN7.bB.cell 0; have pf0 := hN7.bB.frozen 0; have p1 := hN7.bB.cell 1; have pf1 := hN7.bB.frozen 1; have p2 := hN7.bB.cell 2; have pf2 := hN7.bB.frozen 2; have p3 := hN7.bB.cell 3; have pf3 := hN7.bB.frozen 3; simp only [List.getElem?_toArray, List.getElem?_cons_zero, List.getElem?_cons_succ] at p0 p1 p2 p3)
                  have bA8 := set4_other hN7.bA (c := B) (by omega) (.int .u64 1) (.int .u64 0) (.int .u64 0) (.int .u64 0)
                  have bR8 := set4_other hN7.bR (c := B) (by omega) (.int .u64 1) (.int .u64 0) (.int .u64 0) (.int .u64 0)
                  have bB8 := set4_Bk hN7.bB (.int .u64 1) (.int .u64 0) (.int .u64 0) (.int .u64 0)
                  have hB8 := set4_below hN7.hB (b := B) (by omega) (.int .u64 1) (.int .u64 0) (.int .u64 0) (.int .u64 0)
                  generalize World.setCell _ _ _ = w8 at bA8 bR8 bB8 hB8 ⊢
                  clear p0 p1 p2 p3 pf0 pf1 pf2 pf3 c0 c1 c2 c3 cf0 cf1 cf2 cf3
                  have a0 := bA8.cell 0
                  have af0 := bA8.frozen 0
                  have a1 := bA8.cell 1
                  have af1 := bA8.frozen 1
                  have a2 := bA8.cell 2
                  have af2 := bA8.frozen 2
                  have a3 := bA8.cell 3
                  have af3 := bA8.frozen 3
                  simp only [List.getElem?_toArray, List.getElem?_cons_zero, List.getElem?_cons_succ] at a0 a1 a2 a3
                  have c0 := bB8.cell 0
                  have cf0 := bB8.frozen 0
                  have c1 := bB8.cell 1
                  have cf1 := bB8.frozen 1
                  have c2 := bB8.cell 2
                  have cf2 := bB8.frozen 2
                  have c3 := bB8.cell 3
                  have cf3 := bB8.frozen 3
                  simp only [List.getElem?_toArray, List.getElem?_cons_zero, List.getElem?_cons_succ] at c0 c1 c2 c3
                  go_wp2_with (go_at_call 35; refine (HAD.out _).mono ?_; rintro e w9 ⟨rfl, hb9⟩; have bR9 := bR8.below hb9 bR8.lt; have l9 := bR9.lt; have z0 := bR9.cell 0; have zf0 := bR9.frozen 0; have z1 := bR9.cell 1; have zf1 := bR9.frozen 1; have z2 := bR9.cell 2; have zf2 := bR9.frozen 2; have z3 := bR9.cell 3; have zf3 := bR9.frozen 3; simp only [List.getElem?_toArray, List.getElem?_cons_zero, List.getElem?_cons_succ] at z0 z1 z2 z3)
                  have kR := set4_Bk bR9 (.int .u64 (lb (nxV n u t) 0)) (.int .u64 (lb (nxV n u t) 1)) (.int .u64 (lb (nxV n u t) 2)) (.int .u64 (lb (nxV n u t) 3))
                  have hBr := set4_below (hB8.trans (hb9.mono hB8.size)) (b := w.heap.size + 1) (by omega) (.int .u64 (lb (nxV n u t) 0)) (.int .u64 (lb (nxV n u t) 1)) (.int .u64 (lb (nxV n u t) 2)) (.int .u64 (lb (nxV n u t) 3))
                  generalize World.setCell _ _ _ = W9 at kR hBr ⊢
                  have q0 := kR.cell 0
                  have qf0 := kR.frozen 0
                  have q1 := kR.cell 1
                  have qf1 := kR.frozen 1
                  have q2 := kR.cell 2
                  have qf2 := kR.frozen 2
                  have q3 := kR.cell 3
                  have qf3 := kR.frozen 3
                  simp only [List.getElem?_toArray, List.getElem?_cons_zero, List.getElem?_cons_succ] at q0 q1 q2 q3
                  refine bodyPost_ret (v := .tuple #[V (nxV n u t), .bool (nxOk n u t)]) ?_ rfl ⟨rfl, hBr⟩
                  simp [results, Try.results21, go_sem, q0, q1, q2, q3]
                · have hez : ∀ w, (binOp .eql 25 (V c) (.agg (A4 0 0 0 0))).run Try.prog w = .ok (.bool false) w := fun w => by rw [eql26_0 c hcl, decide_eq_false h0]
                  rw [show max 1 c = c by omega] at had
                  have HAD : Hid (∀ w, Calls Try.prog 35 #[V n, V c] w fun e w' => e = .returned (.tuple #[V (nxV n u t), .bool (nxOk n u t)]) ∧ Below w.heap.size w w') := had
                  clear had h0 hcl hml
                  have a0 := hN.bA.cell 0
                  have af0 := hN.bA.frozen 0
                  have a1 := hN.bA.cell 1
                  have af1 := hN.bA.frozen 1
                  have a2 := hN.bA.cell 2
                  have af2 := hN.bA.frozen 2
                  have a3 := hN.bA.cell 3
                  have af3 := hN.bA.frozen 3
                  simp only [List.getElem?_toArray, List.getElem?_cons_zero, List.getElem?_cons_succ] at a0 a1 a2 a3
                  have c0 := hN.bB.cell 0
                  have cf0 := hN.bB.frozen 0
                  have c1 := hN.bB.cell 1
                  have cf1 := hN.bB.frozen 1
                  have c2 := hN.bB.cell 2
                  have cf2 := hN.bB.frozen 2
                  have c3 := hN.bB.cell 3
                  have cf3 := hN.bB.frozen 3
                  simp only [List.getElem?_toArray, List.getElem?_cons_zero, List.getElem?_cons_succ] at c0 c1 c2 c3
                  go_wp2_with (go_at_call 35; refine (HAD.out _).mono ?_; rintro e w9 ⟨rfl, hb9⟩; have bR9 := hN.bR.below hb9 hN.bR.lt; have l9 := bR9.lt; have z0 := bR9.cell 0; have zf0 := bR9.frozen 0; have z1 := bR9.cell 1; have zf1 := bR9.frozen 1; have z2 := bR9.cell 2; have zf2 := bR9.frozen 2; have z3 := bR9.cell 3; have zf3 := bR9.frozen 3; simp only [List.getElem?_toArray, List.getElem?_cons_zero, List.getElem?_cons_succ] at z0 z1 z2 z3)
                  have kR := set4_Bk bR9 (.int .u64 (lb (nxV n u t) 0)) (.int .u64 (lb (nxV n u t) 1)) (.int .u64 (lb (nxV n u t) 2)) (.int .u64 (lb (nxV n u t) 3))
                  have hBr := set4_below (hN.hB.trans (hb9.mono hN.hB.size)) (b := w.heap.size + 1) (by omega) (.int .u64 (lb (nxV n u t) 0)) (.int .u64 (lb (nxV n u t) 1)) (.int .u64 (lb (nxV n u t) 2)) (.int .u64 (lb (nxV n u t) 3))
                  generalize World.setCell _ _ _ = W9 at kR hBr ⊢
                  have q0 := kR.cell 0
                  have qf0 := kR.frozen 0
                  have q1 := kR.cell 1
                  have qf1 := kR.frozen 1
                  have q2 := kR.cell 2
                  have qf2 := kR.frozen 2
                  have q3 := kR.cell 3
                  have qf3 := kR.frozen 3
                  simp only [List.getElem?_toArray, List.getElem?_cons_zero, List.getElem?_cons_succ] at q0 q1 q2 q3
                  refine bodyPost_ret (v := .tuple #[V (nxV n u t), .bool (nxOk n u t)]) ?_ rfl ⟨rfl, hBr⟩
                  simp [results, Try.results21, go_sem, q0, q1, q2, q3]
end Go.Proofs.Ytgolpadmcalimaa

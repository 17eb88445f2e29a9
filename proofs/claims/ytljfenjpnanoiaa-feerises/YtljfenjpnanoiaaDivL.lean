import Derived.Test.YtljfenjpnanoiaaDivM
import Derived.Test.YtljfenjpnanoiaaShift
import Derived.Test.YtljfenjpnanoiaaHalf
import Derived.Test.YtljfenjpnanoiaaSub
set_option linter.unusedSimpArgs false
set_option linter.unusedVariables false
namespace Go.Proofs.Ytljfenjpnanoiaa
open Go.RowKit

def TwoB (b B n m : Nat) (w' : World) : Prop := w'.cell? ⟨b, 0, none⟩ = some (.int .u64 (lb n 0)) ∧ w'.cell? ⟨b, 1, none⟩ = some (.int .u64 (lb n 1)) ∧ w'.cell? ⟨b, 2, none⟩ = some (.int .u64 (lb n 2)) ∧ w'.cell? ⟨b, 3, none⟩ = some (.int .u64 (lb n 3)) ∧ w'.cell? ⟨B, 0, none⟩ = some (.int .u64 (lb m 0)) ∧ w'.cell? ⟨B, 1, none⟩ = some (.int .u64 (lb m 1)) ∧ w'.cell? ⟨B, 2, none⟩ = some (.int .u64 (lb m 2)) ∧ w'.cell? ⟨B, 3, none⟩ = some (.int .u64 (lb m 3))
theorem TwoB.of {b B n m : Nat} {w : World} (h : Bk w b (A4 (lb n 0) (lb n 1) (lb n 2) (lb n 3)) 25) (k : Bk w B (A4 (lb m 0) (lb m 1) (lb m 2) (lb m 3)) 25) : TwoB b B n m w := ⟨lb_cells h 0 (by omega), lb_cells h 1 (by omega), lb_cells h 2 (by omega), lb_cells h 3 (by omega), lb_cells k 0 (by omega), lb_cells k 1 (by omega), lb_cells k 2 (by omega), lb_cells k 3 (by omega)⟩
theorem TwoB.below {b B n m : Nat} {w w' : World} (h : TwoB b B n m w) (hb : Below w.heap.size w w') : TwoB b B n m w' := by
  unfold TwoB at h ⊢
  have h' : Two b 0 B n m w := by unfold Two; simpa using h
  have := h'.below hb
  unfold Two at this
  simpa using this
theorem TwoB.drew {b B n m : Nat} {w : World} (h : TwoB b B n m w) : TwoB b B n m w.drew := h.below ((Below.refl _ w).drew)
attribute [local irreducible] lb
set_option maxRecDepth 100000 in
set_option maxHeartbeats 1000000 in
theorem divLong (n m : Nat) (hn : n < M256) (hm : m < M256) (h0 : 0 < m) (w : World) :
    Calls Try.prog 33 #[V n, V m] w fun e w' => e = .returned (.tuple #[V (n / m), V (n % m)]) ∧ Below w.heap.size w w' := by
  have Hn : Hid (n < M256) := hn
  have Hm : Hid (m < M256) := hm
  have H0 : Hid (0 < m) := h0
  have hbn := bl_le n hn
  have hbm := bl_le m hm
  have hbp := (bl_ge m h0).2
  clear hn hm h0
  go_enter Try.func33, Try.ntmps33
  go_wp2
  have bA : Bk ((((w.alloc (.cells (A4 (lb n 0) (lb n 1) (lb n 2) (lb n 3)) 25)).alloc (.cells (A4 (lb m 0) (lb m 1) (lb m 2) (lb m 3)) 25)).alloc (.cells (A4 0 0 0 0) 25)).alloc (.cells (A4 0 0 0 0) 25)) w.heap.size (A4 (lb n 0) (lb n 1) (lb n 2) (lb n 3)) 25 := (((Bk.new _ _ _).alloc _).alloc _).alloc _
  have bM : Bk ((((w.alloc (.cells (A4 (lb n 0) (lb n 1) (lb n 2) (lb n 3)) 25)).alloc (.cells (A4 (lb m 0) (lb m 1) (lb m 2) (lb m 3)) 25)).alloc (.cells (A4 0 0 0 0) 25)).alloc (.cells (A4 0 0 0 0) 25)) (w.heap.size + 1) (A4 (lb m 0) (lb m 1) (lb m 2) (lb m 3)) 25 := ((Bk.new' _ _ _ (by simp)).alloc _).alloc _
  have bQ : Bk ((((w.alloc (.cells (A4 (lb n 0) (lb n 1) (lb n 2) (lb n 3)) 25)).alloc (.cells (A4 (lb m 0) (lb m 1) (lb m 2) (lb m 3)) 25)).alloc (.cells (A4 0 0 0 0) 25)).alloc (.cells (A4 0 0 0 0) 25)) (w.heap.size + 1 + 1) (A4 0 0 0 0) 25 := (Bk.new' _ _ _ (by simp)).alloc _
  have bR : Bk ((((w.alloc (.cells (A4 (lb n 0) (lb n 1) (lb n 2) (lb n 3)) 25)).alloc (.cells (A4 (lb m 0) (lb m 1) (lb m 2) (lb m 3)) 25)).alloc (.cells (A4 0 0 0 0) 25)).alloc (.cells (A4 0 0 0 0) 25)) (w.heap.size + 1 + 1 + 1) (A4 0 0 0 0) 25 := Bk.new' _ _ _ (by simp)
  have hB : Below w.heap.size w ((((w.alloc (.cells (A4 (lb n 0) (lb n 1) (lb n 2) (lb n 3)) 25)).alloc (.cells (A4 (lb m 0) (lb m 1) (lb m 2) (lb m 3)) 25)).alloc (.cells (A4 0 0 0 0) 25)).alloc (.cells (A4 0 0 0 0) 25)) := ((((Below.refl _ w).alloc (Nat.le_refl _) _).alloc (by simp) _).alloc (by simp; omega) _).alloc (by simp; omega) _
  have hsz : ((((w.alloc (.cells (A4 (lb n 0) (lb n 1) (lb n 2) (lb n 3)) 25)).alloc (.cells (A4 (lb m 0) (lb m 1) (lb m 2) (lb m 3)) 25)).alloc (.cells (A4 0 0 0 0) 25)).alloc (.cells (A4 0 0 0 0) 25)).heap.size = w.heap.size + 4 := by simp
  generalize ((((w.alloc (.cells (A4 (lb n 0) (lb n 1) (lb n 2) (lb n 3)) 25)).alloc (.cells (A4 (lb m 0) (lb m 1) (lb m 2) (lb m 3)) 25)).alloc (.cells (A4 0 0 0 0) 25)).alloc (.cells (A4 0 0 0 0) 25)) = w4 at *
  have hT := TwoB.of bA bM
  have hbs : Below w4.heap.size w4 w4 := Below.refl _ _
  have hsb : w4.heap.size ≤ w4.heap.size := Nat.le_refl _
  go_cut [6] (fun k wx => k = .int .i64 ((bl n : Int) - bl m) ∧ Below w4.heap.size w4 wx)
  case first =>
    have hU := hT
    unfold TwoB at hU
    obtain ⟨q0, q1, q2, q3, q4, q5, q6, q7⟩ := hU
    go_region_with (go_at_call 28; refine (bits _ (by first | exact Hn.out | exact Hm.out) _).mono ?_; rintro e w3 ⟨rfl, hb3⟩; (first | (have hT := TwoB.below (TwoB.drew hT) hb3; have hbs := below_step hbs hb3) | (have hT := TwoB.below hT hb3; have hbs := below_step2 hbs hb3)); have hU := hT; unfold TwoB at hU; obtain ⟨q0, q1, q2, q3, q4, q5, q6, q7⟩ := hU)
    all_goals (go_wp2_with fail; go_meet; exact ⟨by rw [IntKind.wrap_i64]; congr 1; omega, hbs⟩)
  case rest =>
    obtain ⟨rfl, hbx⟩ := hcut
    obtain ⟨wa, rfl⟩ : ∃ wa : World, wa = wc := ⟨_, rfl⟩
    have bA := bA.below hbx bA.lt
    have bM := bM.below hbx bM.lt
    have bQ := bQ.below hbx bQ.lt
    have bR := bR.below hbx bR.lt
    have hBa := hB.trans (hbx.mono (by omega))
    have hsa := hbx.size
    clear hT hbs hsb hbx hB
    have c0 := bM.cell 0
    have c1 := bM.cell 1
    have c2 := bM.cell 2
    have c3 := bM.cell 3
    have cf0 := bM.frozen 0
    have cf1 := bM.frozen 1
    have cf2 := bM.frozen 2
    have cf3 := bM.frozen 3
    simp only [List.getElem?_toArray, List.getElem?_cons_zero, List.getElem?_cons_succ] at c0 c1 c2 c3
    have hN : m * 2 ^ ((bl n : Int) - bl m).toNat < M256 := by
      by_cases h : bl m ≤ bl n
      · exact (dInv_start n m H0.out Hn.out _ (by omega)).1
      · rw [show ((bl n : Int) - bl m).toNat = 0 by omega, Nat.pow_zero, Nat.mul_one]; exact Hm.out
    have HS : Hid (m * 2 ^ ((bl n : Int) - bl m).toNat < M256) := hN
    clear hN
    go_wp2_with (go_at_call 45; refine (shift m ((bl n : Int) - (bl m : Int)) (by omega) Hm.out HS.out _).mono ?_; rintro e w5 ⟨rfl, hb5⟩)
    have bA := (bA.below hb5 bA.lt).alloc (.cells (A4 (lb (m * 2 ^ (bl n - bl m)) 0) (lb (m * 2 ^ (bl n - bl m)) 1) (lb (m * 2 ^ (bl n - bl m)) 2) (lb (m * 2 ^ (bl n - bl m)) 3)) 25)
    have bQ := (bQ.below hb5 bQ.lt).alloc (.cells (A4 (lb (m * 2 ^ (bl n - bl m)) 0) (lb (m * 2 ^ (bl n - bl m)) 1) (lb (m * 2 ^ (bl n - bl m)) 2) (lb (m * 2 ^ (bl n - bl m)) 3)) 25)
    have bR := (bR.below hb5 bR.lt).alloc (.cells (A4 (lb (m * 2 ^ (bl n - bl m)) 0) (lb (m * 2 ^ (bl n - bl m)) 1) (lb (m * 2 ^ (bl n - bl m)) 2) (lb (m * 2 ^ (bl n - bl m)) 3)) 25)
    have bP := Bk.new w5 (A4 (lb (m * 2 ^ (bl n - bl m)) 0) (lb (m * 2 ^ (bl n - bl m)) 1) (lb (m * 2 ^ (bl n - bl m)) 2) (lb (m * 2 ^ (bl n - bl m)) 3)) 25
    have hs5 := hb5.size
    have hB6 := (hBa.trans (hb5.mono (by omega))).alloc (by omega) (.cells (A4 (lb (m * 2 ^ (bl n - bl m)) 0) (lb (m * 2 ^ (bl n - bl m)) 1) (lb (m * 2 ^ (bl n - bl m)) 2) (lb (m * 2 ^ (bl n - bl m)) 3)) 25)
    have hPb : w.heap.size + 4 ≤ w5.heap.size := by omega
    obtain ⟨PB, hPB⟩ : ∃ b, b = w5.heap.size := ⟨_, rfl⟩
    rw [← hPB] at bP hPb ⊢
    generalize w5.alloc _ = w6 at bA bQ bR bP hB6 ⊢
    have HS' : Hid (m * 2 ^ (bl n - bl m) < M256) := by
      have := HS.out
      rwa [show ((bl n : Int) - bl m).toNat = bl n - bl m by omega] at this
    clear hb5 hBa hsa hs5 c0 c1 c2 c3 cf0 cf1 cf2 cf3 bM HS hPB
    go_loopw [6] (fun kv wr => ∃ (k : Int) (P q c : Nat), -257 ≤ k ∧ k < 256 ∧ kv = .int .i64 k ∧ Bk wr w.heap.size (A4 (lb (c) 0) (lb (c) 1) (lb (c) 2) (lb (c) 3)) 25 ∧ Bk wr (w.heap.size + 1 + 1) (A4 (lb (q) 0) (lb (q) 1) (lb (q) 2) (lb (q) 3)) 25 ∧ Bk wr (w.heap.size + 1 + 1 + 1) (A4 0 0 0 0) 25 ∧ Bk wr PB (A4 (lb (P) 0) (lb (P) 1) (lb (P) 2) (lb (P) 3)) 25 ∧ Below w.heap.size w wr ∧ P < M256 ∧ (0 ≤ k → P = m * 2 ^ k.toNat) ∧ DInv (k + 1).toNat n m q c) (fun kv _ => (intOf kv + 1).toNat)
    case atStart =>
      refine ⟨(bl n : Int) - bl m, m * 2 ^ (bl n - bl m), 0, n, by omega, by omega, rfl, bA, by simpa only [lb_zero] using bQ, bR, bP, hB6, HS'.out, fun h => by rw [show ((bl n : Int) - bl m).toNat = bl n - bl m by omega], ?_⟩
      by_cases h : bl m ≤ bl n
      · rw [show ((bl n : Int) - bl m + 1).toNat = (bl n - bl m) + 1 by omega]
        exact (dInv_start n m H0.out Hn.out (bl n - bl m) (by omega)).2
      · rw [show ((bl n : Int) - bl m + 1).toNat = 0 by omega]
        exact dInv_short n m H0.out (by omega)
    case round =>
      obtain ⟨k, P, q, c, hk1, hk2, rfl, bA, bQ, bR, bP, hB, hP, hPk, hD⟩ := hrel
      have hc := (dInv_q hD H0.out Hn.out).2
      have lA := bA.lt
      have hq := (dInv_q hD H0.out Hn.out).1
      by_cases hk : 0 ≤ k
      · obtain ⟨i, rfl⟩ := Int.eq_ofNat_of_zero_le hk
        have ePk := hPk hk
        rw [Int.toNat_natCast] at ePk
        rw [show ((i : Int) + 1).toNat = i + 1 by omega] at hD
        have a0 := bA.cell 0
        have a1 := bA.cell 1
        have a2 := bA.cell 2
        have a3 := bA.cell 3
        have af0 := bA.frozen 0
        have af1 := bA.frozen 1
        have af2 := bA.frozen 2
        have af3 := bA.frozen 3
        simp only [List.getElem?_toArray, List.getElem?_cons_zero, List.getElem?_cons_succ] at a0 a1 a2 a3
        have p0 := bP.cell 0
        have p1 := bP.cell 1
        have p2 := bP.cell 2
        have p3 := bP.cell 3
        have pf0 := bP.frozen 0
        have pf1 := bP.frozen 1
        have pf2 := bP.frozen 2
        have pf3 := bP.frozen 3
        simp only [List.getElem?_toArray, List.getElem?_cons_zero, List.getElem?_cons_succ] at p0 p1 p2 p3
        have HD : Hid (DInv (i + 1) n m q c) := hD
        have HP : Hid (P < M256) := hP
        have HE : Hid (P = m * 2 ^ i) := ePk
        have Hc : Hid (c < M256) := hc
        have Hq : Hid (q < M256) := hq
        have hsub := fun w => sub c P hc hP w
        clear hD hP ePk hc hq hPk hk
        by_cases hle : P ≤ c
        · have hsv : subV c P = c - P := if_pos hle
          have hse : subOkE c P = 0 := if_pos hle
          simp only [hsv, hse] at hsub
          have HL : Hid (P ≤ c) := hle
          clear hsv hse hle
          go_wp2_with (go_at_call 21; refine (hsub _).mono ?_; rintro e w6 ⟨rfl, hb6⟩; have hs6 := hb6.size; have bA6 := bA.below hb6 bA.lt; have bQ6 := bQ.below hb6 bQ.lt; have bR6 := bR.below hb6 bR.lt; have bP6 := bP.below hb6 bP.lt; have lA6 := bA6.lt; have lQ6 := bQ6.lt; have lR6 := bR6.lt; have lP6 := bP6.lt; have d0 := bA6.cell 0; have df0 := bA6.frozen 0; have d1 := bA6.cell 1; have df1 := bA6.frozen 1; have d2 := bA6.cell 2; have df2 := bA6.frozen 2; have d3 := bA6.cell 3; have df3 := bA6.frozen 3; have r0 := bP6.cell 0; have rf0 := bP6.frozen 0; have r1 := bP6.cell 1; have rf1 := bP6.frozen 1; have r2 := bP6.cell 2; have rf2 := bP6.frozen 2; have r3 := bP6.cell 3; have rf3 := bP6.frozen 3; simp only [List.getElem?_toArray, List.getElem?_cons_zero, List.getElem?_cons_succ] at d0 d1 d2 d3 r0 r1 r2 r3; have hbit := lb_cells bQ6 (i / 64) (by omega); have hbitf := bQ6.frozen (i / 64))
          have bA7 : Bk (((((w6.setCell ⟨w.heap.size, 0, none⟩ (.int .u64 (lb (c - P) 0))).setCell ⟨w.heap.size, 1, none⟩ (.int .u64 (lb (c - P) 1))).setCell ⟨w.heap.size, 2, none⟩ (.int .u64 (lb (c - P) 2))).setCell ⟨w.heap.size, 3, none⟩ (.int .u64 (lb (c - P) 3))).alloc (.cells (A4 (lb (c - P) 0) (lb (c - P) 1) (lb (c - P) 2) (lb (c - P) 3)) 25)) w.heap.size (A4 (lb (c - P) 0) (lb (c - P) 1) (lb (c - P) 2) (lb (c - P) 3)) 25 := ((((bA6.set 0 _ rfl).set 1 _ rfl).set 2 _ rfl).set 3 _ rfl).alloc _
          have bQ7 : Bk (((((w6.setCell ⟨w.heap.size, 0, none⟩ (.int .u64 (lb (c - P) 0))).setCell ⟨w.heap.size, 1, none⟩ (.int .u64 (lb (c - P) 1))).setCell ⟨w.heap.size, 2, none⟩ (.int .u64 (lb (c - P) 2))).setCell ⟨w.heap.size, 3, none⟩ (.int .u64 (lb (c - P) 3))).alloc (.cells (A4 (lb (c - P) 0) (lb (c - P) 1) (lb (c - P) 2) (lb (c - P) 3)) 25)) (w.heap.size + 1 + 1) (A4 (lb (q) 0) (lb (q) 1) (lb (q) 2) (lb (q) 3)) 25 := ((((bQ6.other (by simp; try omega) _).other (by simp; try omega) _).other (by simp; try omega) _).other (by simp; try omega) _).alloc _
          have bR7 : Bk (((((w6.setCell ⟨w.heap.size, 0, none⟩ (.int .u64 (lb (c - P) 0))).setCell ⟨w.heap.size, 1, none⟩ (.int .u64 (lb (c - P) 1))).setCell ⟨w.heap.size, 2, none⟩ (.int .u64 (lb (c - P) 2))).setCell ⟨w.heap.size, 3, none⟩ (.int .u64 (lb (c - P) 3))).alloc (.cells (A4 (lb (c - P) 0) (lb (c - P) 1) (lb (c - P) 2) (lb (c - P) 3)) 25)) (w.heap.size + 1 + 1 + 1) (A4 0 0 0 0) 25 := ((((bR6.other (by simp; try omega) _).other (by simp; try omega) _).other (by simp; try omega) _).other (by simp; try omega) _).alloc _
          have bP7 : Bk (((((w6.setCell ⟨w.heap.size, 0, none⟩ (.int .u64 (lb (c - P) 0))).setCell ⟨w.heap.size, 1, none⟩ (.int .u64 (lb (c - P) 1))).setCell ⟨w.heap.size, 2, none⟩ (.int .u64 (lb (c - P) 2))).setCell ⟨w.heap.size, 3, none⟩ (.int .u64 (lb (c - P) 3))).alloc (.cells (A4 (lb (c - P) 0) (lb (c - P) 1) (lb (c - P) 2) (lb (c - P) 3)) 25)) PB (A4 (lb (P) 0) (lb (P) 1) (lb (P) 2) (lb (P) 3)) 25 := ((((bP6.other (by simp; try omega) _).other (by simp; try omega) _).other (by simp; try omega) _).other (by simp; try omega) _).alloc _
          have hB7 : Below w.heap.size w (((((w6.setCell ⟨w.heap.size, 0, none⟩ (.int .u64 (lb (c - P) 0))).setCell ⟨w.heap.size, 1, none⟩ (.int .u64 (lb (c - P) 1))).setCell ⟨w.heap.size, 2, none⟩ (.int .u64 (lb (c - P) 2))).setCell ⟨w.heap.size, 3, none⟩ (.int .u64 (lb (c - P) 3))).alloc (.cells (A4 (lb (c - P) 0) (lb (c - P) 1) (lb (c - P) 2) (lb (c - P) 3)) 25)) := (((((hB.trans (hb6.mono (by omega))).setCell (by simp) _).setCell (by simp) _).setCell (by simp) _).setCell (by simp) _).alloc (by simp; omega) _
          generalize ((((w6.setCell ⟨w.heap.size, 0, none⟩ (.int .u64 (lb (c - P) 0))).setCell ⟨w.heap.size, 1, none⟩ (.int .u64 (lb (c - P) 1))).setCell ⟨w.heap.size, 2, none⟩ (.int .u64 (lb (c - P) 2))).setCell ⟨w.heap.size, 3, none⟩ (.int .u64 (lb (c - P) 3))).alloc (.cells (A4 (lb (c - P) 0) (lb (c - P) 1) (lb (c - P) 2) (lb (c - P) 3)) 25) = w7 at bA7 bQ7 bR7 bP7 hB7 ⊢
          clear bA6 bQ6 bR6 bP6 bA bQ bR bP d0 d1 d2 d3 df0 df1 df2 df3 r0 r1 r2 r3 rf0 rf1 rf2 rf3 hbit hbitf hb6 lA6 lQ6 lR6 lP6 hs6 hB
          have hbit := lb_cells bQ7 (i / 64) (by omega)
          have hbitf := bQ7.frozen (i / 64)
          have hi4 : i / 64 < 4 := by omega
          go_region
          have hD' := dInv_yes HD.out (by have := HE.out; have := HL.out; omega)
          have hq' := (dInv_q hD' H0.out Hn.out).1
          have bQ8 := (bQ7.set (i / 64) _ (bit_set q i (by omega) hq' HD.out.2.2)).drew
          have bA8 := (bA7.other (a := ⟨w.heap.size + 1 + 1, i / 64, none⟩) (by simp; try omega) (.int .u64 (Go.bits BinOp.or IntKind.u64 (lb q (i / 64)) (IntKind.u64.wrap (2 ^ (i % 64)))))).drew
          have bR8 := (bR7.other (a := ⟨w.heap.size + 1 + 1, i / 64, none⟩) (by simp; try omega) (.int .u64 (Go.bits BinOp.or IntKind.u64 (lb q (i / 64)) (IntKind.u64.wrap (2 ^ (i % 64)))))).drew
          have bP8 := (bP7.other (a := ⟨w.heap.size + 1 + 1, i / 64, none⟩) (by simp; try omega) (.int .u64 (Go.bits BinOp.or IntKind.u64 (lb q (i / 64)) (IntKind.u64.wrap (2 ^ (i % 64)))))).drew
          have hB8 := (hB7.setCell (p := ⟨w.heap.size + 1 + 1, i / 64, none⟩) (by simp; try omega) (.int .u64 (Go.bits BinOp.or IntKind.u64 (lb q (i / 64)) (IntKind.u64.wrap (2 ^ (i % 64)))))).drew
          rw [← HE.out] at hD'
          have HD' : Hid (DInv i n m (q + 2 ^ i) (c - P)) := hD'
          generalize (w7.setCell _ _).drew = w8 at bQ8 bA8 bR8 bP8 hB8 ⊢
          clear hD' hq' hbit hbitf bA7 bQ7 bR7 bP7 hB7 hsub
          have lA8 := bA8.lt
          have lQ8 := bQ8.lt
          have lP8 := bP8.lt
          have s0 := bP8.cell 0
          have s1 := bP8.cell 1
          have s2 := bP8.cell 2
          have s3 := bP8.cell 3
          have sf0 := bP8.frozen 0
          have sf1 := bP8.frozen 1
          have sf2 := bP8.frozen 2
          have sf3 := bP8.frozen 3
          simp only [List.getElem?_toArray, List.getElem?_cons_zero, List.getElem?_cons_succ] at s0 s1 s2 s3
          go_wp2_with (go_at_call 46; refine (half P HP.out _).mono ?_; rintro e w9 ⟨rfl, hb9⟩; have bP9 := bP8.below hb9 bP8.lt; have t0 := bP9.cell 0; have t1 := bP9.cell 1; have t2 := bP9.cell 2; have t3 := bP9.cell 3; have g0 := bP9.frozen 0; have g1 := bP9.frozen 1; have g2 := bP9.frozen 2; have g3 := bP9.frozen 3; simp only [List.getElem?_toArray, List.getElem?_cons_zero, List.getElem?_cons_succ] at t0 t1 t2 t3)
          have bA9 := bA8.below hb9 bA8.lt
          have bQ9 := bQ8.below hb9 bQ8.lt
          have bR9 := bR8.below hb9 bR8.lt
          have hB9 := hB8.trans (hb9.mono (by omega))
          have hPi := HE.out
          go_roundw
          case rel =>
            refine ⟨(i : Int) - 1, P / 2, q + 2 ^ i, c - P, by omega, by omega, by go_num, ((((bA9.other (by simp; try omega) _).other (by simp; try omega) _).other (by simp; try omega) _).other (by simp; try omega) _), ((((bQ9.other (by simp; try omega) _).other (by simp; try omega) _).other (by simp; try omega) _).other (by simp; try omega) _), ((((bR9.other (by simp; try omega) _).other (by simp; try omega) _).other (by simp; try omega) _).other (by simp; try omega) _), (((bP9.set 0 _ rfl).set 1 _ rfl).set 2 _ rfl).set 3 _ rfl, (((hB9.setCell (by simp; omega) _).setCell (by simp; omega) _).setCell (by simp; omega) _).setCell (by simp; omega) _, by have := HP.out; omega, fun h => ?_, ?_⟩
            · rw [HE.out]
              obtain ⟨i', rfl⟩ : ∃ i', i = i' + 1 := ⟨i - 1, by omega⟩
              rw [show (((i' + 1 : Nat) : Int) - 1).toNat = i' by omega, Nat.pow_succ, ← Nat.mul_assoc, Nat.mul_div_cancel _ (by omega)]
            · rw [show ((i : Int) - 1 + 1).toNat = i by omega]
              exact HD'.out
          case measure => simp [intOf]; try omega
        · have hse : subOkE c P = 8 := if_neg hle
          simp only [hse] at hsub
          have HL : Hid (¬ P ≤ c) := hle
          have HD' : Hid (DInv i n m q c) := dInv_no HD.out (by rw [← HE.out]; exact hle)
          clear hse hle
          go_wp2_with (first | (go_at_call 21; refine (hsub _).mono ?_; rintro e w6 ⟨rfl, hb6⟩; have hs6 := hb6.size; have bA6 := bA.below hb6 bA.lt; have bQ6 := bQ.below hb6 bQ.lt; have bR6 := bR.below hb6 bR.lt; have bP6 := bP.below hb6 bP.lt; have lA6 := bA6.lt; have lQ6 := bQ6.lt; have lR6 := bR6.lt; have lP6 := bP6.lt; have d0 := bA6.cell 0; have df0 := bA6.frozen 0; have d1 := bA6.cell 1; have df1 := bA6.frozen 1; have d2 := bA6.cell 2; have df2 := bA6.frozen 2; have d3 := bA6.cell 3; have df3 := bA6.frozen 3; have r0 := bP6.cell 0; have rf0 := bP6.frozen 0; have r1 := bP6.cell 1; have rf1 := bP6.frozen 1; have r2 := bP6.cell 2; have rf2 := bP6.frozen 2; have r3 := bP6.cell 3; have rf3 := bP6.frozen 3; simp only [List.getElem?_toArray, List.getElem?_cons_zero, List.getElem?_cons_succ] at d0 d1 d2 d3 r0 r1 r2 r3; have hbit := lb_cells bQ6 (i / 64) (by omega); have hbitf := bQ6.frozen (i / 64)) | (go_at_call 46; refine (half P HP.out _).mono ?_; rintro e w9 ⟨rfl, hb9⟩; have bP9 := (bP6.alloc _).below hb9 (bP6.alloc _).lt; have t0 := bP9.cell 0; have t1 := bP9.cell 1; have t2 := bP9.cell 2; have t3 := bP9.cell 3; have g0 := bP9.frozen 0; have g1 := bP9.frozen 1; have g2 := bP9.frozen 2; have g3 := bP9.frozen 3; simp only [List.getElem?_toArray, List.getElem?_cons_zero, List.getElem?_cons_succ] at t0 t1 t2 t3))
          have bA9 := (bA6.alloc _).below hb9 (bA6.alloc _).lt
          have bQ9 := (bQ6.alloc _).below hb9 (bQ6.alloc _).lt
          have bR9 := (bR6.alloc _).below hb9 (bR6.alloc _).lt
          have hB9 := ((hB.trans (hb6.mono (by omega))).alloc (by omega) _).trans (hb9.mono (by simp; omega))
          have hPi := HE.out
          go_roundw
          case rel =>
            refine ⟨(i : Int) - 1, P / 2, q, c, by omega, by omega, by go_num, ((((bA9.other (by simp; try omega) _).other (by simp; try omega) _).other (by simp; try omega) _).other (by simp; try omega) _), ((((bQ9.other (by simp; try omega) _).other (by simp; try omega) _).other (by simp; try omega) _).other (by simp; try omega) _), ((((bR9.other (by simp; try omega) _).other (by simp; try omega) _).other (by simp; try omega) _).other (by simp; try omega) _), (((bP9.set 0 _ rfl).set 1 _ rfl).set 2 _ rfl).set 3 _ rfl, (((hB9.setCell (by simp; omega) _).setCell (by simp; omega) _).setCell (by simp; omega) _).setCell (by simp; omega) _, by have := HP.out; omega, fun h => ?_, ?_⟩
            · rw [HE.out]
              obtain ⟨i', rfl⟩ : ∃ i', i = i' + 1 := ⟨i - 1, by omega⟩
              rw [show (((i' + 1 : Nat) : Int) - 1).toNat = i' by omega, Nat.pow_succ, ← Nat.mul_assoc, Nat.mul_div_cancel _ (by omega)]
            · rw [show ((i : Int) - 1 + 1).toNat = i by omega]
              exact HD'.out
          case measure => simp [intOf]; try omega
      · rw [show (k + 1).toNat = 0 by omega] at hD
        obtain ⟨rfl, rfl⟩ := dInv_end hD
        have lQ := bQ.lt
        have lR := bR.lt
        clear hD hPk hP
        have a0 := bA.cell 0
        have a1 := bA.cell 1
        have a2 := bA.cell 2
        have a3 := bA.cell 3
        have af0 := bA.frozen 0
        have af1 := bA.frozen 1
        have af2 := bA.frozen 2
        have af3 := bA.frozen 3
        simp only [List.getElem?_toArray, List.getElem?_cons_zero, List.getElem?_cons_succ] at a0 a1 a2 a3
        have e0 := bQ.cell 0
        have e1 := bQ.cell 1
        have e2 := bQ.cell 2
        have e3 := bQ.cell 3
        have ef0 := bQ.frozen 0
        have ef1 := bQ.frozen 1
        have ef2 := bQ.frozen 2
        have ef3 := bQ.frozen 3
        simp only [List.getElem?_toArray, List.getElem?_cons_zero, List.getElem?_cons_succ] at e0 e1 e2 e3
        have z0 := bR.cell 0
        have z1 := bR.cell 1
        have z2 := bR.cell 2
        have z3 := bR.cell 3
        have zf0 := bR.frozen 0
        have zf1 := bR.frozen 1
        have zf2 := bR.frozen 2
        have zf3 := bR.frozen 3
        simp only [List.getElem?_toArray, List.getElem?_cons_zero, List.getElem?_cons_succ] at z0 z1 z2 z3
        go_wp2
        go_region
        go_wp2
        refine bodyPost_ret (v := .tuple #[V (n / m), V (n % m)]) ?_ rfl ⟨rfl, ?_⟩
        · simp [results, Try.results33, go_sem, z0, z1, z2, z3, e0, e1, e2, e3]
        · exact ((((((((hB.setCell (by simp; try omega) _).setCell (by simp; try omega) _).setCell (by simp; try omega) _).setCell (by simp; try omega) _).setCell (by simp; try omega) _).setCell (by simp; try omega) _).setCell (by simp; try omega) _).setCell (by simp; try omega) _).drew
end Go.Proofs.Ytljfenjpnanoiaa

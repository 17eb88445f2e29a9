import Derived.Test.YtgolpadmcalimaaRDivM
import Derived.Test.YtgolpadmcalimaaLow
import Derived.Test.YtgolpadmcalimaaRSub
set_option linter.unusedSimpArgs false
set_option linter.unusedVariables false
namespace Go.Proofs.Ytgolpadmcalimaa
open Go.RowKit

/-- What the page's own division holds: the two numbers, the places of the answers, quotient and rest. -/
structure DS (w wr : World) (n m q r : Nat) : Prop where
  bA : Bk wr w.heap.size (A4 (lb (n) 0) (lb (n) 1) (lb (n) 2) (lb (n) 3)) 25
  bM : Bk wr (w.heap.size + 1) (A4 (lb (m) 0) (lb (m) 1) (lb (m) 2) (lb (m) 3)) 25
  bX : Bk wr (w.heap.size + 1 + 1) (A4 0 0 0 0) 25
  bY : Bk wr (w.heap.size + 1 + 1 + 1) (A4 0 0 0 0) 25
  bQ : Bk wr (w.heap.size + 1 + 1 + 1 + 1) (A4 (lb (q) 0) (lb (q) 1) (lb (q) 2) (lb (q) 3)) 25
  bR : Bk wr (w.heap.size + 1 + 1 + 1 + 1 + 1) (A4 (lb (r) 0) (lb (r) 1) (lb (r) 2) (lb (r) 3)) 25
  hB : Below w.heap.size w wr
theorem DS.below {w wr w' : World} {n m q r : Nat} (h : DS w wr n m q r) (hb : Below wr.heap.size wr w') : DS w w' n m q r :=
  ⟨h.bA.below hb h.bA.lt, h.bM.below hb h.bM.lt, h.bX.below hb h.bX.lt, h.bY.below hb h.bY.lt, h.bQ.below hb h.bQ.lt, h.bR.below hb h.bR.lt, h.hB.trans (hb.mono h.hB.size)⟩
theorem DS.drew {w wr : World} {n m q r : Nat} (h : DS w wr n m q r) : DS w wr.drew n m q r := h.below (Below.refl _ wr).drew
theorem DS.drewN {w wr : World} {n m q r : Nat} (h : DS w wr n m q r) (k : Nat) : DS w (wr.drewN k) n m q r := h.below (bdrewN (Below.refl _ wr) k)
theorem DS.alloc {w wr : World} {n m q r : Nat} (h : DS w wr n m q r) (o : Obj) : DS w (wr.alloc o) n m q r := h.below ((Below.refl _ wr).alloc (Nat.le_refl _) o)
theorem DS.lt {w wr : World} {n m q r : Nat} (h : DS w wr n m q r) : w.heap.size + 1 + 1 + 1 + 1 + 1 < wr.heap.size := h.bR.lt
theorem DS.other {w wr : World} {n m q r : Nat} (h : DS w wr n m q r) {a : Addr} (ha : w.heap.size + 1 + 1 + 1 + 1 + 1 < a.block) (u : Value) : DS w (wr.setCell a u) n m q r :=
  ⟨h.bA.other (by omega) u, h.bM.other (by omega) u, h.bX.other (by omega) u, h.bY.other (by omega) u, h.bQ.other (by omega) u, h.bR.other (by omega) u, h.hB.setCell (by omega) u⟩
theorem DS.setR {w wr : World} {n m q r : Nat} (h : DS w wr n m q r) (t : Nat) (x0 x1 x2 x3 : Int) (e0 : x0 = lb t 0) (e1 : x1 = lb t 1) (e2 : x2 = lb t 2) (e3 : x3 = lb t 3) :
    DS w ((((wr.setCell ⟨w.heap.size + 1 + 1 + 1 + 1 + 1, 0, none⟩ (.int .u64 x0)).setCell ⟨w.heap.size + 1 + 1 + 1 + 1 + 1, 1, none⟩ (.int .u64 x1)).setCell ⟨w.heap.size + 1 + 1 + 1 + 1 + 1, 2, none⟩ (.int .u64 x2)).setCell ⟨w.heap.size + 1 + 1 + 1 + 1 + 1, 3, none⟩ (.int .u64 x3)) n m q t := by
  subst e0 e1 e2 e3
  exact ⟨set4_other h.bA (by omega) _ _ _ _, set4_other h.bM (by omega) _ _ _ _, set4_other h.bX (by omega) _ _ _ _, set4_other h.bY (by omega) _ _ _ _, set4_other h.bQ (by omega) _ _ _ _, set4_Bk h.bR _ _ _ _, set4_below h.hB (by omega) _ _ _ _⟩
theorem DS.one {w wr : World} {n m q r : Nat} (h : DS w wr n m q (2 * r % M256)) : DS w (wr.setCell ⟨w.heap.size + 1 + 1 + 1 + 1 + 1, 0, none⟩ (.int .u64 (Go.bits BinOp.or IntKind.u64 (lb (2 * r % M256) 0) 1))) n m q ((2 * r + 1) % M256) := by
  obtain ⟨e0, e1, e2, e3⟩ := low_one r
  rw [e0]
  have hR := h.bR
  rw [e1, e2, e3] at hR
  exact ⟨h.bA.other (by simp <;> omega) _, h.bM.other (by simp <;> omega) _, h.bX.other (by simp) _, h.bY.other (by simp) _, h.bQ.other (by simp) _, hR.set 0 _ rfl, h.hB.setCell (by simp; omega) _⟩
theorem DS.bit {w wr : World} {n m q r : Nat} (h : DS w wr n m q r) (i : Nat) (hi : i < 256) (hq : q + 2 ^ i < M256) (hz : q % 2 ^ (i + 1) = 0) : DS w (wr.setCell ⟨w.heap.size + 1 + 1 + 1 + 1, i / 64, none⟩ (.int .u64 (Go.bits BinOp.or IntKind.u64 (lb q (i / 64)) (IntKind.u64.wrap (2 ^ (i % 64)))))) n m (q + 2 ^ i) r :=
  ⟨h.bA.other (by simp <;> omega) _, h.bM.other (by simp <;> omega) _, h.bX.other (by simp) _, h.bY.other (by simp) _, h.bQ.set _ _ (bit_set q i hi hq hz), h.bR.other (by simp) _, h.hB.setCell (by simp; omega) _⟩
set_option maxRecDepth 100000 in
set_option maxHeartbeats 4000000 in
theorem rdiv (n m : Nat) (hn : n < M256) (hm : m < M256) (h0 : 0 < m) (w : World) :
    Calls Try.prog 28 #[V n, V m] w fun e w' => e = .returned (.tuple #[V (n / m), V (n % m)]) ∧ Below w.heap.size w w' := by
  have Hn : Hid (n < M256) := hn
  have Hm : Hid (m < M256) := hm
  have H0 : Hid (0 < m) := h0
  have hbl := bl_le n hn
  clear hn hm h0
  go_enter Try.func28, Try.ntmps28
  go_upto_region 2 with fail
  have hd0 : DS w ((((((w.alloc (.cells (A4 (lb (n) 0) (lb (n) 1) (lb (n) 2) (lb (n) 3)) 25)).alloc (.cells (A4 (lb (m) 0) (lb (m) 1) (lb (m) 2) (lb (m) 3)) 25)).alloc (.cells (A4 0 0 0 0) 25)).alloc (.cells (A4 0 0 0 0) 25)).alloc (.cells (A4 0 0 0 0) 25)).alloc (.cells (A4 0 0 0 0) 25)) n m 0 0 := ⟨(((((Bk.new _ _ _).alloc _).alloc _).alloc _).alloc _).alloc _, ((((Bk.new' _ _ _ (by simp)).alloc _).alloc _).alloc _).alloc _, (((Bk.new' _ _ _ (by simp)).alloc _).alloc _).alloc _, ((Bk.new' _ _ _ (by simp)).alloc _).alloc _, by simpa only [lb_zero] using (Bk.new' _ _ _ (by simp)).alloc _, by simpa only [lb_zero] using Bk.new' _ _ _ (by simp), ((((((Below.refl _ w).alloc (Nat.le_refl _) _).alloc (by simp) _).alloc (by simp; omega) _).alloc (by simp; omega) _).alloc (by simp; omega) _).alloc (by simp; omega) _⟩
  generalize ((((((w.alloc (.cells (A4 (lb (n) 0) (lb (n) 1) (lb (n) 2) (lb (n) 3)) 25)).alloc (.cells (A4 (lb (m) 0) (lb (m) 1) (lb (m) 2) (lb (m) 3)) 25)).alloc (.cells (A4 0 0 0 0) 25)).alloc (.cells (A4 0 0 0 0) 25)).alloc (.cells (A4 0 0 0 0) 25)).alloc (.cells (A4 0 0 0 0) 25)) = w6 at *
  have a0 := hd0.bA.cell 0
  have af0 := hd0.bA.frozen 0
  have a1 := hd0.bA.cell 1
  have af1 := hd0.bA.frozen 1
  have a2 := hd0.bA.cell 2
  have af2 := hd0.bA.frozen 2
  have a3 := hd0.bA.cell 3
  have af3 := hd0.bA.frozen 3
  simp only [List.getElem?_toArray, List.getElem?_cons_zero, List.getElem?_cons_succ] at a0 a1 a2 a3

  go_wp2_with (go_at_call 45; refine (rbits n Hn.out _).mono ?_; rintro e w7 ⟨rfl, hb7⟩)
  have hd7 := hd0.below hb7
  clear a0 a1 a2 a3 af0 af1 af2 af3 hd0 hb7
  go_loopw [8] (fun k wr => ∃ j q r : Nat, j ≤ 256 ∧ k = .int .i64 ((j : Int) - 1) ∧ DS w wr n m q r ∧ RInv j n m q r) (fun k _ => (intOf k + 1).toNat)
  case atStart => exact ⟨bl n, 0, 0, hbl, by go_num, hd7, rInv_start n m H0.out⟩
  case round =>
    clear hd7
    obtain ⟨j, q, r, hj, rfl, hd, hR⟩ := hrel
    have HR : Hid (RInv j n m q r) := hR
    have Hq : Hid (q < M256 ∧ r < M256 ∧ q % 2 ^ j = 0) := rInv_q hR Hn.out Hm.out
    clear hR
    by_cases hj0 : j = 0
    · subst hj0
      have he := rInv_end HR.out
      obtain ⟨rfl, rfl⟩ := he
      have q0 := hd.bQ.cell 0
      have qf0 := hd.bQ.frozen 0
      have q1 := hd.bQ.cell 1
      have qf1 := hd.bQ.frozen 1
      have q2 := hd.bQ.cell 2
      have qf2 := hd.bQ.frozen 2
      have q3 := hd.bQ.cell 3
      have qf3 := hd.bQ.frozen 3
      simp only [List.getElem?_toArray, List.getElem?_cons_zero, List.getElem?_cons_succ] at q0 q1 q2 q3
      have r0 := hd.bR.cell 0
      have rf0 := hd.bR.frozen 0
      have r1 := hd.bR.cell 1
      have rf1 := hd.bR.frozen 1
      have r2 := hd.bR.cell 2
      have rf2 := hd.bR.frozen 2
      have r3 := hd.bR.cell 3
      have rf3 := hd.bR.frozen 3
      simp only [List.getElem?_toArray, List.getElem?_cons_zero, List.getElem?_cons_succ] at r0 r1 r2 r3
      have x0 := hd.bX.cell 0
      have xf0 := hd.bX.frozen 0
      have x1 := hd.bX.cell 1
      have xf1 := hd.bX.frozen 1
      have x2 := hd.bX.cell 2
      have xf2 := hd.bX.frozen 2
      have x3 := hd.bX.cell 3
      have xf3 := hd.bX.frozen 3
      simp only [List.getElem?_toArray, List.getElem?_cons_zero, List.getElem?_cons_succ] at x0 x1 x2 x3
      have y0 := hd.bY.cell 0
      have yf0 := hd.bY.frozen 0
      have y1 := hd.bY.cell 1
      have yf1 := hd.bY.frozen 1
      have y2 := hd.bY.cell 2
      have yf2 := hd.bY.frozen 2
      have y3 := hd.bY.cell 3
      have yf3 := hd.bY.frozen 3
      simp only [List.getElem?_toArray, List.getElem?_cons_zero, List.getElem?_cons_succ] at y0 y1 y2 y3
      have lt := hd.lt
      go_wp2
      go_region
      go_wp2
      have k1 := set4_other (set4_Bk hd.bX (.int .u64 (lb (n / m) 0)) (.int .u64 (lb (n / m) 1)) (.int .u64 (lb (n / m) 2)) (.int .u64 (lb (n / m) 3))) (c := w.heap.size + 1 + 1 + 1) (by omega) (.int .u64 (lb (n % m) 0)) (.int .u64 (lb (n % m) 1)) (.int .u64 (lb (n % m) 2)) (.int .u64 (lb (n % m) 3))
      have k2 := set4_Bk (set4_other hd.bY (c := w.heap.size + 1 + 1) (by omega) (.int .u64 (lb (n / m) 0)) (.int .u64 (lb (n / m) 1)) (.int .u64 (lb (n / m) 2)) (.int .u64 (lb (n / m) 3))) (.int .u64 (lb (n % m) 0)) (.int .u64 (lb (n % m) 1)) (.int .u64 (lb (n % m) 2)) (.int .u64 (lb (n % m) 3))
      have hB8 := set4_below (set4_below hd.hB (b := w.heap.size + 1 + 1) (by omega) (.int .u64 (lb (n / m) 0)) (.int .u64 (lb (n / m) 1)) (.int .u64 (lb (n / m) 2)) (.int .u64 (lb (n / m) 3))) (b := w.heap.size + 1 + 1 + 1) (by omega) (.int .u64 (lb (n % m) 0)) (.int .u64 (lb (n % m) 1)) (.int .u64 (lb (n % m) 2)) (.int .u64 (lb (n % m) 3))
      generalize World.setCell _ _ _ = W8 at k1 k2 hB8 ⊢
      have s0 := k1.cell 0
      have sf0 := k1.frozen 0
      have s1 := k1.cell 1
      have sf1 := k1.frozen 1
      have s2 := k1.cell 2
      have sf2 := k1.frozen 2
      have s3 := k1.cell 3
      have sf3 := k1.frozen 3
      simp only [List.getElem?_toArray, List.getElem?_cons_zero, List.getElem?_cons_succ] at s0 s1 s2 s3
      have t0 := k2.cell 0
      have tf0 := k2.frozen 0
      have t1 := k2.cell 1
      have tf1 := k2.frozen 1
      have t2 := k2.cell 2
      have tf2 := k2.frozen 2
      have t3 := k2.cell 3
      have tf3 := k2.frozen 3
      simp only [List.getElem?_toArray, List.getElem?_cons_zero, List.getElem?_cons_succ] at t0 t1 t2 t3
      refine bodyPost_ret (v := .tuple #[V (n / m), V (n % m)]) ?_ rfl ⟨rfl, hB8.drew⟩
      simp [results, Try.results28, go_sem, s0, s1, s2, s3, t0, t1, t2, t3]
    · obtain ⟨i, rfl⟩ : ∃ i, j = i + 1 := ⟨j - 1, by omega⟩
      have ei : (((i + 1 : Nat) : Int) - 1) = (i : Int) := by omega
      rw [ei]
      clear ei hj0
      have hi : i < 256 := by omega
      have a0 := hd.bA.cell 0
      have af0 := hd.bA.frozen 0
      have a1 := hd.bA.cell 1
      have af1 := hd.bA.frozen 1
      have a2 := hd.bA.cell 2
      have af2 := hd.bA.frozen 2
      have a3 := hd.bA.cell 3
      have af3 := hd.bA.frozen 3
      simp only [List.getElem?_toArray, List.getElem?_cons_zero, List.getElem?_cons_succ] at a0 a1 a2 a3
      have r0 := hd.bR.cell 0
      have rf0 := hd.bR.frozen 0
      have r1 := hd.bR.cell 1
      have rf1 := hd.bR.frozen 1
      have r2 := hd.bR.cell 2
      have rf2 := hd.bR.frozen 2
      have r3 := hd.bR.cell 3
      have rf3 := hd.bR.frozen 3
      simp only [List.getElem?_toArray, List.getElem?_cons_zero, List.getElem?_cons_succ] at r0 r1 r2 r3
      have lt := hd.lt
      go_upto_region 6 with (go_at_call 46; refine (bit_x r 255 (by omega) _).mono ?_; rintro e w1 ⟨rfl, hb1⟩)
      have hd1 := hd.below hb1
      have lt1 := hd1.lt
      have c0 := hd1.bR.cell 0
      have cf0 := hd1.bR.frozen 0
      have c1 := hd1.bR.cell 1
      have cf1 := hd1.bR.frozen 1
      have c2 := hd1.bR.cell 2
      have cf2 := hd1.bR.frozen 2
      have c3 := hd1.bR.cell 3
      have cf3 := hd1.bR.frozen 3
      simp only [List.getElem?_toArray, List.getElem?_cons_zero, List.getElem?_cons_succ] at c0 c1 c2 c3
      clear a0 a1 a2 a3 af0 af1 af2 af3 r0 r1 r2 r3 rf0 rf1 rf2 rf3 hd hb1
      go_upto_region 7 with (go_at_call 47; refine (low r Hq.out.2.1 _).mono ?_; rintro e w2 ⟨rfl, hb2⟩; have hd2 := hd1.below hb2; have lt2 := hd2.lt; have d0 := hd2.bR.cell 0; have df0 := hd2.bR.frozen 0; have d1 := hd2.bR.cell 1; have df1 := hd2.bR.frozen 1; have d2 := hd2.bR.cell 2; have df2 := hd2.bR.frozen 2; have d3 := hd2.bR.cell 3; have df3 := hd2.bR.frozen 3; simp only [List.getElem?_toArray, List.getElem?_cons_zero, List.getElem?_cons_succ] at d0 d1 d2 d3)
      have hd3 := hd2.setR (2 * r % M256) _ _ _ _ rfl rfl rfl rfl
      clear d0 d1 d2 d3 df0 df1 df2 df3 c0 c1 c2 c3 cf0 cf1 cf2 cf3 hd1 hd2 hb2
      generalize World.setCell _ _ _ = w4 at hd3 ⊢
      have e0 := hd3.bA.cell 0
      have ef0 := hd3.bA.frozen 0
      have e1 := hd3.bA.cell 1
      have ef1 := hd3.bA.frozen 1
      have e2 := hd3.bA.cell 2
      have ef2 := hd3.bA.frozen 2
      have e3 := hd3.bA.cell 3
      have ef3 := hd3.bA.frozen 3
      simp only [List.getElem?_toArray, List.getElem?_cons_zero, List.getElem?_cons_succ] at e0 e1 e2 e3
      go_upto_if 32 with (go_at_call 46; refine (bit_x n i hi _).mono ?_; rintro e w5 ⟨rfl, hb5⟩)
      have hd5 := hd3.below hb5
      clear e0 e1 e2 e3 ef0 ef1 ef2 ef3 hd3 hb5
      have lt5 := hd5.lt
      obtain ⟨R, hRe⟩ : ∃ R, R = (2 * r + bitN n i) % M256 := ⟨_, rfl⟩
      have HRe : Hid (R = (2 * r + bitN n i) % M256) := hRe
      clear hRe
      go_cut [9] (fun t wx => t = .bool (bitAt r 255) ∧ DS w wx n m q R)
      case first =>
        have d0 := hd5.bR.cell 0
        have df0 := hd5.bR.frozen 0
        have d1 := hd5.bR.cell 1
        have df1 := hd5.bR.frozen 1
        have d2 := hd5.bR.cell 2
        have df2 := hd5.bR.frozen 2
        have d3 := hd5.bR.cell 3
        have df3 := hd5.bR.frozen 3
        simp only [List.getElem?_toArray, List.getElem?_cons_zero, List.getElem?_cons_succ] at d0 d1 d2 d3
        cases hbit : bitAt n i
        · have hbn : bitN n i = 0 := by have h1 := bitN_lt n i; rw [bitAt_N] at hbit; simp at hbit; omega
          have HF : Hid (DS w w5 n m q R) := by rw [HRe.out, hbn]; exact hd5
          go_wp2
          go_meet
          exact ⟨rfl, HF.out⟩
        · have hbn : bitN n i = 1 := by rw [bitAt_N] at hbit; simpa using hbit
          have HF : Hid (DS w (w5.setCell ⟨w.heap.size + 1 + 1 + 1 + 1 + 1, 0, none⟩ (.int .u64 (Go.bits BinOp.or IntKind.u64 (lb (2 * r % M256) 0) 1))) n m q R) := by rw [HRe.out, hbn]; exact hd5.one
          clear hbn
          go_wp2
          go_meet
          exact ⟨rfl, HF.out⟩
      case rest =>
        obtain ⟨rfl, hd6⟩ := hcut
        clear hd5
        obtain ⟨w6, rfl⟩ : ∃ w6 : World, w6 = wc := ⟨_, rfl⟩
        have lt6 := hd6.lt
        obtain ⟨yes, hyes⟩ : ∃ b : Bool, b = decide (m ≤ 2 * r + bitN n i) := ⟨_, rfl⟩
        have HY : Hid (yes = decide (m ≤ 2 * r + bitN n i)) := hyes
        clear hyes
        have HT : Hid (bitAt r 255 = decide (M256 ≤ 2 * r)) := top_bit r Hq.out.2.1
        go_upto_region 9 with fail
        go_cut [9, 43] (fun _ c wx => c = .bool yes ∧ DS w wx n m q R)
        case first =>
          have d0 := hd6.bR.cell 0
          have df0 := hd6.bR.frozen 0
          have d1 := hd6.bR.cell 1
          have df1 := hd6.bR.frozen 1
          have d2 := hd6.bR.cell 2
          have df2 := hd6.bR.frozen 2
          have d3 := hd6.bR.cell 3
          have df3 := hd6.bR.frozen 3
          simp only [List.getElem?_toArray, List.getElem?_cons_zero, List.getElem?_cons_succ] at d0 d1 d2 d3
          have e0 := hd6.bM.cell 0
          have ef0 := hd6.bM.frozen 0
          have e1 := hd6.bM.cell 1
          have ef1 := hd6.bM.frozen 1
          have e2 := hd6.bM.cell 2
          have ef2 := hd6.bM.frozen 2
          have e3 := hd6.bM.cell 3
          have ef3 := hd6.bM.frozen 3
          simp only [List.getElem?_toArray, List.getElem?_cons_zero, List.getElem?_cons_succ] at e0 e1 e2 e3
          cases htop : bitAt r 255
          · have hlt : ¬ M256 ≤ 2 * r := by have := HT.out; rw [htop] at this; simpa using this.symm
            have hRT : R = 2 * r + bitN n i := by
              rw [HRe.out]; exact Nat.mod_eq_of_lt (by have := bitN_lt n i; unfold M256 at *; omega)
            have hcm := fun w => rcmp R m (by rw [HRe.out]; exact Nat.mod_lt _ (by decide)) Hm.out w
            by_cases hle : m ≤ 2 * r + bitN n i
            · have hc : 0 ≤ cmpV R m := cmpV_nonneg (by rw [hRT]; exact hle)
              have hy : yes = true := by rw [HY.out]; exact decide_eq_true hle
              clear hle hRT hlt
              subst hy
              go_wp2_with (go_at_call 48; refine (hcm _).mono ?_; rintro e w7 ⟨rfl, hb7⟩)
              go_meet
              exact ⟨rfl, hd6.below hb7⟩
            · have hc : cmpV R m < 0 := cmpV_neg (by rw [hRT]; exact hle)
              have hcb : decide (0 ≤ cmpV R m) = false := by simp; omega
              have hy : yes = false := by rw [HY.out]; exact decide_eq_false hle
              clear hle hRT hlt
              subst hy
              go_wp2_with (go_at_call 48; refine (hcm _).mono ?_; rintro e w7 ⟨rfl, hb7⟩)
              go_meet
              exact ⟨rfl, hd6.below hb7⟩
          · have hy : yes = true := by
              rw [HY.out]
              have := HT.out
              rw [htop] at this
              have h2 : M256 ≤ 2 * r := by simpa using this.symm
              exact decide_eq_true (by have := Hm.out; omega)
            subst hy
            go_wp2_with fail
            go_meet
            exact ⟨rfl, hd6⟩
        case rest =>
          obtain ⟨rfl, hd7⟩ := hcut
          clear hd6
          obtain ⟨w7, rfl⟩ : ∃ w7 : World, w7 = wc := ⟨_, rfl⟩
          have lt7 := hd7.lt
          obtain ⟨q', r', HN⟩ : ∃ q' r' : Nat, Hid (RInv i n m q' r' ∧ (yes = false → q' = q ∧ r' = R) ∧ (yes = true → q' = q + 2 ^ i ∧ r' = 2 * r + bitN n i - m)) := by
            by_cases hle : m ≤ 2 * r + bitN n i
            · exact ⟨_, _, rInv_yes HR.out hle, fun h => by rw [HY.out, decide_eq_true hle] at h; simp at h, fun _ => ⟨rfl, rfl⟩⟩
            · refine ⟨_, _, rInv_no HR.out hle, fun _ => ⟨rfl, ?_⟩, fun h => by rw [HY.out, decide_eq_false hle] at h; simp at h⟩
              rw [HRe.out]; exact (Nat.mod_eq_of_lt (by have := Hm.out; omega)).symm
          focus
            cases hy : yes
            · obtain ⟨e1, e2⟩ := HN.out.2.1 hy
              subst e1 e2
              go_wp2_with fail
              go_roundw
              case rel => exact ⟨i, _, _, by omega, by go_num, hd7, HN.out.1⟩
              case measure => simp [intOf]; try omega
            · have hle : m ≤ 2 * r + bitN n i := by have := HY.out; rw [hy] at this; simpa using this.symm
              have HL : Hid (m ≤ 2 * r + bitN n i) := hle
              have HE : Hid (q' = q + 2 ^ i ∧ r' = 2 * r + bitN n i - m) := HN.out.2.2 hy
              clear hle
              go_wp2_with fail
              go_loopw [11, 12] (fun c k wr => ∃ (k' : Nat) (x0 x1 x2 x3 cc : Int), k' ≤ 4 ∧ c = .int .u64 cc ∧ k = .int .i64 k' ∧ DS w wr n m q R ∧ Bk wr w7.heap.size (A4 x0 x1 x2 x3) 25 ∧ SubInv k' R m x0 x1 x2 x3 cc) (fun _ i _ => 4 - (intOf i).toNat)
              case atStart =>
                exact ⟨0, 0, 0, 0, 0, 0, by omega, rfl, rfl, hd7.alloc _, Bk.new _ _ _, subInv0 R m⟩
              case round =>
                clear hd7
                obtain ⟨k, x0, x1, x2, x3, cc, hk, rfl, rfl, hds, hx, hinv⟩ := hrel
                have hak := hds.bR.cell k
                have hbk := hds.bM.cell k
                have hxk := hx.cell k
                have hxf := hx.frozen k
                have hk' : k = 0 ∨ k = 1 ∨ k = 2 ∨ k = 3 ∨ k = 4 := by omega
                rcases hk' with rfl | rfl | rfl | rfl | rfl
                · simp only [List.getElem?_toArray, List.getElem?_cons_zero, List.getElem?_cons_succ] at hak hbk hxk
                  go_wp2
                  go_quiet (fail)
                  go_wp2
                  go_quiet (fail)
                  go_wp2
                  all_goals
                    have hl := refLimbS (lb R 0) (lb m 0) cc (lb_bd _ _) (lb_bd _ _) (subInv_c hinv)
                    have st := subStep0 R m x0 x1 x2 x3 cc hinv
                    first | (rw [← hl.1, ← hl.2.1 (by assumption)] at st) | (rw [← hl.1, ← hl.2.2.1 (by assumption)] at st) | (rw [← hl.1, ← hl.2.2.2 (by assumption) (by assumption)] at st)
                    go_roundw
                    case rel => exact ⟨1, _, x1, x2, x3, _, by omega, rfl, rfl, (hds.drewN _).other (by simp; omega) _, (hx.drewN _).set 0 _ rfl, st⟩
                    case measure => simp [intOf]
                · simp only [List.getElem?_toArray, List.getElem?_cons_zero, List.getElem?_cons_succ] at hak hbk hxk
                  go_wp2
                  go_quiet (fail)
                  go_wp2
                  go_quiet (fail)
                  go_wp2
                  all_goals
                    have hl := refLimbS (lb R 1) (lb m 1) cc (lb_bd _ _) (lb_bd _ _) (subInv_c hinv)
                    have st := subStep1 R m x0 x1 x2 x3 cc hinv
                    first | (rw [← hl.1, ← hl.2.1 (by assumption)] at st) | (rw [← hl.1, ← hl.2.2.1 (by assumption)] at st) | (rw [← hl.1, ← hl.2.2.2 (by assumption) (by assumption)] at st)
                    go_roundw
                    case rel => exact ⟨2, x0, _, x2, x3, _, by omega, rfl, rfl, (hds.drewN _).other (by simp; omega) _, (hx.drewN _).set 1 _ rfl, st⟩
                    case measure => simp [intOf]
                · simp only [List.getElem?_toArray, List.getElem?_cons_zero, List.getElem?_cons_succ] at hak hbk hxk
                  go_wp2
                  go_quiet (fail)
                  go_wp2
                  go_quiet (fail)
                  go_wp2
                  all_goals
                    have hl := refLimbS (lb R 2) (lb m 2) cc (lb_bd _ _) (lb_bd _ _) (subInv_c hinv)
                    have st := subStep2 R m x0 x1 x2 x3 cc hinv
                    first | (rw [← hl.1, ← hl.2.1 (by assumption)] at st) | (rw [← hl.1, ← hl.2.2.1 (by assumption)] at st) | (rw [← hl.1, ← hl.2.2.2 (by assumption) (by assumption)] at st)
                    go_roundw
                    case rel => exact ⟨3, x0, x1, _, x3, _, by omega, rfl, rfl, (hds.drewN _).other (by simp; omega) _, (hx.drewN _).set 2 _ rfl, st⟩
                    case measure => simp [intOf]
                · simp only [List.getElem?_toArray, List.getElem?_cons_zero, List.getElem?_cons_succ] at hak hbk hxk
                  go_wp2
                  go_quiet (fail)
                  go_wp2
                  go_quiet (fail)
                  go_wp2
                  all_goals
                    have hl := refLimbS (lb R 3) (lb m 3) cc (lb_bd _ _) (lb_bd _ _) (subInv_c hinv)
                    have st := subStep3 R m x0 x1 x2 x3 cc hinv
                    first | (rw [← hl.1, ← hl.2.1 (by assumption)] at st) | (rw [← hl.1, ← hl.2.2.1 (by assumption)] at st) | (rw [← hl.1, ← hl.2.2.2 (by assumption) (by assumption)] at st)
                    go_roundw
                    case rel => exact ⟨4, x0, x1, x2, _, _, by omega, rfl, rfl, (hds.drewN _).other (by simp; omega) _, (hx.drewN _).set 3 _ rfl, st⟩
                    case measure => simp [intOf]
                · clear hak hbk hxk hxf
                  have y0 := hx.cell 0
                  have yf0 := hx.frozen 0
                  have y1 := hx.cell 1
                  have yf1 := hx.frozen 1
                  have y2 := hx.cell 2
                  have yf2 := hx.frozen 2
                  have y3 := hx.cell 3
                  have yf3 := hx.frozen 3
                  simp only [List.getElem?_toArray, List.getElem?_cons_zero, List.getElem?_cons_succ] at y0 y1 y2 y3
                  have d0 := hds.bR.cell 0
                  have df0 := hds.bR.frozen 0
                  have d1 := hds.bR.cell 1
                  have df1 := hds.bR.frozen 1
                  have d2 := hds.bR.cell 2
                  have df2 := hds.bR.frozen 2
                  have d3 := hds.bR.cell 3
                  have df3 := hds.bR.frozen 3
                  simp only [List.getElem?_toArray, List.getElem?_cons_zero, List.getElem?_cons_succ] at d0 d1 d2 d3
                  have lt8 := hds.lt
                  have lx8 := hx.lt
                  have hsr := subRound (2 * r + bitN n i) m Hm.out HL.out (by obtain ⟨_, _, _, h3⟩ := HR.out; have := bitN_lt n i; have := Hm.out; omega) (by have := Hq.out.2.1; have := bitN_lt n i; omega) x0 x1 x2 x3 cc (by rw [← HRe.out]; exact hinv)
                  obtain ⟨e0, e1, e2, e3⟩ := hsr
                  have hdr := hds.setR (2 * r + bitN n i - m) x0 x1 x2 x3 e0 e1 e2 e3
                  have HX : Hid (x0 = x0) := rfl
                  clear e0 e1 e2 e3 hinv HX
                  go_upto_region 24 with fail
                  generalize World.setCell _ _ _ = w9 at hdr ⊢
                  have lt9 := hdr.lt
                  have hbit := lb_cells hdr.bQ (i / 64) (by omega)
                  have hbitf := hdr.bQ.frozen (i / 64)
                  have hi4 : i / 64 < 4 := by omega
                  clear hds hx y0 y1 y2 y3 yf0 yf1 yf2 yf3 d0 d1 d2 d3 df0 df1 df2 df3
                  go_region
                  go_wp2
                  have hfin := HN.out.1
                  have hq2 : q + 2 ^ i < M256 := by rw [← HE.out.1]; exact (rInv_q hfin Hn.out Hm.out).1
                  go_roundw
                  case rel => exact ⟨i, q', r', by omega, by go_num, by rw [HE.out.1, HE.out.2]; exact (hdr.bit i hi hq2 Hq.out.2.2).drew, hfin⟩
                  case measure => simp [intOf]; try omega
end Go.Proofs.Ytgolpadmcalimaa

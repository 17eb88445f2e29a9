/- Texts joined: Take TkN It ItW ItD. -/
import Derived.Test.YtapjonmgjccpbaaJ2
import Derived.Test.YtapjonmgjccpbaaJ0
import Derived.Deep.RegionWith
import Derived.Deep.DeepCutAuto
import Derived.Deep.CutBlock
import Derived.Deep.RegionHeld3
section
set_option linter.unusedSimpArgs false
set_option linter.unusedVariables false
namespace Go.Proofs.Ytapjonmgjccpbaa
open Go.RowKit
set_option maxHeartbeats 1000000 in
theorem take_pos (s : ByteArray) (w : World) (h1 : s.size ≤ 32) (hp : 0 < s.size) (hb : ((s[0].toNat : Int) == 0) = false) :
    Calls Try.prog 99 #[.string s] w fun e w' => e = .returned (.tuple #[V (takeV s.data.toList), .int .i64 0]) ∧ Below w.heap.size w w' := by
  have hne := ne_of_size s hp
  have hie : s.toList.isEmpty = false := by simp [hne]
  have hdc : decide (32 < (s.size : Int)) = false := by simp; omega
  go_enter Try.func99, Try.ntmps99
  go_wp2
  go_loopw [21] (fun i wr => ∃ (k : Nat), k ≤ s.size ∧ i = .int .i64 k ∧ Bk wr w.heap.size (A4 0 0 0 0) 26 ∧ Bk wr (w.heap.size + 1) (A4 (lb (takeV (s.data.toList.drop (s.size - k))) 0) (lb (takeV (s.data.toList.drop (s.size - k))) 1) (lb (takeV (s.data.toList.drop (s.size - k))) 2) (lb (takeV (s.data.toList.drop (s.size - k))) 3)) 26 ∧ Below w.heap.size w wr) (fun i _ => s.size - (intOf i).toNat)
  case atStart =>
    refine ⟨0, by omega, rfl, (Bk.new _ _ _).alloc _, ?_, ((Below.refl _ _).alloc (Nat.le_refl _) _).alloc (by simp) _⟩
    have e : takeV (s.data.toList.drop (s.size - 0)) = 0 := by rw [Nat.sub_zero, List.drop_of_length_le (by rw [data_len]; omega)]; rfl
    rw [e]
    simp only [lb_zero]
    exact Bk.new' _ _ _ (by simp)
  case round =>
    obtain ⟨k, hk, rfl, hz, hx, hbl⟩ := hrel
    by_cases hlt : k < s.size
    · have hst := drop_step s k hlt
      have hml := drop_lt s k hk
      have hmM : takeV (s.data.toList.drop (s.size - (k + 1))) < M256 := takeV_M _ (by rw [List.length_drop, data_len]; omega)
      generalize takeV (s.data.toList.drop (s.size - k)) = m at hx hst hml
      have h0 := by8_low m k hml
      rw [hst] at hmM
      have hor := limb_byte m s[s.size - 1 - k].toNat k hmM (by omega) (byte_lt _) h0
      rw [← or_byte m _ k (by omega) (byte_lt _) h0, ← hst] at hor
      have HO : Hid (_ = _) := hor
      clear hor hst hml hmM h0
      have hxk := lb_cells hx (k / 8) (by omega)
      have hxf := hx.frozen (k / 8)
      have hix := fun w => idx_str s ((s.size : Int) - 1 - k) (s.size - 1 - k) (by omega) (by omega) w
      go_wp2
      go_region
      go_wp2
      go_roundw
      case rel => exact ⟨k + 1, by omega, by go_num, (hz.other (by simp) _).drew, (hx.set _ _ HO.out).drew, (hbl.setCell (by simp) _).drew⟩
      case measure => simp [intOf]; omega
    · have ek : k = s.size := by omega
      subst ek
      rw [Nat.sub_self, List.drop_zero] at hx
      have hz0 := hz.cell 0
      have hz1 := hz.cell 1
      have hz2 := hz.cell 2
      have hz3 := hz.cell 3
      have hf0 := hz.frozen 0
      have hf1 := hz.frozen 1
      have hf2 := hz.frozen 2
      have hf3 := hz.frozen 3
      have hx0 := hx.cell 0
      have hx1 := hx.cell 1
      have hx2 := hx.cell 2
      have hx3 := hx.cell 3
      simp only [List.getElem?_toArray, List.getElem?_cons_zero, List.getElem?_cons_succ] at hz0 hz1 hz2 hz3 hx0 hx1 hx2 hx3
      go_wp2
      refine bodyPost_ret (v := .tuple #[V (takeV s.data.toList), .int .i64 0]) ?_ rfl ⟨rfl, ?_⟩
      · simp [results, Try.results99, go_sem, hz0, hz1, hz2, hz3]
      · exact (((hbl.setCell (by simp) _).setCell (by simp) _).setCell (by simp) _).setCell (by simp) _
theorem empty_of (s : ByteArray) (h : s.size = 0) : s = ⟨#[]⟩ := by
  obtain ⟨d⟩ := s
  have : d.size = 0 := h
  rw [Array.eq_empty_of_size_eq_zero this]
set_option maxHeartbeats 1000000 in
theorem take_empty (w : World) :
    Calls Try.prog 99 #[.string ⟨#[]⟩] w fun e w' => e = .returned (.tuple #[V 0, .int .i64 0]) ∧ Below w.heap.size w w' := by
  rw [V_zero]
  go_enter Try.func99, Try.ntmps99
  go_wp2
  go_loopw [21] (fun i wr => i = .int .i64 0 ∧ Bk wr w.heap.size (A4 0 0 0 0) 26 ∧ Bk wr (w.heap.size + 1) (A4 0 0 0 0) 26 ∧ Below w.heap.size w wr) (fun i _ => 0)
  case atStart => exact ⟨rfl, (Bk.new _ _ _).alloc _, Bk.new' _ _ _ (by simp), ((Below.refl _ _).alloc (Nat.le_refl _) _).alloc (by simp) _⟩
  case round =>
    obtain ⟨rfl, hz, hx, hbl⟩ := hrel
    have hz0 := hz.cell 0
    have hz1 := hz.cell 1
    have hz2 := hz.cell 2
    have hz3 := hz.cell 3
    have hf0 := hz.frozen 0
    have hf1 := hz.frozen 1
    have hf2 := hz.frozen 2
    have hf3 := hz.frozen 3
    have hx0 := hx.cell 0
    have hx1 := hx.cell 1
    have hx2 := hx.cell 2
    have hx3 := hx.cell 3
    simp only [List.getElem?_toArray, List.getElem?_cons_zero, List.getElem?_cons_succ] at hz0 hz1 hz2 hz3 hx0 hx1 hx2 hx3
    go_wp2
    refine bodyPost_ret (v := .tuple #[.agg (A4 0 0 0 0), .int .i64 0]) ?_ rfl ⟨rfl, ?_⟩
    · simp [results, Try.results99, go_sem, hz0, hz1, hz2, hz3]
    · exact (((hbl.setCell (by simp) _).setCell (by simp) _).setCell (by simp) _).setCell (by simp) _
set_option maxHeartbeats 1000000 in
theorem take_long (s : ByteArray) (w : World) (h1 : 32 < s.size) :
    Calls Try.prog 99 #[.string s] w fun e w' => e = .returned (.tuple #[V 0, .int .i64 1]) ∧ Below w.heap.size w w' := by
  rw [V_zero]
  have hdc : decide (32 < (s.size : Int)) = true := by simp; omega
  go_enter Try.func99, Try.ntmps99
  go_wp2
  refine bodyPost_ret (v := .tuple #[.agg (A4 0 0 0 0), .int .i64 1]) ?_ rfl ⟨rfl, ?_⟩
  · simp [results, Try.results99, go_sem]
  · exact (Below.refl _ _).alloc (Nat.le_refl _) _
set_option maxHeartbeats 1000000 in
theorem take_null (s : ByteArray) (w : World) (h1 : s.size ≤ 32) (hp : 0 < s.size) (hb : ((s[0].toNat : Int) == 0) = true) :
    Calls Try.prog 99 #[.string s] w fun e w' => e = .returned (.tuple #[V 0, .int .i64 1]) ∧ Below w.heap.size w w' := by
  rw [V_zero]
  have hne := ne_of_size s hp
  have hie : s.toList.isEmpty = false := by simp [hne]
  have hdc : decide (32 < (s.size : Int)) = false := by simp; omega
  go_enter Try.func99, Try.ntmps99
  go_wp2
  refine bodyPost_ret (v := .tuple #[.agg (A4 0 0 0 0), .int .i64 1]) ?_ rfl ⟨rfl, ?_⟩
  · simp [results, Try.results99, go_sem]
  · exact (Below.refl _ _).alloc (Nat.le_refl _) _
/-- Are these the bytes of a number? -/
def tkGood (s : ByteArray) : Bool := decide (s.size ≤ 32) && !(s.data.toList.head? == some 0)
def tkV (s : ByteArray) : Nat := if tkGood s then takeV s.data.toList else 0
def tkE (s : ByteArray) : Int := if tkGood s then 0 else 1
theorem head_zero (s : ByteArray) (hp : 0 < s.size) : (s.data.toList.head? == some 0) = ((s[0].toNat : Int) == 0) := by
  have e : s.data.toList.head? = some s[0] := by
    rw [List.head?_eq_getElem?, List.getElem?_eq_getElem (by rw [data_len]; exact hp)]; rfl
  rw [e, Bool.eq_iff_iff]
  simp [← UInt8.toNat_inj]
theorem tkV_lt (s : ByteArray) : tkV s < M256 := by
  unfold tkV
  split
  · next h => simp only [tkGood, Bool.and_eq_true, decide_eq_true_eq] at h; exact takeV_sM s h.1
  · decide
theorem take (s : ByteArray) (w : World) :
    Calls Try.prog 99 #[.string s] w fun e w' => e = .returned (.tuple #[V (tkV s), .int .i64 (tkE s)]) ∧ Below w.heap.size w w' := by
  by_cases h1 : s.size ≤ 32
  · by_cases hp : 0 < s.size
    · cases hb : ((s[0].toNat : Int) == 0) with
      | false =>
        have hg : tkGood s = true := by simp only [tkGood, head_zero s hp, hb]; simp [h1]
        have := take_pos s w h1 hp hb
        simpa only [tkV, tkE, hg, if_true] using this
      | true =>
        have hg : tkGood s = false := by simp only [tkGood, head_zero s hp, hb]; simp
        have := take_null s w h1 hp hb
        simpa only [tkV, tkE, hg, Bool.false_eq_true, if_false] using this
    · obtain rfl := empty_of s (by omega)
      exact take_empty w
  · have hg : tkGood s = false := by simp [tkGood, h1]
    have := take_long s w (by omega)
    simpa only [tkV, tkE, hg, Bool.false_eq_true, if_false] using this
end Go.Proofs.Ytapjonmgjccpbaa
end
section
set_option linter.unusedSimpArgs false
set_option linter.unusedVariables false
set_option maxRecDepth 100000
namespace Go.Proofs.Ytapjonmgjccpbaa
open Go.RowKit

/-! tx.takeNumber, tx.takeWhole. -/
def nbOk (L : Bool) (s : ByteArray) : Bool := decide (tkE s = 0) && !L
def whOk (L : Bool) (s : ByteArray) : Bool := nbOk L s && decide (bl (tkV s) < 64)
def whV (L : Bool) (s : ByteArray) : Int := if whOk L s = true then (tkV s : Int) else 0
set_option maxHeartbeats 2000000 in
theorem takeNumber (L : Bool) (s : ByteArray) (u : Value) (a : Option Addr) (l c : Nat) (hu : u = .slice a l c) (w : World) :
    Calls Try.prog 68 #[.agg #[.bool L, .string s, u]] w fun e w' => e = .returned (.tuple #[V (tkV s), .bool (nbOk L s)]) ∧ Below w.heap.size w w' := by
  subst hu
  have HT : Hid (∀ w, Calls Try.prog 99 #[.string s] w fun e w' => e = .returned (.tuple #[V (tkV s), .int .i64 (tkE s)]) ∧ Below w.heap.size w w') := fun w => take s w
  obtain ⟨n, hn⟩ : ∃ n, n = tkV s := ⟨_, rfl⟩
  obtain ⟨E, hE⟩ : ∃ E, E = tkE s := ⟨_, rfl⟩
  rw [← hn, ← hE] at HT
  have HV0 : Hid (V (tkV s) = V n ∧ nbOk L s = (decide (E = 0) && !L)) := ⟨by rw [hn], by rw [hE]; rfl⟩
  clear hn hE
  obtain ⟨wr, hwr⟩ : ∃ wr, wr = (w.alloc (.cells #[.bool L, .string s, .slice a l c] 70)).alloc (.cells (A4 0 0 0 0) 26) := ⟨_, rfl⟩
  go_enter Try.func68, Try.ntmps68
  go_upto_region 1 with fail
  rw [← hwr]
  have bX : Bk wr w.heap.size #[.bool L, .string s, .slice a l c] 70 := by rw [hwr]; exact (Bk.new _ _ _).alloc _
  have bR : Bk wr (w.heap.size + 1) (A4 0 0 0 0) 26 := by rw [hwr]; exact Bk.new' _ _ _ (by simp)
  have hB : Below w.heap.size w wr := by rw [hwr]; exact ((Below.refl _ _).alloc (Nat.le_refl _) _).alloc (by simp) _
  clear hwr
  obtain ⟨X, hX⟩ : ∃ X, X = w.heap.size := ⟨_, rfl⟩
  have HX : Hid (X = w.heap.size) := hX
  rw [← hX] at bX bR ⊢
  clear hX
  have x1 := bX.cell 1
  simp only [List.getElem?_toArray, List.getElem?_cons_zero, List.getElem?_cons_succ] at x1
  have HXR : Hid (Bk wr X #[.bool L, .string s, .slice a l c] 70 ∧ Bk wr (X + 1) (A4 0 0 0 0) 26 ∧ Below w.heap.size w wr) := ⟨bX, bR, hB⟩
  clear bX bR hB
  go_wp2_with fail
  refine (HT.out _).mono ?_
  rintro e w1 ⟨rfl, hb1⟩
  have bX := HXR.out.1.below hb1 HXR.out.1.lt
  have bR := HXR.out.2.1.below hb1 HXR.out.2.1.lt
  have hB := HXR.out.2.2.trans (hb1.mono HXR.out.2.2.size)
  obtain ⟨w2, hw2⟩ : ∃ w2, w2 = w1.alloc (.cells (A4 (lb n 0) (lb n 1) (lb n 2) (lb n 3)) 26) := ⟨_, rfl⟩
  obtain ⟨D, hD⟩ : ∃ D, D = w1.heap.size := ⟨_, rfl⟩
  have bD : Bk w2 D (A4 (lb n 0) (lb n 1) (lb n 2) (lb n 3)) 26 := by rw [hw2, hD]; exact Bk.new _ _ _
  have bX2 : Bk w2 X #[.bool L, .string s, .slice a l c] 70 := by rw [hw2]; exact bX.alloc _
  have bR2 : Bk w2 (X + 1) (A4 0 0 0 0) 26 := by rw [hw2]; exact bR.alloc _
  have hB2 : Below w.heap.size w w2 := by rw [hw2]; exact hB.alloc hB.size _
  have HW2 : Hid (w2 = w1.alloc (.cells (A4 (lb n 0) (lb n 1) (lb n 2) (lb n 3)) 26) ∧ D = w1.heap.size) := ⟨hw2, hD⟩
  clear x1 hb1 bX bR hB hw2 hD HXR HT
  go_upto_region 2 with fail
  rw [← HW2.out.1, ← HW2.out.2]
  have HB : Hid (Below w.heap.size w w2.drew) := hB2.drew
  have HR : Hid (Bk w2.drew (X + 1) (A4 0 0 0 0) 26) := bR2.drew
  have x0 := bX2.cell 0
  simp only [List.getElem?_toArray, List.getElem?_cons_zero, List.getElem?_cons_succ] at x0
  have d0 := bD.cell 0
  have d1 := bD.cell 1
  have d2 := bD.cell 2
  have d3 := bD.cell 3
  simp only [List.getElem?_toArray, List.getElem?_cons_zero, List.getElem?_cons_succ] at d0 d1 d2 d3
  have r0 := bR2.cell 0
  have rf0 := bR2.frozen 0
  have r1 := bR2.cell 1
  have rf1 := bR2.frozen 1
  have r2 := bR2.cell 2
  have rf2 := bR2.frozen 2
  have r3 := bR2.cell 3
  have rf3 := bR2.frozen 3
  simp only [List.getElem?_toArray, List.getElem?_cons_zero, List.getElem?_cons_succ] at r0 r1 r2 r3
  have lR := bR2.lt
  have lX := bX2.lt
  have lD := bD.lt
  clear bX2 bD bR2 hB2 HW2
  by_cases hE : E = 0
  · cases L with
    | false =>
      have HV : Hid (V (tkV s) = V n ∧ nbOk false s = true) := ⟨HV0.out.1, by rw [HV0.out.2, decide_eq_true hE]; rfl⟩
      have hE' : (E == 0) = true := by rw [hE]; rfl
      clear hE HV0
      go_region
      all_goals
        go_wp2_with fail
        refine bodyPost_ret (v := .tuple #[V n, .bool true]) ?_ rfl ⟨by rw [HV.out.1, HV.out.2], set4_below HB.out (by rw [HX.out]; omega) _ _ _ _⟩
        have bQ := set4_Bk HR.out (.int .u64 (lb n 0)) (.int .u64 (lb n 1)) (.int .u64 (lb n 2)) (.int .u64 (lb n 3))
        have s0 := bQ.cell 0
        have s1 := bQ.cell 1
        have s2 := bQ.cell 2
        have s3 := bQ.cell 3
        simp only [List.getElem?_toArray, List.getElem?_cons_zero, List.getElem?_cons_succ] at s0 s1 s2 s3
        simp [results, Try.results68, go_sem, r0, r1, r2, r3]
    | true =>
      have HV : Hid (V (tkV s) = V n ∧ nbOk true s = false) := ⟨HV0.out.1, by rw [HV0.out.2]; simp⟩
      have hE' : (E == 0) = true := by rw [hE]; rfl
      clear hE HV0
      go_region
      all_goals
        go_wp2_with fail
        refine bodyPost_ret (v := .tuple #[V n, .bool false]) ?_ rfl ⟨by rw [HV.out.1, HV.out.2], set4_below HB.out (by rw [HX.out]; omega) _ _ _ _⟩
        have bQ := set4_Bk HR.out (.int .u64 (lb n 0)) (.int .u64 (lb n 1)) (.int .u64 (lb n 2)) (.int .u64 (lb n 3))
        have s0 := bQ.cell 0
        have s1 := bQ.cell 1
        have s2 := bQ.cell 2
        have s3 := bQ.cell 3
        simp only [List.getElem?_toArray, List.getElem?_cons_zero, List.getElem?_cons_succ] at s0 s1 s2 s3
        simp [results, Try.results68, go_sem, r0, r1, r2, r3]
  · have HV : Hid (V (tkV s) = V n ∧ nbOk L s = false) := ⟨HV0.out.1, by rw [HV0.out.2, decide_eq_false hE]; rfl⟩
    have hE' : (E == 0) = false := by rw [beq_eq_false_iff_ne]; exact hE
    clear hE HV0
    go_region
    all_goals
      go_wp2_with fail
      refine bodyPost_ret (v := .tuple #[V n, .bool false]) ?_ rfl ⟨by rw [HV.out.1, HV.out.2], set4_below HB.out (by rw [HX.out]; omega) _ _ _ _⟩
      have bQ := set4_Bk HR.out (.int .u64 (lb n 0)) (.int .u64 (lb n 1)) (.int .u64 (lb n 2)) (.int .u64 (lb n 3))
      have s0 := bQ.cell 0
      have s1 := bQ.cell 1
      have s2 := bQ.cell 2
      have s3 := bQ.cell 3
      simp only [List.getElem?_toArray, List.getElem?_cons_zero, List.getElem?_cons_succ] at s0 s1 s2 s3
      simp [results, Try.results68, go_sem, r0, r1, r2, r3]
set_option maxHeartbeats 2000000 in
theorem takeWhole (L : Bool) (s : ByteArray) (a : Option Addr) (l c : Nat) (w : World) :
    Calls Try.prog 67 #[.agg #[.bool L, .string s, .slice a l c]] w fun e w' => e = .returned (.tuple #[.int .i64 (whV L s), .bool (whOk L s)]) ∧ Below w.heap.size w w' := by
  have HT : Hid (∀ w, Calls Try.prog 68 #[.agg #[.bool L, .string s, .slice a l c]] w fun e w' => e = .returned (.tuple #[V (tkV s), .bool (nbOk L s)]) ∧ Below w.heap.size w w') := fun w => takeNumber L s _ a l c rfl w
  obtain ⟨n, hn⟩ : ∃ n, n = tkV s := ⟨_, rfl⟩
  have hlt : n < M256 := by rw [hn]; exact tkV_lt s
  have HBt : Hid (∀ w, Calls Try.prog 98 #[V n] w fun e w' => e = .returned (.int .i64 (bl n)) ∧ Below w.heap.size w w') := fun w => bits n hlt w
  rw [← hn] at HT
  have HV0 : Hid (whOk L s = (nbOk L s && decide (bl n < 64)) ∧ whV L s = if (nbOk L s && decide (bl n < 64)) = true then (n : Int) else 0) := ⟨by rw [hn]; rfl, by rw [hn]; rfl⟩
  clear hn
  obtain ⟨wr, hwr⟩ : ∃ wr, wr = w.alloc (.cells #[.bool L, .string s, .slice a l c] 70) := ⟨_, rfl⟩
  have bX : Bk wr w.heap.size #[.bool L, .string s, .slice a l c] 70 := by rw [hwr]; exact Bk.new _ _ _
  have hB : Below w.heap.size w wr := by rw [hwr]; exact (Below.refl _ _).alloc (Nat.le_refl _) _
  have HWR : Hid (wr = w.alloc (.cells #[.bool L, .string s, .slice a l c] 70)) := hwr
  clear hwr
  go_enter Try.func67, Try.ntmps67
  go_upto_region 1 with fail
  rw [← HWR.out]
  have x0 := bX.cell 0
  have x1 := bX.cell 1
  have x2 := bX.cell 2
  simp only [List.getElem?_toArray, List.getElem?_cons_zero, List.getElem?_cons_succ] at x0 x1 x2
  clear HWR bX
  go_wp2_with fail
  refine (HT.out _).mono ?_
  rintro e w1 ⟨rfl, hb1⟩
  have hB1 := hB.trans (hb1.mono hB.size)
  have HB1 : Hid (Below w.heap.size w (w1.alloc (.cells (A4 (lb n 0) (lb n 1) (lb n 2) (lb n 3)) 26))) := hB1.alloc hB1.size _
  have bD : Bk (w1.alloc (.cells (A4 (lb n 0) (lb n 1) (lb n 2) (lb n 3)) 26)) w1.heap.size (A4 (lb n 0) (lb n 1) (lb n 2) (lb n 3)) 26 := Bk.new _ _ _
  obtain ⟨w2, hw2⟩ : ∃ w2, w2 = w1.alloc (.cells (A4 (lb n 0) (lb n 1) (lb n 2) (lb n 3)) 26) := ⟨_, rfl⟩
  obtain ⟨D, hD⟩ : ∃ D, D = w1.heap.size := ⟨_, rfl⟩
  rw [← hw2] at bD HB1
  rw [← hD] at bD
  have HW2 : Hid (w2 = w1.alloc (.cells (A4 (lb n 0) (lb n 1) (lb n 2) (lb n 3)) 26) ∧ D = w1.heap.size) := ⟨hw2, hD⟩
  have HD : Hid (Bk w2 D (A4 (lb n 0) (lb n 1) (lb n 2) (lb n 3)) 26) := bD
  clear x0 x1 x2 hb1 hB hB1 hw2 hD HT
  generalize nbOk L s = b at *
  go_upto_region 2 with fail
  rw [← HW2.out.1, ← HW2.out.2]
  have d0 := bD.cell 0
  have d1 := bD.cell 1
  have d2 := bD.cell 2
  have d3 := bD.cell 3
  simp only [List.getElem?_toArray, List.getElem?_cons_zero, List.getElem?_cons_succ] at d0 d1 d2 d3
  clear HW2 bD
  cases b with
  | false =>
    have HV : Hid (whOk L s = false ∧ whV L s = 0) := ⟨by rw [HV0.out.1]; rfl, by rw [HV0.out.2]; rfl⟩
    clear HV0
    go_wp2_with fail
    refine bodyPost_ret (v := .tuple #[.int .i64 0, .bool false]) ?_ rfl ⟨by rw [HV.out.1, HV.out.2], HB1.out⟩
    simp [results, Try.results67, go_sem]
  | true =>
    go_wp2_with fail
    refine (HBt.out _).mono ?_
    rintro e w3 ⟨rfl, hb3⟩
    have bD3 := HD.out.below hb3 HD.out.lt
    have e0 := bD3.cell 0
    simp only [List.getElem?_toArray, List.getElem?_cons_zero, List.getElem?_cons_succ] at e0
    have hB3 := HB1.out.trans (hb3.mono HB1.out.size)
    clear d0 d1 d2 d3 bD3 hb3
    by_cases h64 : bl n < 64
    · have HV : Hid (whOk L s = true ∧ whV L s = (n : Int)) := ⟨by rw [HV0.out.1, decide_eq_true h64]; rfl, by rw [HV0.out.2, decide_eq_true h64]; rfl⟩
      have hge : ¬ (64 : Int) ≤ (bl n : Int) := by omega
      have hn63 : n < 9223372036854775808 := by have := (bl_iff n 63).1 (by omega); simpa using this
      have hl0 : lb n 0 = (n : Int) := (lb_small n (by omega)).1
      have hwr64 : IntKind.i64.wrap (lb n 0) = (n : Int) := by rw [hl0, IntKind.wrap_i64]; omega
      generalize bl n = bn at *
      clear HV0 h64 hl0
      go_wp2_with fail
      refine bodyPost_ret (v := .tuple #[.int .i64 (n : Int), .bool true]) ?_ rfl ⟨by rw [HV.out.1, HV.out.2], hB3⟩
      simp [results, Try.results67, go_sem]
    · have HV : Hid (whOk L s = false ∧ whV L s = 0) := ⟨by rw [HV0.out.1, decide_eq_false h64]; rfl, by rw [HV0.out.2, decide_eq_false h64]; rfl⟩
      have hge : (64 : Int) ≤ (bl n : Int) := by omega
      generalize bl n = bn at *
      clear HV0 h64
      go_wp2_with fail
      refine bodyPost_ret (v := .tuple #[.int .i64 0, .bool false]) ?_ rfl ⟨by rw [HV.out.1, HV.out.2], hB3⟩
      simp [results, Try.results67, go_sem]
end Go.Proofs.Ytapjonmgjccpbaa
end
section
set_option linter.unusedSimpArgs false
set_option linter.unusedVariables false
namespace Go.Proofs.Ytapjonmgjccpbaa
open Go.RowKit

/-! Items, as trees; how a list of them lies in memory. -/
inductive IT where
  | mk (list : Bool) (text : ByteArray) (items : List IT)
def IT.list : IT → Bool | .mk l _ _ => l
def IT.text : IT → ByteArray | .mk _ t _ => t
def IT.items : IT → List IT | .mk _ _ s => s
theorem IT.eta (a : IT) : a = .mk a.list a.text a.items := by cases a; rfl
theorem IT.ext {a b : IT} (h1 : a.list = b.list) (h2 : a.text = b.text) (h3 : a.items = b.items) : a = b := by
  cases a; cases b; simp only [IT.list, IT.text, IT.items] at *; rw [h1, h2, h3]
/-- A slice of these items, read n lists deep at most. -/
def Rd (w : World) : Nat → List IT → Value → Prop
  | 0, _, _ => False
  | n + 1, xs, v => xs.length ≤ 9223372036854775807 ∧ ∃ ad cap, v = .slice ad xs.length cap ∧ ∀ i (hi : i < xs.length), ∃ b off, ad = some ⟨b, off, none⟩ ∧
      ∃ sv, w.cell? ⟨b, off + i * 3, none⟩ = some (.bool xs[i].list) ∧ w.cell? ⟨b, off + i * 3 + 1, none⟩ = some (.string xs[i].text) ∧ w.cell? ⟨b, off + i * 3 + 2, none⟩ = some sv ∧
      (∃ a l c, sv = .slice a l c) ∧ Rd w n xs[i].items sv
theorem Rd.below {w w' : World} (hb : Below w.heap.size w w') : ∀ {n : Nat} {xs : List IT} {v : Value}, Rd w n xs v → Rd w' n xs v
  | 0, _, _, h => h.elim
  | n + 1, xs, v, h => by
    obtain ⟨hl, ad, cap, hv, h⟩ := h
    refine ⟨hl, ad, cap, hv, fun i hi => ?_⟩
    obtain ⟨b, off, ha, sv, h0, h1, h2, hs, h3⟩ := h i hi
    exact ⟨b, off, ha, sv, (hb.cell (cell_lt' h0)).trans h0, (hb.cell (cell_lt' h1)).trans h1, (hb.cell (cell_lt' h2)).trans h2, hs, Rd.below hb h3⟩
theorem bytes_inj {a b : ByteArray} (h : a.toList = b.toList) : a = b := by
  rw [ByteArray.toList_eq, ByteArray.toList_eq] at h
  cases a; cases b
  congr 1
  exact Array.toList_inj.1 h
/-- An item as a value, its own items as this slice. -/
abbrev itv (a : IT) (sv : Value) : Value := .agg #[.bool a.list, .string a.text, sv]
end Go.Proofs.Ytapjonmgjccpbaa
end
section
set_option linter.unusedSimpArgs false
set_option linter.unusedVariables false
namespace Go.Proofs.Ytapjonmgjccpbaa
open Go.RowKit

/-! How much an item is, and how deep. -/
mutual
def IT.wt : IT → Nat
  | .mk _ t s => 1 + t.size + IT.wts s
def IT.wts : List IT → Nat
  | [] => 0
  | x :: xs => x.wt + IT.wts xs
end
mutual
def IT.dp : IT → Nat
  | .mk _ _ s => IT.dps s + 1
def IT.dps : List IT → Nat
  | [] => 0
  | x :: xs => max x.dp (IT.dps xs)
end
theorem IT.wt_eq (a : IT) : a.wt = 1 + a.text.size + IT.wts a.items := by cases a; rfl
theorem IT.dp_eq (a : IT) : a.dp = IT.dps a.items + 1 := by cases a; rfl
theorem wts_append (xs ys : List IT) : IT.wts (xs ++ ys) = IT.wts xs + IT.wts ys := by
  induction xs with
  | nil => simp [IT.wts]
  | cons x xs ih => simp only [List.cons_append, IT.wts, ih]; omega
theorem dps_append (xs ys : List IT) : IT.dps (xs ++ ys) = max (IT.dps xs) (IT.dps ys) := by
  induction xs with
  | nil => simp [IT.dps]
  | cons x xs ih => simp only [List.cons_append, IT.dps, ih]; omega
theorem wts_take (xs : List IT) (k : Nat) (h : k < xs.length) : IT.wts (xs.take (k + 1)) = IT.wts (xs.take k) + xs[k].wt := by
  rw [List.take_succ_eq_append_getElem h, wts_append]; simp [IT.wts]
theorem dps_take (xs : List IT) (k : Nat) (h : k < xs.length) : IT.dps (xs.take (k + 1)) = max (IT.dps (xs.take k)) xs[k].dp := by
  rw [List.take_succ_eq_append_getElem h, dps_append]; simp [IT.dps]
theorem wts_le (xs : List IT) (k : Nat) : IT.wts (xs.take k) ≤ IT.wts xs := by
  conv => rhs; rw [← List.take_append_drop k xs, wts_append]
  omega
theorem dps_le (xs : List IT) (k : Nat) : IT.dps (xs.take k) ≤ IT.dps xs := by
  conv => rhs; rw [← List.take_append_drop k xs, dps_append]
  omega
theorem wt_get (xs : List IT) (k : Nat) (h : k < xs.length) : xs[k].wt ≤ IT.wts xs := by
  have := wts_le xs (k + 1); rw [wts_take xs k h] at this; omega
theorem dp_get (xs : List IT) (k : Nat) (h : k < xs.length) : xs[k].dp ≤ IT.dps xs := by
  have := dps_le xs (k + 1); rw [dps_take xs k h] at this; omega
mutual
theorem dp_wt : ∀ a : IT, a.dp ≤ a.wt
  | .mk l t s => by have := dps_wts s; simp only [IT.dp, IT.wt]; omega
theorem dps_wts : ∀ xs : List IT, IT.dps xs ≤ IT.wts xs
  | [] => Nat.le_refl _
  | x :: xs => by have := dp_wt x; have := dps_wts xs; simp only [IT.dps, IT.wts]; omega
end
/-- What an item's slice says of its own items, for a loop over them. -/
theorem Rd.at {w : World} {n : Nat} {xs : List IT} {v : Value} (h : Rd w n xs v) : ∃ m, n = m + 1 ∧ ∃ ad cap, v = .slice ad xs.length cap ∧ xs.length ≤ 9223372036854775807 ∧ ∀ i (hi : i < xs.length), ∃ b off, ad = some ⟨b, off, none⟩ ∧
      ∃ a l c, w.cell? ⟨b, off + i * 3, none⟩ = some (.bool xs[i].list) ∧ w.cell? ⟨b, off + i * 3 + 1, none⟩ = some (.string xs[i].text) ∧ w.cell? ⟨b, off + i * 3 + 2, none⟩ = some (.slice a l c) ∧ Rd w m xs[i].items (.slice a l c) := by
  cases n with
  | zero => exact h.elim
  | succ m =>
    obtain ⟨hl, ad, cap, hv, hat⟩ := h
    refine ⟨m, rfl, ad, cap, hv, hl, fun i hi => ?_⟩
    obtain ⟨b, off, ha, sv, h0, h1, h2, ⟨a, l, c, rfl⟩, h3⟩ := hat i hi
    exact ⟨b, off, ha, a, l, c, h0, h1, h2, h3⟩
end Go.Proofs.Ytapjonmgjccpbaa
end
section
set_option linter.unusedSimpArgs false
set_option linter.unusedVariables false
namespace Go.Proofs.Ytapjonmgjccpbaa
open Go.RowKit

/-! How deep an item is by the page: more than may be, where a text has items or a list a text. -/
mutual
def IT.pd : IT → Nat
  | .mk l t s => if l = false then (if s.length = 0 then 0 else 17) else if t.size = 0 then IT.pds s + 1 else 17
def IT.pds : List IT → Nat
  | [] => 0
  | x :: xs => max x.pd (IT.pds xs)
end
theorem pds_append (xs ys : List IT) : IT.pds (xs ++ ys) = max (IT.pds xs) (IT.pds ys) := by
  induction xs with
  | nil => simp [IT.pds]
  | cons x xs ih => simp only [List.cons_append, IT.pds, ih]; omega
theorem pds_take (xs : List IT) (k : Nat) (h : k < xs.length) : IT.pds (xs.take (k + 1)) = max (IT.pds (xs.take k)) xs[k].pd := by
  rw [List.take_succ_eq_append_getElem h, pds_append]; simp [IT.pds]
theorem pds_le (xs : List IT) (k : Nat) : IT.pds (xs.take k) ≤ IT.pds xs := by
  conv => rhs; rw [← List.take_append_drop k xs, pds_append]
  omega
theorem pd_get (xs : List IT) (k : Nat) (h : k < xs.length) : xs[k].pd ≤ IT.pds xs := by
  have := pds_le xs (k + 1); rw [pds_take xs k h] at this; omega
mutual
theorem pd_dp : ∀ a : IT, a.pd ≤ a.dp + 16
  | .mk l t s => by
    have := pds_dps s
    simp only [IT.pd, IT.dp]
    split
    · split <;> omega
    · split <;> omega
theorem pds_dps : ∀ xs : List IT, IT.pds xs ≤ IT.dps xs + 16
  | [] => by simp [IT.pds]
  | x :: xs => by have := pd_dp x; have := pds_dps xs; simp only [IT.pds, IT.dps]; omega
end
theorem bytes_nil (t : ByteArray) (h : t.size = 0) : t = ByteArray.empty := by
  cases t with
  | mk d => congr 1; exact Array.eq_empty_of_size_eq_zero h
end Go.Proofs.Ytapjonmgjccpbaa
end

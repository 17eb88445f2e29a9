import Derived.Test.YtapjonmgjccpbaaJ3
set_option linter.unusedSimpArgs false
set_option linter.unusedVariables false
namespace Go.Proofs.Ytapjonmgjccpbaa
open Go.RowKit

theorem take_step (s : ByteArray) (i : Nat) (h : i < s.size) : takeV (s.data.toList.take (i + 1)) * 2 ^ (8 * (s.size - (i + 1))) = takeV (s.data.toList.take i) * 2 ^ (8 * (s.size - i)) + s[i].toNat * 2 ^ (8 * (s.size - 1 - i)) := by
  rw [List.take_succ_eq_append_getElem (by rw [data_len]; exact h), takeV_snoc]
  have e1 : s.size - i = s.size - (i + 1) + 1 := by omega
  have e2 : s.size - 1 - i = s.size - (i + 1) := by omega
  rw [e1, e2, Nat.add_mul, Nat.mul_add 8, Nat.pow_add]
  have e3 : takeV (s.data.toList.take i) * 256 * 2 ^ (8 * (s.size - (i + 1))) = takeV (s.data.toList.take i) * (2 ^ (8 * (s.size - (i + 1))) * 2 ^ (8 * 1)) := by
    rw [Nat.mul_assoc, Nat.mul_comm 256]
  rw [e3]
  rfl
theorem take_M (s : ByteArray) (i : Nat) (hi : i ≤ s.size) (h : s.size ≤ 32) : takeV (s.data.toList.take i) * 2 ^ (8 * (s.size - i)) < M256 := by
  have h1 := takeV_lt (s.data.toList.take i)
  rw [List.length_take, data_len, Nat.min_eq_left hi] at h1
  have h2 : takeV (s.data.toList.take i) * 2 ^ (8 * (s.size - i)) < 2 ^ (8 * i) * 2 ^ (8 * (s.size - i)) := Nat.mul_lt_mul_of_pos_right h1 (Nat.two_pow_pos _)
  rw [← Nat.pow_add] at h2
  have h3 : (2 : Nat) ^ (8 * i + 8 * (s.size - i)) ≤ 2 ^ 256 := Nat.pow_le_pow_right (by omega) (by omega)
  have h4 : (2 : Nat) ^ 256 = M256 := by decide
  omega
set_option maxHeartbeats 1000000 in
theorem rtake_pos (s : ByteArray) (w : World) (h1 : s.size ≤ 32) (hp : 0 < s.size) (hb : ((s[0].toNat : Int) == 0) = false) :
    Calls Try.prog 74 #[.string s] w fun e w' => e = .returned (.tuple #[V (takeV s.data.toList), .bool true]) ∧ Below w.heap.size w w' := by
  have hdc : decide (32 < (s.size : Int)) = false := by simp; omega
  have hdp : decide (0 < (s.size : Int)) = true := by simp; omega
  go_enter Try.func74, Try.ntmps74
  go_wp2
  go_loopw [5] (fun i wr => ∃ (k : Nat), k ≤ s.size ∧ i = .int .i64 k ∧ Bk wr w.heap.size (A4 0 0 0 0) 26 ∧ Bk wr (w.heap.size + 1) (A4 (lb (takeV (s.data.toList.take k) * 2 ^ (8 * (s.size - k))) 0) (lb (takeV (s.data.toList.take k) * 2 ^ (8 * (s.size - k))) 1) (lb (takeV (s.data.toList.take k) * 2 ^ (8 * (s.size - k))) 2) (lb (takeV (s.data.toList.take k) * 2 ^ (8 * (s.size - k))) 3)) 26 ∧ Below w.heap.size w wr) (fun i _ => s.size - (intOf i).toNat)
  case atStart =>
    refine ⟨0, by omega, rfl, (Bk.new _ _ _).alloc _, ?_, ((Below.refl _ _).alloc (Nat.le_refl _) _).alloc (by simp) _⟩
    have e : takeV (s.data.toList.take 0) * 2 ^ (8 * (s.size - 0)) = 0 := by rw [List.take_zero]; exact Nat.zero_mul _
    rw [e]
    simp only [lb_zero]
    exact Bk.new' _ _ _ (by simp)
  case round =>
    obtain ⟨k, hk, rfl, hz, hx, hbl⟩ := hrel
    by_cases hlt : k < s.size
    · have hst := take_step s k hlt
      have hmM := take_M s (k + 1) (by omega) h1
      have h0 := by8_high (takeV (s.data.toList.take k)) (s.size - 1 - k)
      rw [show s.size - 1 - k + 1 = s.size - k by omega] at h0
      generalize takeV (s.data.toList.take k) * 2 ^ (8 * (s.size - k)) = m at hx hst h0
      rw [hst] at hmM
      have hor := limb_byte m s[k].toNat (s.size - 1 - k) hmM (by omega) (byte_lt _) h0
      rw [← or_byte m _ (s.size - 1 - k) (by omega) (byte_lt _) h0, ← hst] at hor
      have HO : Hid (_ = _) := hor
      clear hor hst hmM h0
      obtain ⟨q, hq⟩ : ∃ q, q = s.size - 1 - k := ⟨_, rfl⟩
      have hqi : (s.size : Int) - 1 - k = (q : Int) := by omega
      have hq32 : q < 32 := by omega
      have hqk : q + k + 1 = s.size := by omega
      rw [← hq] at HO
      have hxk := lb_cells hx (q / 8) (by omega)
      have hxf := hx.frozen (q / 8)
      have hix := fun w => idx_str s (k : Int) k hlt rfl w
      clear hq
      go_wp2
      go_region
      go_wp2
      go_roundw
      case rel => exact ⟨k + 1, by omega, by go_num, (hz.other (by simp) _).drew, (hx.set _ _ HO.out).drew, (hbl.setCell (by simp) _).drew⟩
      case measure => simp [intOf]; omega
    · have ek : k = s.size := by omega
      subst ek
      rw [Nat.sub_self, Nat.mul_zero, Nat.pow_zero, Nat.mul_one, List.take_of_length_le (by rw [data_len]; exact Nat.le_refl _)] at hx
      have hz0 := hz.cell 0
      have hz1 := hz.cell 1
      have hz2 := hz.cell 2
      have hz3 := hz.cell 3
      have hf0 := hz.frozen 0
      have hf1 := hz.frozen 1
      have hf2 := hz.frozen 2
      have hf3 := hz.frozen 3
      have hx0 := hx.cell 0
      have hx1 := hx.cell 1
      have hx2 := hx.cell 2
      have hx3 := hx.cell 3
      simp only [List.getElem?_toArray, List.getElem?_cons_zero, List.getElem?_cons_succ] at hz0 hz1 hz2 hz3 hx0 hx1 hx2 hx3
      go_wp2
      refine bodyPost_ret (v := .tuple #[V (takeV s.data.toList), .bool true]) ?_ rfl ⟨rfl, ?_⟩
      · simp [results, Try.results74, go_sem, hz0, hz1, hz2, hz3]
      · exact (((hbl.setCell (by simp) _).setCell (by simp) _).setCell (by simp) _).setCell (by simp) _
set_option maxHeartbeats 1000000 in
theorem rtake_empty (w : World) :
    Calls Try.prog 74 #[.string ⟨#[]⟩] w fun e w' => e = .returned (.tuple #[V 0, .bool true]) ∧ Below w.heap.size w w' := by
  rw [V_zero]
  go_enter Try.func74, Try.ntmps74
  go_wp2
  go_loopw [5] (fun i wr => i = .int .i64 0 ∧ Bk wr w.heap.size (A4 0 0 0 0) 26 ∧ Bk wr (w.heap.size + 1) (A4 0 0 0 0) 26 ∧ Below w.heap.size w wr) (fun i _ => 0)
  case atStart => exact ⟨rfl, (Bk.new _ _ _).alloc _, Bk.new' _ _ _ (by simp), ((Below.refl _ _).alloc (Nat.le_refl _) _).alloc (by simp) _⟩
  case round =>
    obtain ⟨rfl, hz, hx, hbl⟩ := hrel
    have hz0 := hz.cell 0
    have hz1 := hz.cell 1
    have hz2 := hz.cell 2
    have hz3 := hz.cell 3
    have hf0 := hz.frozen 0
    have hf1 := hz.frozen 1
    have hf2 := hz.frozen 2
    have hf3 := hz.frozen 3
    have hx0 := hx.cell 0
    have hx1 := hx.cell 1
    have hx2 := hx.cell 2
    have hx3 := hx.cell 3
    simp only [List.getElem?_toArray, List.getElem?_cons_zero, List.getElem?_cons_succ] at hz0 hz1 hz2 hz3 hx0 hx1 hx2 hx3
    go_wp2
    refine bodyPost_ret (v := .tuple #[.agg (A4 0 0 0 0), .bool true]) ?_ rfl ⟨rfl, ?_⟩
    · simp [results, Try.results74, go_sem, hz0, hz1, hz2, hz3]
    · exact (((hbl.setCell (by simp) _).setCell (by simp) _).setCell (by simp) _).setCell (by simp) _
set_option maxHeartbeats 1000000 in
theorem rtake_long (s : ByteArray) (w : World) (h1 : 32 < s.size) :
    Calls Try.prog 74 #[.string s] w fun e w' => e = .returned (.tuple #[V 0, .bool false]) ∧ Below w.heap.size w w' := by
  rw [V_zero]
  have hdc : decide (32 < (s.size : Int)) = true := by simp; omega
  go_enter Try.func74, Try.ntmps74
  go_wp2
  refine bodyPost_ret (v := .tuple #[.agg (A4 0 0 0 0), .bool false]) ?_ rfl ⟨rfl, ?_⟩
  · simp [results, Try.results74, go_sem]
  · exact (Below.refl _ _).alloc (Nat.le_refl _) _
set_option maxHeartbeats 1000000 in
theorem rtake_null (s : ByteArray) (w : World) (h1 : s.size ≤ 32) (hp : 0 < s.size) (hb : ((s[0].toNat : Int) == 0) = true) :
    Calls Try.prog 74 #[.string s] w fun e w' => e = .returned (.tuple #[V 0, .bool false]) ∧ Below w.heap.size w w' := by
  rw [V_zero]
  have hdc : decide (32 < (s.size : Int)) = false := by simp; omega
  have hdp : decide (0 < (s.size : Int)) = true := by simp; omega
  go_enter Try.func74, Try.ntmps74
  go_wp2
  refine bodyPost_ret (v := .tuple #[.agg (A4 0 0 0 0), .bool false]) ?_ rfl ⟨rfl, ?_⟩
  · simp [results, Try.results74, go_sem]
  · exact (Below.refl _ _).alloc (Nat.le_refl _) _
theorem rtake (s : ByteArray) (w : World) :
    Calls Try.prog 74 #[.string s] w fun e w' => e = .returned (.tuple #[V (tkV s), .bool (tkGood s)]) ∧ Below w.heap.size w w' := by
  by_cases h1 : s.size ≤ 32
  · by_cases hp : 0 < s.size
    · cases hb : ((s[0].toNat : Int) == 0) with
      | false =>
        have hg : tkGood s = true := by simp only [tkGood, head_zero s hp, hb]; simp [h1]
        have := rtake_pos s w h1 hp hb
        simpa only [tkV, hg, if_true] using this
      | true =>
        have hg : tkGood s = false := by simp only [tkGood, head_zero s hp, hb]; simp
        have := rtake_null s w h1 hp hb
        simpa only [tkV, hg, Bool.false_eq_true, if_false] using this
    · obtain rfl := empty_of s (by omega)
      exact rtake_empty w
  · have hg : tkGood s = false := by simp [tkGood, h1]
    have := rtake_long s w (by omega)
    simpa only [tkV, hg, Bool.false_eq_true, if_false] using this
end Go.Proofs.Ytapjonmgjccpbaa

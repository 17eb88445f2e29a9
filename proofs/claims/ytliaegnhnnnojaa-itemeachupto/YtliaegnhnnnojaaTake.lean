import Derived.Test.YtliaegnhnnnojaaTakeB
set_option linter.unusedSimpArgs false
set_option linter.unusedVariables false
namespace Go.Proofs.Ytliaegnhnnnojaa
open Go.RowKit
set_option maxHeartbeats 1000000 in
theorem take_pos (s : ByteArray) (w : World) (h1 : s.size ≤ 32) (hp : 0 < s.size) (hb : ((s[0].toNat : Int) == 0) = false) :
    Calls Try.prog 59 #[.string s] w fun e w' => e = .returned (.tuple #[V (takeV s.data.toList), .int .i64 0]) ∧ Below w.heap.size w w' := by
  have hne := ne_of_size s hp
  have hie : s.toList.isEmpty = false := by simp [hne]
  have hdc : decide (32 < (s.size : Int)) = false := by simp; omega
  go_enter Try.func59, Try.ntmps59
  go_wp2
  go_loopw [21] (fun i wr => ∃ (k : Nat), k ≤ s.size ∧ i = .int .i64 k ∧ Bk wr w.heap.size (A4 0 0 0 0) 93 ∧ Bk wr (w.heap.size + 1) (A4 (lb (takeV (s.data.toList.drop (s.size - k))) 0) (lb (takeV (s.data.toList.drop (s.size - k))) 1) (lb (takeV (s.data.toList.drop (s.size - k))) 2) (lb (takeV (s.data.toList.drop (s.size - k))) 3)) 93 ∧ Below w.heap.size w wr) (fun i _ => s.size - (intOf i).toNat)
  case atStart =>
    refine ⟨0, by omega, rfl, (Bk.new _ _ _).alloc _, ?_, ((Below.refl _ _).alloc (Nat.le_refl _) _).alloc (by simp) _⟩
    have e : takeV (s.data.toList.drop (s.size - 0)) = 0 := by rw [Nat.sub_zero, List.drop_of_length_le (by rw [data_len]; omega)]; rfl
    rw [e]
    simp only [lb_zero]
    exact Bk.new' _ _ _ (by simp)
  case round =>
    obtain ⟨k, hk, rfl, hz, hx, hbl⟩ := hrel
    by_cases hlt : k < s.size
    · have hst := drop_step s k hlt
      have hml := drop_lt s k hk
      have hmM : takeV (s.data.toList.drop (s.size - (k + 1))) < M256 := takeV_M _ (by rw [List.length_drop, data_len]; omega)
      generalize takeV (s.data.toList.drop (s.size - k)) = m at hx hst hml
      have h0 := by8_low m k hml
      rw [hst] at hmM
      have hor := limb_byte m s[s.size - 1 - k].toNat k hmM (by omega) (byte_lt _) h0
      rw [← or_byte m _ k (by omega) (byte_lt _) h0, ← hst] at hor
      have HO : Hid (_ = _) := hor
      clear hor hst hml hmM h0
      have hxk := lb_cells hx (k / 8) (by omega)
      have hxf := hx.frozen (k / 8)
      have hix := fun w => idx_str s ((s.size : Int) - 1 - k) (s.size - 1 - k) (by omega) (by omega) w
      go_wp2
      go_region
      go_wp2
      go_roundw
      case rel => exact ⟨k + 1, by omega, by go_num, (hz.other (by simp) _).drew, (hx.set _ _ HO.out).drew, (hbl.setCell (by simp) _).drew⟩
      case measure => simp [intOf]; omega
    · have ek : k = s.size := by omega
      subst ek
      rw [Nat.sub_self, List.drop_zero] at hx
      have hz0 := hz.cell 0
      have hz1 := hz.cell 1
      have hz2 := hz.cell 2
      have hz3 := hz.cell 3
      have hf0 := hz.frozen 0
      have hf1 := hz.frozen 1
      have hf2 := hz.frozen 2
      have hf3 := hz.frozen 3
      have hx0 := hx.cell 0
      have hx1 := hx.cell 1
      have hx2 := hx.cell 2
      have hx3 := hx.cell 3
      simp only [List.getElem?_toArray, List.getElem?_cons_zero, List.getElem?_cons_succ] at hz0 hz1 hz2 hz3 hx0 hx1 hx2 hx3
      go_wp2
      refine bodyPost_ret (v := .tuple #[V (takeV s.data.toList), .int .i64 0]) ?_ rfl ⟨rfl, ?_⟩
      · simp [results, Try.results59, go_sem, hz0, hz1, hz2, hz3]
      · exact (((hbl.setCell (by simp) _).setCell (by simp) _).setCell (by simp) _).setCell (by simp) _
theorem empty_of (s : ByteArray) (h : s.size = 0) : s = ⟨#[]⟩ := by
  obtain ⟨d⟩ := s
  have : d.size = 0 := h
  rw [Array.eq_empty_of_size_eq_zero this]
set_option maxHeartbeats 1000000 in
theorem take_empty (w : World) :
    Calls Try.prog 59 #[.string ⟨#[]⟩] w fun e w' => e = .returned (.tuple #[V 0, .int .i64 0]) ∧ Below w.heap.size w w' := by
  rw [V_zero]
  go_enter Try.func59, Try.ntmps59
  go_wp2
  go_loopw [21] (fun i wr => i = .int .i64 0 ∧ Bk wr w.heap.size (A4 0 0 0 0) 93 ∧ Bk wr (w.heap.size + 1) (A4 0 0 0 0) 93 ∧ Below w.heap.size w wr) (fun i _ => 0)
  case atStart => exact ⟨rfl, (Bk.new _ _ _).alloc _, Bk.new' _ _ _ (by simp), ((Below.refl _ _).alloc (Nat.le_refl _) _).alloc (by simp) _⟩
  case round =>
    obtain ⟨rfl, hz, hx, hbl⟩ := hrel
    have hz0 := hz.cell 0
    have hz1 := hz.cell 1
    have hz2 := hz.cell 2
    have hz3 := hz.cell 3
    have hf0 := hz.frozen 0
    have hf1 := hz.frozen 1
    have hf2 := hz.frozen 2
    have hf3 := hz.frozen 3
    have hx0 := hx.cell 0
    have hx1 := hx.cell 1
    have hx2 := hx.cell 2
    have hx3 := hx.cell 3
    simp only [List.getElem?_toArray, List.getElem?_cons_zero, List.getElem?_cons_succ] at hz0 hz1 hz2 hz3 hx0 hx1 hx2 hx3
    go_wp2
    refine bodyPost_ret (v := .tuple #[.agg (A4 0 0 0 0), .int .i64 0]) ?_ rfl ⟨rfl, ?_⟩
    · simp [results, Try.results59, go_sem, hz0, hz1, hz2, hz3]
    · exact (((hbl.setCell (by simp) _).setCell (by simp) _).setCell (by simp) _).setCell (by simp) _
set_option maxHeartbeats 1000000 in
theorem take_long (s : ByteArray) (w : World) (h1 : 32 < s.size) :
    Calls Try.prog 59 #[.string s] w fun e w' => e = .returned (.tuple #[V 0, .int .i64 1]) ∧ Below w.heap.size w w' := by
  rw [V_zero]
  have hdc : decide (32 < (s.size : Int)) = true := by simp; omega
  go_enter Try.func59, Try.ntmps59
  go_wp2
  refine bodyPost_ret (v := .tuple #[.agg (A4 0 0 0 0), .int .i64 1]) ?_ rfl ⟨rfl, ?_⟩
  · simp [results, Try.results59, go_sem]
  · exact (Below.refl _ _).alloc (Nat.le_refl _) _
set_option maxHeartbeats 1000000 in
theorem take_null (s : ByteArray) (w : World) (h1 : s.size ≤ 32) (hp : 0 < s.size) (hb : ((s[0].toNat : Int) == 0) = true) :
    Calls Try.prog 59 #[.string s] w fun e w' => e = .returned (.tuple #[V 0, .int .i64 1]) ∧ Below w.heap.size w w' := by
  rw [V_zero]
  have hne := ne_of_size s hp
  have hie : s.toList.isEmpty = false := by simp [hne]
  have hdc : decide (32 < (s.size : Int)) = false := by simp; omega
  go_enter Try.func59, Try.ntmps59
  go_wp2
  refine bodyPost_ret (v := .tuple #[.agg (A4 0 0 0 0), .int .i64 1]) ?_ rfl ⟨rfl, ?_⟩
  · simp [results, Try.results59, go_sem]
  · exact (Below.refl _ _).alloc (Nat.le_refl _) _
/-- Are these the bytes of a number? -/
def tkGood (s : ByteArray) : Bool := decide (s.size ≤ 32) && !(s.data.toList.head? == some 0)
def tkV (s : ByteArray) : Nat := if tkGood s then takeV s.data.toList else 0
def tkE (s : ByteArray) : Int := if tkGood s then 0 else 1
theorem head_zero (s : ByteArray) (hp : 0 < s.size) : (s.data.toList.head? == some 0) = ((s[0].toNat : Int) == 0) := by
  have e : s.data.toList.head? = some s[0] := by
    rw [List.head?_eq_getElem?, List.getElem?_eq_getElem (by rw [data_len]; exact hp)]; rfl
  rw [e, Bool.eq_iff_iff]
  simp [← UInt8.toNat_inj]
theorem tkV_lt (s : ByteArray) : tkV s < M256 := by
  unfold tkV
  split
  · next h => simp only [tkGood, Bool.and_eq_true, decide_eq_true_eq] at h; exact takeV_sM s h.1
  · decide
theorem take (s : ByteArray) (w : World) :
    Calls Try.prog 59 #[.string s] w fun e w' => e = .returned (.tuple #[V (tkV s), .int .i64 (tkE s)]) ∧ Below w.heap.size w w' := by
  by_cases h1 : s.size ≤ 32
  · by_cases hp : 0 < s.size
    · cases hb : ((s[0].toNat : Int) == 0) with
      | false =>
        have hg : tkGood s = true := by simp only [tkGood, head_zero s hp, hb]; simp [h1]
        have := take_pos s w h1 hp hb
        simpa only [tkV, tkE, hg, if_true] using this
      | true =>
        have hg : tkGood s = false := by simp only [tkGood, head_zero s hp, hb]; simp
        have := take_null s w h1 hp hb
        simpa only [tkV, tkE, hg, Bool.false_eq_true, if_false] using this
    · obtain rfl := empty_of s (by omega)
      exact take_empty w
  · have hg : tkGood s = false := by simp [tkGood, h1]
    have := take_long s w (by omega)
    simpa only [tkV, tkE, hg, Bool.false_eq_true, if_false] using this
end Go.Proofs.Ytliaegnhnnnojaa

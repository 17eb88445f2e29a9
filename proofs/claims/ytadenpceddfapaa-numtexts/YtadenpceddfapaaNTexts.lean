import Derived.Test.YtadenpceddfapaaRTake
import Derived.Test.YtadenpceddfapaaRText
import Derived.Test.YtadenpceddfapaaRBits
import Derived.Test.YtadenpceddfapaaPCmp0
import Derived.Test.YtadenpceddfapaaEql
import Derived.Test.YtadenpceddfapaaTold
import Derived.Deep.RegionHeld
import Derived.Deep.DeepCutAuto
set_option linter.unusedSimpArgs false
set_option linter.unusedVariables false
namespace Go.Proofs.Ytadenpceddfapaa
open Go.RowKit

def txt (n : Nat) : ByteArray := strOfNums (tnums n)
theorem text_t (n : Nat) (hn : n < M256) (w : World) : Calls Try.prog 27 #[V n] w fun e w' => e = .returned (.string (txt n)) ∧ Below w.heap.size w w' := text n hn w
theorem rtext_t (n : Nat) (hn : n < M256) (w : World) : Calls Try.prog 31 #[V n] w fun e w' => e = .returned (.string (txt n)) ∧ Below w.heap.size w w' := rtext n hn w
theorem txt_data (n : Nat) : (txt n).data.toList = (tnums n).map fun q => UInt8.ofNat q.toNat := by
  simp [txt, strOfNums]
theorem txt_size (n : Nat) : (txt n).size = tlen n := by
  rw [← data_len, txt_data]; simp [tnums_length]
theorem by8_bd (n i : Nat) : 0 ≤ by8 n i ∧ by8 n i < 256 := by unfold by8; omega
theorem u8_of (q : Int) (h : 0 ≤ q ∧ q < 256) : (UInt8.ofNat q.toNat).toNat = q.toNat := by
  simp only [UInt8.toNat_ofNat']; omega
/-- The bytes of a number, from the k-th on, are what of it is below 2^8k. -/
theorem take_tail (n : Nat) (k : Nat) (hk : k ≤ tlen n) : takeV (((tnums n).map fun q => UInt8.ofNat q.toNat).drop (tlen n - k)) = n % 2 ^ (8 * k) := by
  have hl : ((tnums n).map fun q => UInt8.ofNat q.toNat).length = tlen n := by simp [tnums_length]
  induction k with
  | zero => rw [List.drop_of_length_le (by omega)]; simp [takeV, Nat.mod_one]
  | succ k ih =>
    have ih := ih (by omega)
    rw [List.drop_eq_getElem_cons (by omega), takeV_cons]
    have e1 : tlen n - (k + 1) + 1 = tlen n - k := by omega
    have hl2 : (((tnums n).map fun q => UInt8.ofNat q.toNat).drop (tlen n - k)).length = k := by rw [List.length_drop, hl]; omega
    rw [e1, ih, hl2]
    have e2 : (((tnums n).map fun q => UInt8.ofNat q.toNat)[tlen n - (k + 1)]'(by omega)).toNat = n / 2 ^ (8 * k) % 256 := by
      simp only [List.getElem_map]
      rw [u8_of _ (by simp only [tnums, List.getElem_map]; exact by8_bd _ _)]
      simp only [tnums, List.getElem_map, List.getElem_range]
      rw [show tlen n - 1 - (tlen n - (k + 1)) = k by omega]
      unfold by8; omega
    rw [e2]
    have e3 : 8 * (k + 1) = 8 * k + 8 := by omega
    rw [e3, Nat.pow_add, Nat.mod_mul, Nat.mul_comm, Nat.add_comm]
theorem take_txt (n : Nat) (hn : n < M256) : takeV (txt n).data.toList = n := by
  rw [txt_data]
  have h := take_tail n (tlen n) (Nat.le_refl _)
  rw [Nat.sub_self, List.drop_zero] at h
  rw [h, Nat.mod_eq_of_lt]
  exact (bl_iff n _).1 (by unfold tlen; omega)
theorem good_txt (n : Nat) (hn : n < M256) : tkGood (txt n) = true := by
  have h1 : (txt n).size ≤ 32 := by rw [txt_size]; exact tlen_le n hn
  by_cases h0 : n = 0
  · subst h0; decide +kernel
  · obtain ⟨ht, hb⟩ := top_byte n h0
    have hp : 0 < (txt n).size := by rw [txt_size]; exact ht
    unfold tkGood
    rw [txt_data]
    have e : ((tnums n).map fun q => UInt8.ofNat q.toNat).head? = some (UInt8.ofNat (by8 n (tlen n - 1)).toNat) := by
      rw [List.head?_map, List.head?_eq_getElem?, List.getElem?_eq_getElem (by rw [tnums_length]; exact ht)]
      simp only [tnums, List.getElem_map, List.getElem_range, Option.map_some, Nat.sub_zero]
    rw [e]
    have hbd := by8_bd n (tlen n - 1)
    have hu := u8_of _ hbd
    have hne : ¬ UInt8.ofNat (by8 n (tlen n - 1)).toNat = 0 := by
      intro h
      have := congrArg UInt8.toNat h
      rw [hu] at this
      simp at this
      omega
    simp [h1, hne]
theorem take_good (n : Nat) (hn : n < M256) (w : World) : Calls Try.prog 28 #[.string (txt n)] w fun e w' => e = .returned (.tuple #[V n, .int .i64 0]) ∧ Below w.heap.size w w' := by
  have := take (txt n) w
  simpa only [tkV, tkE, good_txt n hn, if_true, take_txt n hn] using this
theorem take_bad (x : ByteArray) (h : tkGood x = false) (w : World) : Calls Try.prog 28 #[.string x] w fun e w' => e = .returned (.tuple #[V 0, .int .i64 1]) ∧ Below w.heap.size w w' := by
  have := take x w
  simpa only [tkV, tkE, h, Bool.false_eq_true, if_false] using this
theorem nul_bad (x : ByteArray) : tkGood (⟨#[0]⟩ ++ x) = false := by
  have e : (⟨#[0]⟩ ++ x : ByteArray).data.toList = 0 :: x.data.toList := by simp
  unfold tkGood
  rw [e]
  simp
set_option maxRecDepth 100000 in
set_option maxHeartbeats 2000000 in
theorem numTexts_walk (v : Value) (ns : List Nat) (w : World) (hs : Sl w v ns) :
    Calls Try.prog 6 #[v] w fun e w' => e = .returned (.bool true) ∧ Below w.heap.size w w' := by
  go_enter Try.func6, Try.ntmps6
  go_wp2_with (go_at_call 13; refine (all_x v ns w hs).mono ?_; rintro e w1 ⟨v1, rfl, hs1, hb1⟩)
  clear hs
  obtain ⟨xs, hxs⟩ : ∃ xs, xs = ends ++ ns.take 12 := ⟨_, rfl⟩
  rw [← hxs] at hs1
  clear hxs
  obtain ⟨ad, cap, rfl, hat⟩ := hs1.at
  have HA : Hid (∀ i (hi : i < xs.length), ∃ b off, ad = some ⟨b, off, none⟩ ∧ w1.cell? ⟨b, off + i * 4, none⟩ = some (.int .u64 (lb xs[i] 0)) ∧ w1.cell? ⟨b, off + i * 4 + 1, none⟩ = some (.int .u64 (lb xs[i] 1)) ∧ w1.cell? ⟨b, off + i * 4 + 2, none⟩ = some (.int .u64 (lb xs[i] 2)) ∧ w1.cell? ⟨b, off + i * 4 + 3, none⟩ = some (.int .u64 (lb xs[i] 3))) := hat
  have HS : Hid (Sl w1 (.slice ad xs.length cap) xs) := hs1
  have hlen : xs.length ≤ 9223372036854775807 := hs1.2.1
  have hsz1 := hb1.size
  clear hat hs1
  go_wp2_with fail
  go_loopw [4] (fun i wr => ∃ k : Nat, k ≤ xs.length ∧ i = .int .i64 k ∧ Below w1.heap.size w1 wr) (fun i _ => xs.length - (intOf i).toNat)
  case atStart => exact ⟨0, by omega, rfl, Below.refl _ _⟩
  case round =>
    obtain ⟨i, hi, rfl, hbo⟩ := hrel
    by_cases hlt : i < xs.length
    · have hszr := hbo.size
      obtain ⟨b, off, rfl, hc0, hc1, hc2, hc3⟩ := HA.out i hlt
      have Hn : Hid (xs[i] < M256) := HS.out.1 _ (List.getElem_mem hlt)
      generalize xs[i] = n at hc0 hc1 hc2 hc3 Hn
      have hbw : b < w1.heap.size := cell_lt hc0
      have hc0 := below_at hbo hbw hc0
      have hc1 := below_at hbo hbw hc1
      have hc2 := below_at hbo hbw hc2
      have hc3 := below_at hbo hbw hc3
      have hts : (txt n).size ≤ 32 := by rw [txt_size]; exact tlen_le n Hn.out
      go_upto_region 6 with (go_at_call 27; refine (text_t n Hn.out _).mono ?_; rintro e w2 ⟨rfl, hb2⟩)
      have hsz2 := hb2.size
      have hd0 := below_at hb2 (Nat.lt_of_lt_of_le hbw hszr) hc0
      have hd1 := below_at hb2 (Nat.lt_of_lt_of_le hbw hszr) hc1
      have hd2 := below_at hb2 (Nat.lt_of_lt_of_le hbw hszr) hc2
      have hd3 := below_at hb2 (Nat.lt_of_lt_of_le hbw hszr) hc3
      clear hc0 hc1 hc2 hc3
      have hbw2 : b < w2.heap.size := by omega
      go_cut [6, 7] (fun p e wx => ∃ B, p = .pointer (some ⟨B, 0, none⟩) ∧ w2.heap.size ≤ B ∧ Bk wx B (A4 (lb n 0) (lb n 1) (lb n 2) (lb n 3)) 26 ∧ e = .int .i64 0 ∧ Below w2.heap.size w2 wx)
      case first =>
        go_wp2_with (go_at_call 28; refine (take_good n Hn.out _).mono ?_; rintro e w3 ⟨rfl, hb3⟩)
        go_meet
        exact ⟨_, rfl, hb3.size, Bk.new _ _ _, rfl, hb3.alloc hb3.size _⟩
      case rest =>
        obtain ⟨B, rfl, hB, hkB, rfl, hbx⟩ := hcut
        obtain ⟨wa, rfl⟩ : ∃ wa : World, wa = wc := ⟨_, rfl⟩
        have hsza := hbx.size
        have hd0 := below_at hbx hbw2 hd0
        have hd1 := below_at hbx hbw2 hd1
        have hd2 := below_at hbx hbw2 hd2
        have hd3 := below_at hbx hbw2 hd3
        have hbwa : b < wa.heap.size := by omega
        go_upto_region 7 with fail
        go_cut [8, 9] (fun p e wx => e = .int .i64 1 ∧ Below wa.heap.size wa wx)
        case first =>
          go_wp2_with (go_at_call 28; refine (take_bad _ (nul_bad _) _).mono ?_; rintro e w3 ⟨rfl, hb3⟩)
          go_meet
          exact ⟨rfl, hb3.alloc hb3.size _⟩
        case rest =>
          obtain ⟨rfl, hby⟩ := hcut
          obtain ⟨wb, rfl⟩ : ∃ wb : World, wb = wc := ⟨_, rfl⟩
          have hszb := hby.size
          have hT : Two b (off + i * 4) B n n wb := ⟨below_at hby hbwa hd0, below_at hby hbwa hd1, below_at hby hbwa hd2, below_at hby hbwa hd3, below_at hby hkB.lt (hkB.cell 0), below_at hby hkB.lt (hkB.cell 1), below_at hby hkB.lt (hkB.cell 2), below_at hby hkB.lt (hkB.cell 3)⟩
          have hbs : Below wb.heap.size wb wb := Below.refl _ _
          have hne := fun w => neq26V n n Hn.out Hn.out w
          simp only [decide_true, Bool.not_true] at hne
          clear hd0 hd1 hd2 hd3 hkB
          go_upto_region 8 with fail
          go_region_held (fun w' => w'.cell? ⟨b, off + i * 4, none⟩ = some (.int .u64 (lb n 0)) ∧ w'.cell? ⟨b, off + i * 4 + 1, none⟩ = some (.int .u64 (lb n 1)) ∧ w'.cell? ⟨b, off + i * 4 + 2, none⟩ = some (.int .u64 (lb n 2)) ∧ w'.cell? ⟨b, off + i * 4 + 3, none⟩ = some (.int .u64 (lb n 3)) ∧ w'.cell? ⟨B, 0, none⟩ = some (.int .u64 (lb n 0)) ∧ w'.cell? ⟨B, 1, none⟩ = some (.int .u64 (lb n 1)) ∧ w'.cell? ⟨B, 2, none⟩ = some (.int .u64 (lb n 2)) ∧ w'.cell? ⟨B, 3, none⟩ = some (.int .u64 (lb n 3))) (first | exact Two.drew hT | exact hT) (first | (go_at_call 29; refine (bits n Hn.out _).mono ?_; rintro e w3 ⟨rfl, hb3⟩; (first | (have hT := Two.below (Two.drew hT) hb3; have hbs := below_step hbs hb3) | (have hT := Two.below hT hb3; have hbs := below_step2 hbs hb3))) | (go_at_call 30; refine (rbits n Hn.out _).mono ?_; rintro e w3 ⟨rfl, hb3⟩; (first | (have hT := Two.below (Two.drew hT) hb3; have hbs := below_step hbs hb3) | (have hT := Two.below hT hb3; have hbs := below_step2 hbs hb3))) | (go_at_call 31; refine (rtext_t n Hn.out _).mono ?_; rintro e w3 ⟨rfl, hb3⟩; (first | (have hT := Two.below (Two.drew hT) hb3; have hbs := below_step hbs hb3) | (have hT := Two.below hT hb3; have hbs := below_step2 hbs hb3))) | (go_at_call 25; refine (num_any _ _).mono ?_; rintro e w3 ⟨rfl, rfl⟩))
          have hbq : Below w1.heap.size w1 wb := ((hbo.trans (hb2.mono hszr)).trans (hbx.mono (by omega))).trans (hby.mono (by omega))
          clear hT hbo hb2 hbx hby
          go_wp2_with fail
          go_roundw
          case rel => exact ⟨i + 1, by omega, by go_num, hbq.trans (hbs.mono (by omega))⟩
          case measure => simp [intOf]; omega
    · have hszo := hbo.size
      go_wp2_with (first | (go_at_call 21; refine (wakes _).mono ?_; rintro e w4 ⟨rfl, hb4⟩))
      go_ret
      exact ⟨rfl, (hb1.trans (hbo.mono (by omega))).trans (hb4.mono (by omega))⟩
end Go.Proofs.Ytadenpceddfapaa

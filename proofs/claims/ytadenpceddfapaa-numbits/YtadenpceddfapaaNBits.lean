import Derived.Test.YtadenpceddfapaaWakes
import Derived.Test.YtadenpceddfapaaAll
import Derived.Test.YtadenpceddfapaaCmp
import Derived.Test.YtadenpceddfapaaPCmp0
import Derived.Test.YtadenpceddfapaaEql
import Derived.Deep.RegionHeld
import Derived.Deep.DeepCutAuto
set_option linter.unusedSimpArgs false
set_option linter.unusedVariables false
namespace Go.Proofs.Ytadenpceddfapaa
open Go.RowKit

theorem bl_le (n : Nat) (h : n < M256) : bl n ≤ 256 := (bl_iff n 256).2 (by unfold M256 at h; simpa using h)
theorem bl_zero_iff (n : Nat) : ((bl n : Int) == 0) = decide (n = 0) := by
  unfold bl
  by_cases h : n = 0
  · simp [h]
  · simp [h]; omega
theorem pow_lt (k : Nat) (h : k < 256) : 2 ^ k < M256 := by
  have : (2 : Nat) ^ k < 2 ^ 256 := Nat.pow_lt_pow_right (by omega) h
  unfold M256; simpa using this
theorem bl_pow (k : Nat) : bl (2 ^ k) = k + 1 := by
  unfold bl
  rw [if_neg (by have := Nat.two_pow_pos k; omega), Nat.log2_two_pow]
theorem below_pow (n : Nat) (h : n < M256) : cmpV n (2 ^ bl n) < 0 := by
  rw [cmpV_less ((bl_iff n (bl n)).1 (Nat.le_refl _))]; decide
theorem above_pow (n : Nat) (h : 0 < bl n) : 0 ≤ cmpV n (2 ^ (bl n - 1)) := by
  have h6 : ¬ bl n ≤ bl n - 1 := by omega
  rw [bl_iff] at h6
  unfold cmpV
  rw [if_neg (by omega)]
  split <;> omega
/-- One bit, set in four limbs. -/
theorem one_bit (k : Nat) (h : k < 256) : (A4 0 0 0 0).setIfInBounds (k / 64) (.int .u64 (IntKind.u64.wrap (2 ^ (k % 64)))) = A4 (lb (2 ^ k) 0) (lb (2 ^ k) 1) (lb (2 ^ k) 2) (lb (2 ^ k) 3) := by
  have hr : k % 64 < 64 := Nat.mod_lt _ (by omega)
  have hq : k / 64 = 0 ∨ k / 64 = 1 ∨ k / 64 = 2 ∨ k / 64 = 3 := by omega
  have ek : k = 64 * (k / 64) + k % 64 := by omega
  have hlt : (2 : Nat) ^ (k % 64) < 18446744073709551616 := by
    have : (2 : Nat) ^ (k % 64) < 2 ^ 64 := Nat.pow_lt_pow_right (by omega) hr
    exact this
  have hp := Nat.two_pow_pos (k % 64)
  have hw : IntKind.u64.wrap (2 ^ (k % 64)) = ((2 ^ (k % 64) : Nat) : Int) := by
    rw [IntKind.wrap_u64]
    have e : ((2 : Int) ^ (k % 64)) = ((2 ^ (k % 64) : Nat) : Int) := by push_cast; rfl
    rw [e]; omega
  rw [hw]
  generalize hp2 : (2 : Nat) ^ (k % 64) = p at *
  have hpk : 2 ^ k = 2 ^ (64 * (k / 64)) * p := by rw [← hp2, ← Nat.pow_add, ← ek]
  rw [hpk]
  have hv : Lim (if k / 64 = 0 then (p : Int) else 0) (if k / 64 = 1 then (p : Int) else 0) (if k / 64 = 2 then (p : Int) else 0) (if k / 64 = 3 then (p : Int) else 0) := by
    unfold Lim; refine ⟨?_, ?_, ?_, ?_⟩ <;> split <;> omega
  have hs : val (if k / 64 = 0 then (p : Int) else 0) (if k / 64 = 1 then (p : Int) else 0) (if k / 64 = 2 then (p : Int) else 0) (if k / 64 = 3 then (p : Int) else 0) = ((2 ^ (64 * (k / 64)) * p : Nat) : Int) := by
    rcases hq with e | e | e | e <;> rw [e] <;> simp [val] <;> omega
  obtain ⟨e0, e1, e2, e3⟩ := lb_of _ _ _ _ _ hv hs
  rw [← e0, ← e1, ← e2, ← e3]
  rcases hq with e | e | e | e <;> rw [e] <;> rfl
theorem tnums_size (n : Nat) : (strOfNums (tnums n)).size = tlen n := by
  simp [strOfNums, tnums, ByteArray.size]
theorem zero_at {w : World} {B : Nat} (h : Bk w B (A4 0 0 0 0) 26) (j : Nat) (hj : j < 4) : w.cell? ⟨B, j, none⟩ = some (.int .u64 0) := by
  rw [h.cell]
  have : j = 0 ∨ j = 1 ∨ j = 2 ∨ j = 3 := by omega
  rcases this with rfl | rfl | rfl | rfl <;> rfl
theorem two_at {w w' : World} {b o : Nat} {v : Value} (hb : Below w.heap.size w w') (hl : b < w.heap.size) (h : w.cell? ⟨b, o, none⟩ = some v) (j : Nat) (u : Value) : (w'.setCell ⟨w.heap.size, j, none⟩ u).cell? ⟨b, o, none⟩ = some v :=
  below_at ((Below.refl w.heap.size w').setCell (p := ⟨w.heap.size, j, none⟩) (Nat.le_refl _) u) hl (below_at hb hl h)
theorem bits_pow (k : Nat) (h : 2 ^ k < M256) (w : World) : Calls Try.prog 29 #[V (2 ^ k)] w fun e W' => e = .returned (.int .i64 ((k : Int) + 1)) ∧ Below w.heap.size w W' := by
  have := bits (2 ^ k) h w
  rw [bl_pow] at this
  exact this
set_option maxRecDepth 100000 in
set_option maxHeartbeats 2000000 in
theorem numBits_walk (v : Value) (ns : List Nat) (w : World) (hs : Sl w v ns) :
    Calls Try.prog 12 #[v] w fun e w' => e = .returned (.bool true) ∧ Below w.heap.size w w' := by
  go_enter Try.func12, Try.ntmps12
  go_wp2_with (go_at_call 13; refine (all_x v ns w hs).mono ?_; rintro e w1 ⟨v1, rfl, hs1, hb1⟩)
  clear hs
  obtain ⟨xs, hxs⟩ : ∃ xs, xs = ends ++ ns.take 12 := ⟨_, rfl⟩
  rw [← hxs] at hs1
  clear hxs
  obtain ⟨ad, cap, rfl, hat⟩ := hs1.at
  have HA : Hid (∀ i (hi : i < xs.length), ∃ b off, ad = some ⟨b, off, none⟩ ∧ w1.cell? ⟨b, off + i * 4, none⟩ = some (.int .u64 (lb xs[i] 0)) ∧ w1.cell? ⟨b, off + i * 4 + 1, none⟩ = some (.int .u64 (lb xs[i] 1)) ∧ w1.cell? ⟨b, off + i * 4 + 2, none⟩ = some (.int .u64 (lb xs[i] 2)) ∧ w1.cell? ⟨b, off + i * 4 + 3, none⟩ = some (.int .u64 (lb xs[i] 3))) := hat
  have HS : Hid (Sl w1 (.slice ad xs.length cap) xs) := hs1
  have hlen : xs.length ≤ 9223372036854775807 := hs1.2.1
  have hsz1 := hb1.size
  clear hat hs1
  go_wp2_with fail
  go_loopw [4] (fun i wr => ∃ k : Nat, k ≤ xs.length ∧ i = .int .i64 k ∧ Below w1.heap.size w1 wr) (fun i _ => xs.length - (intOf i).toNat)
  case atStart => exact ⟨0, by omega, rfl, Below.refl _ _⟩
  case round =>
    obtain ⟨i, hi, rfl, hbo⟩ := hrel
    by_cases hlt : i < xs.length
    · have hszr := hbo.size
      obtain ⟨b, off, rfl, hc0, hc1, hc2, hc3⟩ := HA.out i hlt
      have Hn : Hid (xs[i] < M256) := HS.out.1 _ (List.getElem_mem hlt)
      generalize xs[i] = n at hc0 hc1 hc2 hc3 Hn
      have hbw : b < w1.heap.size := cell_lt hc0
      have hc0 := below_at hbo hbw hc0
      have hc1 := below_at hbo hbw hc1
      have hc2 := below_at hbo hbw hc2
      have hc3 := below_at hbo hbw hc3
      have hbl := bl_le n Hn.out
      have hn0 : ¬ ((bl n : Int) < 0) := by omega
      have hn1 : ¬ (256 < (bl n : Int)) := by omega
      have hzi := bl_zero_iff n
      have heq := fun w => eql26_0 n Hn.out w
      go_upto_if 39 with (go_at_call 29; refine (bits n Hn.out _).mono ?_; rintro e w2 ⟨rfl, hb2⟩; have hsz2 := hb2.size; have hd0 := below_at hb2 (Nat.lt_of_lt_of_le hbw hszr) hc0; have hd1 := below_at hb2 (Nat.lt_of_lt_of_le hbw hszr) hc1; have hd2 := below_at hb2 (Nat.lt_of_lt_of_le hbw hszr) hc2; have hd3 := below_at hb2 (Nat.lt_of_lt_of_le hbw hszr) hc3)
      have hbww2 : b < w2.heap.size := by omega
      go_cut [] (fun wx => Below w2.heap.size w2 wx)
      case first =>
        by_cases h256 : bl n < 256
        · have hq4 : bl n / 64 < 4 := by omega
          go_upto_region 9 with fail
          go_cut [6] (fun p wx => p = .pointer (some ⟨w2.heap.size, 0, none⟩) ∧ Bk wx w2.heap.size (A4 0 0 0 0) 26 ∧ Below w2.heap.size w2 wx)
          case first =>
            go_wp2_with fail
            go_meet
            exact ⟨rfl, Bk.new _ _ _, (Below.refl _ _).alloc (Nat.le_refl _) _⟩
          case rest =>
            obtain ⟨rfl, hk, hbx⟩ := hcut
            obtain ⟨wa, rfl⟩ : ∃ wa : World, wa = wc := ⟨_, rfl⟩
            have hkc := zero_at hk (bl n / 64) hq4
            have hkf := hk.frozen (bl n / 64)
            have hk' := hk.set (bl n / 64) _ (one_bit (bl n) (by omega))
            have hT : Two b (off + i * 4) w2.heap.size n (2 ^ (bl n)) _ := ⟨two_at hbx hbww2 hd0 _ _, two_at hbx hbww2 hd1 _ _, two_at hbx hbww2 hd2 _ _, two_at hbx hbww2 hd3 _ _, hk'.cell 0, hk'.cell 1, hk'.cell 2, hk'.cell 3⟩
            have hbs : Below w2.heap.size w2 _ := hbx.setCell (p := ⟨w2.heap.size, bl n / 64, none⟩) (Nat.le_refl _) (.int .u64 (IntKind.u64.wrap (2 ^ (bl n % 64))))
            clear hbx hk hk'
            go_upto_region 11 with fail
            generalize wa.setCell ⟨w2.heap.size, bl n / 64, none⟩ (.int .u64 (IntKind.u64.wrap (2 ^ (bl n % 64)))) = wb at hT hbs ⊢
            have hcm := below_pow n Hn.out
            have hcd : decide (0 ≤ cmpV n (2 ^ bl n)) = false := by simp; omega
            have hne : (((bl n : Int) + 1) != IntKind.i64.wrap ((bl n : Int) + 1)) = false := by rw [IntKind.wrap_i64, bne_eq_false_iff_eq]; omega
            have Hp : Hid (2 ^ bl n < M256) := pow_lt _ h256
            have hsb := hbs.size
            clear hkc hkf
            go_region_held (fun w' => w'.cell? ⟨b, off + i * 4, none⟩ = some (.int .u64 (lb n 0)) ∧ w'.cell? ⟨b, off + i * 4 + 1, none⟩ = some (.int .u64 (lb n 1)) ∧ w'.cell? ⟨b, off + i * 4 + 2, none⟩ = some (.int .u64 (lb n 2)) ∧ w'.cell? ⟨b, off + i * 4 + 3, none⟩ = some (.int .u64 (lb n 3)) ∧ w'.cell? ⟨w2.heap.size, 0, none⟩ = some (.int .u64 (lb (2 ^ bl n) 0)) ∧ w'.cell? ⟨w2.heap.size, 1, none⟩ = some (.int .u64 (lb (2 ^ bl n) 1)) ∧ w'.cell? ⟨w2.heap.size, 2, none⟩ = some (.int .u64 (lb (2 ^ bl n) 2)) ∧ w'.cell? ⟨w2.heap.size, 3, none⟩ = some (.int .u64 (lb (2 ^ bl n) 3))) (first | exact Two.drew hT | exact hT) (first | (go_at_call 19; refine (cmp n (2 ^ bl n) Hn.out Hp.out _).mono ?_; rintro e w3 ⟨rfl, hb3⟩; have hT := Two.below (Two.drew hT) hb3; have hbs := below_step hbs hb3) | (go_at_call 29; refine (bits_pow (bl n) Hp.out _).mono ?_; rintro e w4 ⟨rfl, hb4⟩; have hT := Two.below hT hb4; have hbs := below_step2 hbs hb4))
            go_wp2_with fail
            go_meet
            exact hbs
        · go_wp2_with fail
          go_meet
          exact Below.refl _ _
      case rest =>
        obtain ⟨wq, rfl⟩ : ∃ wq : World, wq = wc := ⟨_, rfl⟩
        have hszq := hcut.size
        have hd0 := below_at hcut hbww2 hd0
        have hd1 := below_at hcut hbww2 hd1
        have hd2 := below_at hcut hbww2 hd2
        have hd3 := below_at hcut hbww2 hd3
        have hbwwq : b < wq.heap.size := by omega
        have hbq : Below w1.heap.size w1 wq := (hbo.trans (hb2.mono hszr)).trans (hcut.mono (by omega))
        clear hcut
        go_upto_if 61 with fail
        go_cut [5] (fun s wx => s = .int .i64 (bl n) ∧ Below wq.heap.size wq wx)
        case first =>
          by_cases hpos : 0 < bl n
          · obtain ⟨m, hm⟩ : ∃ m, bl n = m + 1 := ⟨bl n - 1, by omega⟩
            have hap := above_pow n hpos
            rw [hm, Nat.add_sub_cancel] at hap
            have hm255 : m ≤ 255 := by omega
            rw [hm]
            have HM : Hid (bl n = m + 1) := hm
            clear hm hpos hbl hn0 hn1 hzi
            have hq4 : m / 64 < 4 := by omega
            go_upto_region 14 with fail
            go_cut [7] (fun p wx => p = .pointer (some ⟨wq.heap.size, 0, none⟩) ∧ Bk wx wq.heap.size (A4 0 0 0 0) 26 ∧ Below wq.heap.size wq wx)
            case first =>
              go_wp2_with fail
              go_meet
              exact ⟨rfl, Bk.new _ _ _, (Below.refl _ _).alloc (Nat.le_refl _) _⟩
            case rest =>
              obtain ⟨rfl, hk, hbx⟩ := hcut
              obtain ⟨wa, rfl⟩ : ∃ wa : World, wa = wc := ⟨_, rfl⟩
              have hkc := zero_at hk (m / 64) hq4
              have hkf := hk.frozen (m / 64)
              have hk' := hk.set (m / 64) _ (one_bit m (by omega))
              have hT : Two b (off + i * 4) wq.heap.size n (2 ^ m) _ := ⟨two_at hbx hbwwq hd0 _ _, two_at hbx hbwwq hd1 _ _, two_at hbx hbwwq hd2 _ _, two_at hbx hbwwq hd3 _ _, hk'.cell 0, hk'.cell 1, hk'.cell 2, hk'.cell 3⟩
              have hbs : Below wq.heap.size wq _ := hbx.setCell (p := ⟨wq.heap.size, m / 64, none⟩) (Nat.le_refl _) (.int .u64 (IntKind.u64.wrap (2 ^ (m % 64))))
              clear hbx hk hk'
              go_upto_region 16 with fail
              generalize wa.setCell ⟨wq.heap.size, m / 64, none⟩ (.int .u64 (IntKind.u64.wrap (2 ^ (m % 64)))) = wb at hT hbs ⊢
              have hcd : decide (cmpV n (2 ^ m) < 0) = false := by simp; omega
              have Hp : Hid (2 ^ m < M256) := pow_lt _ (by omega)
              have hsb := hbs.size
              clear hkc hkf
              go_region_held (fun w' => w'.cell? ⟨b, off + i * 4, none⟩ = some (.int .u64 (lb n 0)) ∧ w'.cell? ⟨b, off + i * 4 + 1, none⟩ = some (.int .u64 (lb n 1)) ∧ w'.cell? ⟨b, off + i * 4 + 2, none⟩ = some (.int .u64 (lb n 2)) ∧ w'.cell? ⟨b, off + i * 4 + 3, none⟩ = some (.int .u64 (lb n 3)) ∧ w'.cell? ⟨wq.heap.size, 0, none⟩ = some (.int .u64 (lb (2 ^ m) 0)) ∧ w'.cell? ⟨wq.heap.size, 1, none⟩ = some (.int .u64 (lb (2 ^ m) 1)) ∧ w'.cell? ⟨wq.heap.size, 2, none⟩ = some (.int .u64 (lb (2 ^ m) 2)) ∧ w'.cell? ⟨wq.heap.size, 3, none⟩ = some (.int .u64 (lb (2 ^ m) 3))) (first | exact Two.drew hT | exact hT) (first | (go_at_call 19; refine (cmp n (2 ^ m) Hn.out Hp.out _).mono ?_; rintro e w3 ⟨rfl, hb3⟩; have hT := Two.below (Two.drew hT) hb3; have hbs := below_step hbs hb3))
              go_wp2_with fail
              go_meet
              exact ⟨by rw [HM.out]; go_num, hbs⟩
          · go_wp2_with fail
            go_meet
            exact ⟨rfl, Below.refl _ _⟩
        case rest =>
          obtain ⟨rfl, hcx⟩ := hcut
          have hd0 := below_at hcx hbwwq hd0
          have hd1 := below_at hcx hbwwq hd1
          have hd2 := below_at hcx hbwwq hd2
          have hd3 := below_at hcx hbwwq hd3
          have hszc := hcx.size
          have hts : ((tlen n : Int) != ((bl n : Int) + 7) / 8) = false := by unfold tlen; rw [bne_eq_false_iff_eq]; omega
          have htz := tnums_size n
          go_wp2_with (go_at_call 27; refine (text n Hn.out _).mono ?_; rintro e w5 ⟨rfl, hb5⟩)
          go_roundw
          case rel => exact ⟨i + 1, by omega, by go_num, (hbq.trans (hcx.mono (by omega))).trans (hb5.mono (by omega))⟩
          case measure => simp [intOf]; omega
    · have hszo := hbo.size
      go_wp2_with (first | (go_at_call 21; refine (wakes _).mono ?_; rintro e w4 ⟨rfl, hb4⟩) | go_in)
      go_ret
      exact ⟨rfl, (hb1.trans (hbo.mono (by omega))).trans (hb4.mono (by omega))⟩
end Go.Proofs.Ytadenpceddfapaa

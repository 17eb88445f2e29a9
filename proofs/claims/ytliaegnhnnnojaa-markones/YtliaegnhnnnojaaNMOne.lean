import Derived.Test.YtliaegnhnnnojaaSsl
import Derived.Test.YtliaegnhnnnojaaSb
import Derived.Test.YtliaegnhnnnojaaWithin
import Derived.Deep.RegionWith
set_option linter.unusedSimpArgs false
set_option linter.unusedVariables false
namespace Go.Proofs.Ytliaegnhnnnojaa
open Go.RowKit

/-! tarnlaw5.MarkOnes, walked. -/
theorem mul_inj (x y : Nat) (hx : x < 18446744073709551616) (hy : y < 18446744073709551616) (h : x * 1099511628211 % 18446744073709551616 = y * 1099511628211 % 18446744073709551616) : x = y := by
  have inv : ∀ z, z < 18446744073709551616 → z * 1099511628211 % 18446744073709551616 * 14886173955864302971 % 18446744073709551616 = z := by
    intro z hz
    rw [Nat.mod_mul_mod, Nat.mul_assoc, Nat.mul_mod, show 1099511628211 * 14886173955864302971 % 18446744073709551616 = 1 by decide, Nat.mul_one, Nat.mod_mod, Nat.mod_eq_of_lt hz]
  rw [← inv x hx, ← inv y hy, h]
theorem mstep_inj (m m' b : Nat) (hm : m < 18446744073709551616) (hm' : m' < 18446744073709551616) (hb : b < 256) (h : mstep m b = mstep m' b) : m = m' := by
  have h1 : m ^^^ b < 2 ^ 64 := Nat.xor_lt_two_pow (by omega) (by omega)
  have h2 : m' ^^^ b < 2 ^ 64 := Nat.xor_lt_two_pow (by omega) (by omega)
  have e := mul_inj _ _ (by omega) (by omega) h
  have e2 := congrArg (fun z => z ^^^ b) e
  simpa [Nat.xor_assoc] using e2
theorem mstep_byte (m b b' : Nat) (hm : m < 18446744073709551616) (hb : b < 256) (hb' : b' < 256) (h : mstep m b = mstep m b') : b = b' := by
  have h1 : m ^^^ b < 2 ^ 64 := Nat.xor_lt_two_pow (by omega) (by omega)
  have h2 : m ^^^ b' < 2 ^ 64 := Nat.xor_lt_two_pow (by omega) (by omega)
  have e := mul_inj _ _ (by omega) (by omega) h
  have e2 := congrArg (fun z => m ^^^ z) e
  simpa [← Nat.xor_assoc] using e2
def mkl (i : Nat) (l : List UInt8) : Nat := l.foldl (fun m b => mstep m b.toNat) i
theorem mkl_lt (l : List UInt8) : ∀ i, i < 18446744073709551616 → mkl i l < 18446744073709551616 := by
  induction l with
  | nil => intro i h; exact h
  | cons x l ih => intro i h; unfold mkl; rw [List.foldl_cons]; exact ih _ (mstep_lt _ _)
theorem mkl_inj (l : List UInt8) : ∀ i j, i < 18446744073709551616 → j < 18446744073709551616 → mkl i l = mkl j l → i = j := by
  induction l with
  | nil => intro i j _ _ h; exact h
  | cons x l ih =>
    intro i j hi hj h
    unfold mkl at h
    rw [List.foldl_cons, List.foldl_cons] at h
    exact mstep_inj _ _ _ hi hj (byte_lt x) (ih _ _ (mstep_lt _ _) (mstep_lt _ _) h)
theorem ees_bytes (s : ByteArray) : (ees s s.size).map Prod.snd = s.data.toList := by
  apply List.ext_getElem
  · simp [ees, data_len]
  · intro i h1 h2
    have hi : i < s.size := by rw [← data_len]; exact h2
    simp only [ees, List.getElem_map, List.getElem_range]
    unfold byt
    rw [List.getD_eq_getElem?_getD, List.getElem?_eq_getElem h2]
    rfl
theorem mkg_mkl (l : List (Nat × UInt8)) : ∀ i, mkg i l = mkl i (l.map Prod.snd) := by
  induction l with
  | nil => intro i; rfl
  | cons x l ih => intro i; unfold mkg mkl; rw [List.foldl_cons, List.map_cons, List.foldl_cons]; exact ih _
theorem mk_mkl (s : ByteArray) : mk s = mkl 14695981039346656037 s.data.toList := by
  unfold mk mkf
  rw [mkg_mkl, ees_bytes]
theorem mk_set (s : ByteArray) (k : Nat) (c : UInt8) (hk : k < s.size) (hc : c ≠ s[k]) : mk ⟨(s.data.toList.set k c).toArray⟩ ≠ mk s := by
  intro h
  have hl : k < s.data.toList.length := by rw [data_len]; exact hk
  rw [mk_mkl, mk_mkl] at h
  simp only [List.toList_toArray] at h
  have e1 : s.data.toList = s.data.toList.take k ++ s.data.toList[k] :: s.data.toList.drop (k + 1) := by rw [List.getElem_cons_drop, List.take_append_drop]
  have e2 : s.data.toList.set k c = s.data.toList.take k ++ c :: s.data.toList.drop (k + 1) := by rw [List.set_eq_take_append_cons_drop, if_pos hl]
  rw [e2] at h
  conv at h => rhs; rw [e1]
  unfold mkl at h
  rw [List.foldl_append, List.foldl_append, List.foldl_cons, List.foldl_cons] at h
  have h0 := mkl_lt (s.data.toList.take k) 14695981039346656037 (by omega)
  have h1 := mkl_inj (s.data.toList.drop (k + 1)) _ _ (mstep_lt _ _) (mstep_lt _ _) h
  have h2 := mstep_byte _ _ _ h0 (byte_lt _) (byte_lt _) h1
  apply hc
  exact UInt8.toNat_inj.1 h2
theorem bstep {n : Nat} {a b c : World} (h : Below n a b) (h2 : Below b.drew.heap.size b.drew c) (hn : n ≤ a.heap.size := by exact Nat.le_refl _) : Below n a c :=
  h.drew.trans (h2.mono (Nat.le_trans hn h.size))
theorem bstep2 {n : Nat} {a b c : World} (h : Below n a b) (h2 : Below b.heap.size b c) (hn : n ≤ a.heap.size := by exact Nat.le_refl _) : Below n a c :=
  h.trans (h2.mono (Nat.le_trans hn h.size))
theorem num55 (w : World) : Calls Try.prog 31 #[.int .i64 5, .int .i64 5] w fun e w' => e = .returned (.bool true) ∧ w' = w := by
  go_enter Try.func31, Try.ntmps31
  go_wp2
  go_ret
  exact ⟨rfl, rfl⟩
set_option maxRecDepth 100000 in
set_option maxHeartbeats 4000000 in
theorem markOnes_walk (v : Value) (f : Nat → ByteArray) (len : Nat) (w : World) (hs : Ss w v f len) :
    Calls Try.prog 10 #[v] w fun e w' => e = .returned (.bool true) ∧ Below w.heap.size w w' := by
  obtain ⟨hlen, hfs, ad, cap, rfl, hat⟩ := hs
  unfold maxLen at hlen
  have HF : Hid (∀ i, i < len → (f i).size ≤ maxLen) := hfs
  have HA : Hid (∀ i, i < len → ∃ b off, ad = some ⟨b, off, none⟩ ∧ w.cell? ⟨b, off + i, none⟩ = some (.string (f i))) := hat
  clear hat hfs
  go_enter Try.func10, Try.ntmps10
  go_wp2_with fail
  go_loopw [3] (fun i wr => ∃ k : Nat, k ≤ len ∧ k ≤ 15 ∧ i = .int .i64 k ∧ Below w.heap.size w wr) (fun i _ => len - (intOf i).toNat)
  case atStart => exact ⟨0, by omega, by omega, rfl, Below.refl _ _⟩
  case round =>
    obtain ⟨i, hi, hi20, rfl, hbo⟩ := hrel
    have hszr := hbo.size
    by_cases hlt : i < len
    · have hlt' : (i : Int) < (len : Int) := by omega
      by_cases hlt2 : i < 15
      · have hlt2' : (i : Int) < 15 := by omega
        obtain ⟨b, off, rfl, hc⟩ := HA.out i hlt
        have hfz := HF.out i hlt
        unfold maxLen at hfz
        have hbw : b < w.heap.size := cell_lt' hc
        have hc := (hbo.cell (p := ⟨b, off + i, none⟩) hbw).trans hc
        generalize f i = s at hc hfz
        by_cases h3 : s.size ≤ 3000
        · have h3' : ¬ 3000 < (s.size : Int) := by omega
          by_cases h0 : s.size = 0
          · have h0' : ((s.size : Int) == 0) = true := by rw [beq_iff_eq]; omega
            go_wp2_with fail
            go_roundw
            case rel => exact ⟨i + 1, by omega, by omega, by go_num, hbo⟩
            case measure => simp [intOf]; omega
          · have h0' : ((s.size : Int) == 0) = false := by rw [beq_eq_false_iff_ne]; omega
            obtain ⟨W, bc, hcv, hsb, hbW, hWz, hbc⟩ := sb_new s wr
            have HSb : Hid (Sb W wr.heap.size s.data.toList) := hsb
            have hlenS : s.data.toList.length = s.size := data_len s
            have hwi := fun w => within (((i * 7 : Nat)) : Int) s.size (by omega) (by omega) w
            rw [show (((i * 7 : Nat)) : Int) = (i : Int) * 7 by omega] at hwi
            have hcW := (hbW.cell (cell_lt' hc)).trans hc
            clear hsb
            go_wp2_with fail
            refine (hwi _).mono ?_
            rintro e w1 ⟨⟨k, hk, rfl⟩, rfl⟩
            clear hcv hwi hc
            obtain ⟨c, hcx, hcv⟩ := xor_other s[k] (1 + i) (by omega) (by omega)
            have hne : mk ⟨(s.data.toList.set k c).toArray⟩ ≠ mk s := mk_set s k c hk hcx
            have hkc := HSb.out.cell k (by omega)
            have hkf := HSb.out.frozen k (by omega)
            have e9 : s.data.toList[k]'(by omega) = s[k] := rfl
            rw [e9] at hkc
            have e8 : ((1 + i : Nat) : Int) = 1 + (i : Int) := by omega
            rw [e8] at hcv
            go_wp2_with fail
            have hsb2 := HSb.out.set k c
            have hc2 : (w1.setCell ⟨wr.heap.size, k, none⟩ (.int .u8 (c.toNat : Int))).cell? ⟨b, off + i, none⟩ = some (.string s) := by
              rw [World.cell?_of_block (w := w1) (Below.heap_setCell w1 _ _ b (by show b ≠ wr.heap.size; omega))]; exact hcW
            have hB2 : Below w.heap.size w (w1.setCell ⟨wr.heap.size, k, none⟩ (.int .u8 (c.toNat : Int))) := (hbo.trans (hbW.mono hszr)).setCell (p := ⟨wr.heap.size, k, none⟩) hszr _
            generalize w1.setCell ⟨wr.heap.size, k, none⟩ (.int .u8 (c.toNat : Int)) = U at *
            have hl2 : s.size = (s.data.toList.set k c).length := by rw [List.length_set, hlenS]
            have hst1 := hsb2.drew.string s.size bc hl2
            have hst0 := hsb2.string s.size bc hl2
            have HS1 : Hid (s.size ≤ 4611686018427387904) := by show _ ≤ _; omega
            have HS2 : Hid (ByteArray.size ⟨(s.data.toList.set k c).toArray⟩ ≤ 4611686018427387904) := by show (s.data.toList.set k c).toArray.size ≤ _; simp; have := HS1.out; exact this
            have hneb : ((mk ⟨(s.data.toList.set k c).toArray⟩ : Int) == (mk s : Int)) = false := by rw [beq_eq_false_iff_ne]; omega
            have HM : Hid (∀ W, Calls Try.prog 23 #[.string s] W fun e w' => e = .returned (.int .u64 (mk s : Int)) ∧ Below W.heap.size W w') := fun w => mark s HS1.out w
            have HMc : Hid (∀ W, Calls Try.prog 23 #[.string ⟨(s.data.toList.set k c).toArray⟩] W fun e w' => e = .returned (.int .u64 (mk ⟨(s.data.toList.set k c).toArray⟩ : Int)) ∧ Below W.heap.size W w') := fun w => mark _ HS2.out w
            have HX : Hid (∀ w, Calls Try.prog 27 #[.int .u64 (mk s : Int)] w fun e w' => e = .returned (.string ⟨(mbs (mk s)).toArray⟩) ∧ Below w.heap.size w w') := fun w => mtext _ (mk_lt s) w
            generalize (⟨(s.data.toList.set k c).toArray⟩ : ByteArray) = sc at *
            clear e9 hcW hkc hkf hcv hbW hWz hcx hne hl2 hsb2 HSb e8 hst0 HF HA
            clear hlenS
            have hbU := cell_lt' hc2
            have hbs : Below U.heap.size U U := Below.refl _ _
            go_region_with (go_at_call 23; refine (mark _ (by first | exact HS1.out | exact HS2.out) _).mono ?_; rintro e w3 ⟨rfl, hb3⟩; (first | have hbs := bstep hbs hb3 | have hbs := bstep2 hbs hb3); have hc3 := (hbs.cell (p := ⟨b, off + i, none⟩) hbU).trans hc2)
            all_goals
              have hB3 := hB2.trans (hbs.mono hB2.size)
              clear hst1 hbs hc2 hneb HS2 HMc hB2 hbo hbU
              go_wp2_with fail
              refine (HM.out _).mono ?_
              rintro e w4 ⟨rfl, hb4⟩
              have hB3 := hB3.trans (hb4.mono hB3.size)
              clear hb4 hc3
              go_wp2_with fail
              refine (HX.out _).mono ?_
              rintro e w5 ⟨rfl, hb5⟩
              have hB3 := hB3.trans (hb5.mono hB3.size)
              clear hb5
              obtain ⟨tx, htx⟩ : ∃ tx : ByteArray, tx = ⟨(mbs (mk s)).toArray⟩ := ⟨_, rfl⟩
              have htz : tx.size = 8 := by rw [htx]; rfl
              have htz' : (tx.size : Int) = 8 := by omega
              rw [← htx]
              clear htx HM HX
              have HT7 : Hid (∀ W, Calls Try.prog 24 #[.string (tx.extract 0 7)] W fun e w' => e = .returned (.tuple #[.int .u64 (mtV (tx.extract 0 7) : Int), .bool false]) ∧ Below W.heap.size W w') := fun W => by
                have hz : (tx.extract 0 7).size = 7 := by rw [ByteArray.size_extract]; omega
                have h := mtake (tx.extract 0 7) (by omega) W
                rw [beq_eq_false_iff_ne.2 (show (tx.extract 0 7).size ≠ 8 by omega)] at h
                exact h
              have HT9 : Hid (∀ W, Calls Try.prog 24 #[.string (tx ++ ⟨#[120]⟩)] W fun e w' => e = .returned (.tuple #[.int .u64 (mtV (tx ++ ⟨#[120]⟩) : Int), .bool false]) ∧ Below W.heap.size W w') := fun W => by
                have hz : (tx ++ ⟨#[120]⟩).size = 9 := by rw [ByteArray.size_append, htz]; rfl
                have h := mtake (tx ++ ⟨#[120]⟩) (by omega) W
                rw [beq_eq_false_iff_ne.2 (show (tx ++ ⟨#[120]⟩).size ≠ 8 by omega)] at h
                exact h
              go_wp2_with fail
              refine (HT7.out _).mono ?_
              rintro e w6 ⟨rfl, hb6⟩
              have hB3 := hB3.trans (hb6.mono hB3.size)
              clear hb6 HT7
              go_wp2_with fail
              refine (HT9.out _).mono ?_
              rintro e w7 ⟨rfl, hb7⟩
              have hB3 := hB3.trans (hb7.mono hB3.size)
              clear hb7 HT9
              go_wp2_with fail
              go_roundw
              case rel => exact ⟨i + 1, by omega, by omega, by go_num, hB3⟩
              case measure => simp [intOf]; omega
        · have h3' : 3000 < (s.size : Int) := by omega
          go_wp2_with fail
          go_roundw
          case rel => exact ⟨i + 1, by omega, by omega, by go_num, hbo⟩
          case measure => simp [intOf]; omega
      · have hlt2' : ¬ (i : Int) < 15 := by omega
        go_wp2_with (first | (go_at_call 31; refine (num55 _).mono ?_; rintro e w1 ⟨rfl, rfl⟩) | (go_at_call 29; refine (wakes5 _).mono ?_; rintro e w1 ⟨rfl, hb1⟩))
        go_ret
        exact ⟨rfl, hbo.trans (hb1.mono hszr)⟩
    · have hlt' : ¬ (i : Int) < (len : Int) := by omega
      go_wp2_with (first | (go_at_call 31; refine (num55 _).mono ?_; rintro e w1 ⟨rfl, rfl⟩) | (go_at_call 29; refine (wakes5 _).mono ?_; rintro e w1 ⟨rfl, hb1⟩))
      go_ret
      exact ⟨rfl, hbo.trans (hb1.mono hszr)⟩
end Go.Proofs.Ytliaegnhnnnojaa

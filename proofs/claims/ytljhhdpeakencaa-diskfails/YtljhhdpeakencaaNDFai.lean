import Derived.Test.YtljhhdpeakencaaFa9
import Derived.Test.YtljhhdpeakencaaPgN
import Derived.Deep.CutBlock
set_option linter.unusedSimpArgs false
set_option linter.unusedVariables false
namespace Go.Proofs.Ytljhhdpeakencaa
open Go.RowKit

/-! tarnlaw9.DiskFails, walked. -/
def stB (l : List UInt8) : ByteArray := ⟨l.toArray⟩
theorem stB_size (l : List UInt8) : (stB l).size = l.length := by simp [stB, ByteArray.size]
theorem stB_app (l m : List UInt8) : stB l ++ stB m = stB (l ++ m) := by
  apply ByteArray.ext
  simp [stB, ByteArray.data_append]
/-- A row of a byte that is our own. -/
theorem ow_one (w : World) (x : UInt8) (base : Nat) (hb : base ≤ w.heap.size) : Ow (w.alloc (.cells #[.int .u8 (x.toNat : Int)] 5)) base (.slice (some ⟨w.heap.size, 0, none⟩) 1 1) [x] :=
  ⟨rfl, .inr ⟨w.heap.size, 1, #[.int .u8 (x.toNat : Int)], rfl, hb, Bk.new _ _ _, Nat.le_refl _, by unfold maxLen; omega, rfl, rfl⟩⟩
set_option maxRecDepth 100000 in
set_option maxHeartbeats 16000000 in
theorem diskFails_walk (w : World) (fv : Value) (la : Option Addr) (lm lc : Nat) (hlm : lm ≤ 9223372036854775807) :
    Calls Try.prog 6 #[.agg #[fv, .slice la lm lc]] w fun e w' => e = .returned (.bool true) ∧ Below w.heap.size w w' := by
  have hnum : ∀ (n : Int) W, Calls Try.prog 26 #[.int .i64 n] W fun e w' => e = .returned (.int .i64 n) ∧ w' = W := fun n W => lnum n W
  have HNum : Hid _ := hnum
  have HNew : Hid (∀ W, Calls Try.prog 23 #[.slice none 0 0] W fun e w' => e = .returned (.tuple #[.pointer (some ⟨W.heap.size, 0, none⟩), .int .i64 0]) ∧ Below W.heap.size W w' ∧ ∃ O, D1 W w' W.heap.size O (dsN [] 8)) := fun W => d1New W _ [] (Rl.nil9 W) (.inl rfl) sml_nil
  clear hnum
  go_enter Try.func6, Try.ntmps6
  go_upto_region 1 with fail
  obtain ⟨W0, hW0⟩ : ∃ W0, W0 = w.alloc (.cells #[fv, .slice la lm lc] 25) := ⟨_, rfl⟩
  rw [← hW0]
  have hX : Bk W0 w.heap.size #[fv, .slice la lm lc] 25 := by rw [hW0]; exact Bk.new _ _ _
  have hB0 : Below w.heap.size w W0 := by rw [hW0]; exact (Below.refl _ _).alloc (Nat.le_refl _) _
  have HB0 : Hid (Below w.heap.size w W0) := hB0
  clear hW0
  have x1 := hX.cell 1
  have xl := hX.lt
  simp only [List.getElem?_toArray, List.getElem?_cons_zero, List.getElem?_cons_succ] at x1
  obtain ⟨X, hXx⟩ : ∃ X, X = w.heap.size := ⟨_, rfl⟩
  rw [← hXx] at x1 xl ⊢
  have x1w : ∀ W, Below W0.heap.size W0 W → W.cell? ⟨X, 1, none⟩ = some (.slice la lm lc) ∧ X < W.heap.size := fun W hW => ⟨(hW.cell (p := ⟨X, 1, none⟩) xl).trans x1, Nat.lt_of_lt_of_le xl hW.size⟩
  have HX1 : Hid _ := x1w
  clear hX hXx hB0 x1w x1 xl
  go_wp2_with fail
  go_loopw [3] (fun i wr => ∃ n : Nat, n ≤ 6 ∧ i = .int .i64 (n : Int) ∧ Below W0.heap.size W0 wr) (fun i _ => 6 - (intOf i).toNat)
  case atStart => exact ⟨0, by omega, rfl, Below.refl _ _⟩
  case round =>
    obtain ⟨n, hn, rfl, hb⟩ := hrel
    have HB : Hid (Below W0.heap.size W0 wr) := hb
    obtain ⟨x1, xl⟩ := HX1.out wr hb
    clear hb
    by_cases hlt : n ≤ 5
    · have hlt' : (n : Int) ≤ 5 := by omega
      go_wp2_with (go_at_call 23; refine stop9 ?_)
      unfold Hold9
      refine Calls.mono (HNew.out _) ?_
      rintro e w1 ⟨rfl, hb1, O, h1⟩
      have H1 : Hid (D1 wr w1 wr.heap.size O (dsN [] 8)) := h1
      clear hb1 h1 x1 xl
      go_wp2_with (go_at_call 23; refine stop9 ?_)
      unfold Hold9
      refine Calls.mono (HNew.out _) ?_
      rintro e w2 ⟨rfl, hb2, P, h2⟩
      have H2 : Hid (D2 wr w2 wr.heap.size w1.heap.size O P (dsN [] 8) (dsN [] 8)) := D2.start H1.out hb2 h2
      clear hb2 h2
      generalize hd : wr.heap.size = d at H2 ⊢
      generalize ho : w1.heap.size = o at H2 ⊢
      have HFl : Hid (Calls Try.prog 42 #[.pointer (some ⟨d, 0, none⟩), .int .i64 (n : Int)] w2 fun e w' => (∃ v, e = .returned v) ∧ D2 wr w' d o O P (dF n 0) (dsN [] 8)) := (d1Fail H2.out.d1 (n : Int) (by omega)).mono fun e w' ⟨he, h3, h4⟩ => ⟨he, H2.out.first h3 h4⟩
      clear hd ho H1
      go_upto_region 8 with (go_at_call 26; refine Calls.mono (HNum.out _ _) ?_; rintro e w9 ⟨rfl, e9⟩; have e9 := e9.symm; subst e9)
      go_wp2_with (go_at_call 42; refine stop9 ?_)
      unfold Hold9
      refine Calls.mono HFl.out ?_
      rintro e w3 ⟨⟨v3, rfl⟩, h3⟩
      have HOf : Hid (Calls Try.prog 40 #[.pointer (some ⟨o, 0, none⟩), .int .i64 (n : Int)] w3 fun e w' => (∃ v, e = .returned v) ∧ D2 wr w' d o O P (dF n 0) (oF n 0)) := (d1Off h3.d2 (n : Int) (by omega)).mono fun e w' ⟨he, h4, h5⟩ => ⟨he, h3.second h4 h5⟩
      clear h3 HFl H2
      go_wp2_with (go_at_call 40; refine stop9 ?_)
      unfold Hold9
      refine Calls.mono HOf.out ?_
      rintro e w4 ⟨⟨v4, rfl⟩, h4⟩
      obtain ⟨wb, hwb⟩ : ∃ wb, wb = wr := ⟨_, rfl⟩
      have H4 : Hid (D2 wb w4 d o O P (dF n 0) (oF n 0)) := by rw [hwb]; exact h4
      replace HB : Hid (Below W0.heap.size W0 wb) := by rw [hwb]; exact HB
      clear h4 HOf hwb
      go_wp2_with fail
      go_loopw [8, 9] (fun want i w5 => ∃ (j : Nat), j ≤ 4 ∧ i = .int .i64 ((j + 1 : Nat) : Int) ∧ want = .string (stB (wF n j)) ∧ ∃ O P, D2 wb w5 d o O P (dF n j) (oF n j)) (fun _ i _ => 5 - (intOf i).toNat)
      case atStart => exact ⟨0, by omega, rfl, rfl, O, P, H4.out⟩
      case round =>
        clear H4
        obtain ⟨j, hj, rfl, rfl, O5, P5, h5⟩ := hrel
        have H5 : Hid (D2 wb wr d o O5 P5 (dF n j) (oF n j)) := h5
        clear h5
        by_cases hj4 : j < 4
        · have hj4' : ((j + 1 : Nat) : Int) ≤ 4 := by omega
          have eb : (97 : Int) + ((j : Int) + 1) = ((byt (j + 1)).toNat : Int) := by rw [byt_nat (by omega)]; omega
          go_upto_region 15 with fail
          clear eb
          have hO5 : Ow (wr.alloc (.cells #[.int .u8 ((byt (j + 1)).toNat : Int)] 5)) 0 (.slice (some ⟨wr.heap.size, 0, none⟩) 1 1) [byt (j + 1)] := ow_one wr _ 0 (Nat.zero_le _)
          have hD5 := H5.out.below (W' := wr.alloc (.cells #[.int .u8 ((byt (j + 1)).toNat : Int)] 5)) ((Below.refl _ _).alloc (Nat.le_refl _) _)
          have ho5 : O5 wr.heap.size = 0 ∧ P5 wr.heap.size = 0 := ⟨H5.out.d1.new (Nat.le_refl _), H5.out.d2.new (Nat.le_refl _)⟩
          generalize wr.alloc (.cells #[.int .u8 ((byt (j + 1)).toNat : Int)] 5) = W at *
          generalize wr.heap.size = X9 at *
          have dI := dF_inv n j (by omega)
          have oI := oF_inv n j
          have HSz : Hid (Calls Try.prog 30 #[.pointer (some ⟨d, 0, none⟩), .int .i64 1] W fun e w' => e = .returned (.tuple #[.int .i64 ((wF n j).length : Int), .int .i64 0]) ∧ w' = W) := by
            have h9 := d1Size hD5.d1 1
            rw [dI.size.1, dI.size.2] at h9
            exact h9
          have HWr : Hid (Calls Try.prog 50 #[.pointer (some ⟨d, 0, none⟩), .int .i64 1, .int .i64 ((wF n j).length : Int), .slice (some ⟨X9, 0, none⟩) 1 1] W fun e w' => e = .returned (.int .i64 (if j + 1 = n then 14 else 0)) ∧ ∃ O', D2 wb w' d o O' P5 (dF n (j + 1)) (oF n j) ∧ Ow w' 0 (.slice (some ⟨X9, 0, none⟩) 1 1) [byt (j + 1)] ∧ O' X9 = 0 ∧ P5 X9 = 0) := by
            have h9 := d1Write hD5.d1 (dF_few n j) (by omega) 1 (sizeV (dF n j) 1) (some ⟨X9, 0, none⟩) [byt (j + 1)] 1 (hO5.rb (by simp)) (fun b m e => by simp at e; rw [← e.1]; exact ho5.1)
            rw [show ([byt (j + 1)].length) = 1 from rfl, dI.wr (by omega), dI.size.1] at h9
            exact h9.mono fun e w' ⟨q1, O', q2, q3⟩ => ⟨q1, O', hD5.first (by have e9 : dF n (j + 1) = wrD (dF n j) 1 (sizeV (dF n j) 1) [byt (j + 1)] := rfl; rw [e9, dI.size.1]; exact q2) q3, hO5.same fun b e => q3.keep b (hO5.lt b e) (by simp [Value.ownBlock] at e; rw [← e]; exact ho5.1), q3.old X9 (hO5.lt X9 rfl) ho5.1, ho5.2⟩
          have HLn : Hid ((stB (wF n j)).size = (wF n j).length ∧ (wF n j).length ≤ 5) := ⟨stB_size _, by have := wF_len n j; omega⟩
          have hsz := HLn.out.1
          have hsl := HLn.out.2
          clear hO5 hD5 ho5 dI oI HNew H5
          obtain ⟨sl, hsl9⟩ : ∃ sl, sl = (wF n j).length := ⟨_, rfl⟩
          rw [← hsl9] at hsz hsl HSz HWr
          have Hsl9 : Hid (sl = (wF n j).length) := hsl9
          clear hsl9
          obtain ⟨want, hwant⟩ : ∃ want, want = stB (wF n j) := ⟨_, rfl⟩
          rw [← hwant] at hsz ⊢
          have HWt : Hid (want = stB (wF n j)) := hwant
          clear hwant
          go_wp2_with (go_at_call 30; refine Calls.mono HSz.out ?_; rintro e w9 ⟨rfl, e9⟩; have e9 := e9.symm; subst e9; refine stop9 ?_)
          unfold Hold9
          go_wp2_with (go_at_call 50; refine stop9 ?_)
          unfold Hold9
          refine Calls.mono HWr.out ?_
          rintro e w7 ⟨rfl, O7, h7, ho7, hx7, hp7⟩
          have HP : Hid (D2 wb w7 d o O7 P5 (dF n (j + 1)) (oF n j) ∧ Ow w7 0 (.slice (some ⟨X9, 0, none⟩) 1 1) [byt (j + 1)] ∧ O7 X9 = 0 ∧ P5 X9 = 0) := ⟨h7, ho7, hx7, hp7⟩
          have HW2 : Hid (Calls Try.prog 50 #[.pointer (some ⟨o, 0, none⟩), .int .i64 1, .int .i64 0, .slice (some ⟨X9, 0, none⟩) 1 1] w7 fun e w' => e = .returned (.int .i64 (if n ≤ j + 1 then 13 else 0)) ∧ ∃ P', D2 wb w' d o O7 P' (dF n (j + 1)) (oF n (j + 1))) := by
            have h9 := d1Write h7.d2 (oF_few n j) (by omega) 1 0 (some ⟨X9, 0, none⟩) [byt (j + 1)] 1 (ho7.rb (by simp)) (fun b m e => by simp at e; rw [← e.1]; exact hp7)
            rw [show ([byt (j + 1)].length) = 1 from rfl, (oF_inv n j).wr] at h9
            exact h9.mono fun e w' ⟨q1, P', q2, q3⟩ => ⟨q1, P', h7.second q2 q3⟩
          clear h7 ho7 hx7 hp7 HWr HSz
          have HNx0 : Hid (wF n (j + 1) = if j + 1 = n then wF n j else wF n j ++ [byt (j + 1)]) := rfl
          rcases (show n = j + 1 ∨ n ≤ j ∨ j + 2 ≤ n by omega) with hc | hc | hc
          · have HNx : Hid (wF n (j + 1) = wF n j) := HNx0.out.trans (if_pos hc.symm)
            rw [if_pos (by omega)] at HW2
            rw [if_pos hc.symm]
            have f1 : ((j : Int) + 1 == (n : Int)) = true := by rw [beq_iff_eq]; omega
            have f2 : (n : Int) ≤ (j : Int) + 1 := by omega
            clear hc
            clear HNx0
            go_wp2_with (first | (go_at_call 26; refine Calls.mono (HNum.out _ _) ?_; rintro e w9 ⟨rfl, e9⟩; have e9 := e9.symm; subst e9) | (go_at_call 50; refine stop9 ?_))
            unfold Hold9
            refine Calls.mono HW2.out ?_
            rintro e w8 ⟨rfl, P8, h8⟩
            have H8 : Hid (D2 wb w8 d o O7 P8 (dF n (j + 1)) (oF n (j + 1))) := h8
            clear h8
            go_wp2_with (go_at_call 26; refine Calls.mono (HNum.out _ _) ?_; rintro e w9 ⟨rfl, e9⟩; have e9 := e9.symm; subst e9)
            go_roundw
            case rel => exact ⟨j + 1, by omega, by go_num, by rw [HNx.out, ← HWt.out], _, _, H8.out⟩
            case measure => simp [intOf]; omega
          · have HNx : Hid (wF n (j + 1) = wF n j ++ [byt (j + 1)]) := HNx0.out.trans (if_neg (by omega))
            rw [if_pos (by omega)] at HW2
            rw [if_neg (by omega)]
            have f1 : ¬ ((j : Int) + 1 = (n : Int)) := by omega
            have f2 : (n : Int) ≤ (j : Int) + 1 := by omega
            clear HNx0
            have hst := HP.out.2.1.string
            go_wp2_with (first | (go_at_call 26; refine Calls.mono (HNum.out _ _) ?_; rintro e w9 ⟨rfl, e9⟩; have e9 := e9.symm; subst e9) | (go_at_call 50; refine stop9 ?_))
            unfold Hold9
            refine Calls.mono HW2.out ?_
            rintro e w8 ⟨rfl, P8, h8⟩
            have H8 : Hid (D2 wb w8 d o O7 P8 (dF n (j + 1)) (oF n (j + 1))) := h8
            clear h8
            go_wp2_with (go_at_call 26; refine Calls.mono (HNum.out _ _) ?_; rintro e w9 ⟨rfl, e9⟩; have e9 := e9.symm; subst e9)
            go_roundw
            case rel => exact ⟨j + 1, by omega, by go_num, by rw [HNx.out, ← stB_app, ← HWt.out]; rfl, _, _, H8.out⟩
            case measure => simp [intOf]; omega
          · have HNx : Hid (wF n (j + 1) = wF n j ++ [byt (j + 1)]) := HNx0.out.trans (if_neg (by omega))
            rw [if_neg (by omega)] at HW2
            rw [if_neg (by omega)]
            have f1 : ¬ ((j : Int) + 1 = (n : Int)) := by omega
            have f2 : ¬ (n : Int) ≤ (j : Int) + 1 := by omega
            clear HNx0
            have hst := HP.out.2.1.string
            go_wp2_with (first | (go_at_call 26; refine Calls.mono (HNum.out _ _) ?_; rintro e w9 ⟨rfl, e9⟩; have e9 := e9.symm; subst e9) | (go_at_call 50; refine stop9 ?_))
            unfold Hold9
            refine Calls.mono HW2.out ?_
            rintro e w8 ⟨rfl, P8, h8⟩
            have H8 : Hid (D2 wb w8 d o O7 P8 (dF n (j + 1)) (oF n (j + 1))) := h8
            clear h8
            go_wp2_with (go_at_call 26; refine Calls.mono (HNum.out _ _) ?_; rintro e w9 ⟨rfl, e9⟩; have e9 := e9.symm; subst e9)
            go_roundw
            case rel => exact ⟨j + 1, by omega, by go_num, by rw [HNx.out, ← stB_app, ← HWt.out]; rfl, _, _, H8.out⟩
            case measure => simp [intOf]; omega
        · obtain rfl : j = 4 := by omega
          have hj4' : ¬ ((4 + 1 : Nat) : Int) ≤ 4 := by omega
          have HRd : Hid (Calls Try.prog 32 #[.pointer (some ⟨d, 0, none⟩), .int .i64 1, .int .i64 0, .int .i64 ((wF n 4).length : Int)] wr fun e w' => ∃ v', e = .returned (.tuple #[v', .int .i64 0]) ∧ Ow w' wr.heap.size v' (wF n 4) ∧ Below wr.heap.size wr w') := by
            have h9 := d1Read H5.out.d1 (dF_few n 4) 1 0 ((wF n 4).length : Int) (by have := wF_len n 4; omega) (by omega)
            rw [(dF_read n).1, (dF_read n).2] at h9
            exact h9
          have hsz : (stB (wF n 4)).size = (wF n 4).length := stB_size _
          have HWs : Hid (stB (wF n 4) = ⟨(wF n 4).toArray⟩) := rfl
          have HB5 : Hid (Below W0.heap.size W0 wr) := HB.out.trans (H5.out.d1.bel.mono HB.out.size)
          clear H5 HNew
          go_upto_region 24 with fail
          generalize (wF n 4).length = sl at *
          go_wp2_with (go_at_call 32; refine stop9 ?_)
          unfold Hold9
          refine Calls.mono HRd.out ?_
          rintro e w7 ⟨v7, rfl, ho7, hb7⟩
          obtain ⟨a7, n7, c7, rfl⟩ := ownsRow_sl ho7
          have hst := ho7.string
          have HB7 : Hid (Below W0.heap.size W0 w7) := HB5.out.trans (hb7.mono HB5.out.size)
          rw [← HWs.out] at hst
          generalize stB (wF n 4) = want at *
          clear ho7 hb7 HRd HWs
          go_wp2_with (go_at_call 26; refine Calls.mono (HNum.out _ _) ?_; rintro e w9 ⟨rfl, e9⟩; have e9 := e9.symm; subst e9)
          go_roundw
          case rel => exact ⟨n + 1, by omega, by go_num, HB7.out⟩
          case measure => simp [intOf]; omega
    · have hlt' : ¬ (n : Int) ≤ 5 := by omega
      have hl0 : 0 ≤ (lm : Int) := by omega
      go_wp2_with (go_at_call 27; refine stop9 ?_)
      unfold Hold9
      refine (wakes9 _).mono ?_
      rintro e w7 ⟨rfl, hb7⟩
      have HB7 : Hid (Below W0.heap.size W0 w7) := HB.out.trans (hb7.mono HB.out.size)
      clear hb7
      go_wp2_with fail
      go_ret
      exact ⟨rfl, HB0.out.trans (HB7.out.mono HB0.out.size)⟩
end Go.Proofs.Ytljhhdpeakencaa

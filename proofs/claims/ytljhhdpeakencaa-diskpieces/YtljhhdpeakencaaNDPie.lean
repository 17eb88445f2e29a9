import Derived.Test.YtljhhdpeakencaaPie9
import Derived.Test.YtljhhdpeakencaaNDHol
set_option linter.unusedSimpArgs false
set_option linter.unusedVariables false
namespace Go.Proofs.Ytljhhdpeakencaa
open Go.RowKit

/-! tarnlaw9.DiskPieces, walked. -/
theorem take_set1 {l : List UInt8} {i : Nat} (hi : i < l.length) (h : l.take i = List.replicate i 1) : (l.set i 1).take (i + 1) = List.replicate (i + 1) 1 := by
  rw [List.take_succ_eq_append_getElem (by rw [List.length_set]; exact hi), List.getElem_set_self, List.take_set_of_le (Nat.le_refl _), h, List.replicate_succ']
/-- The picks ahead of the other one. -/
def bs9 (k : Nat) : List Int := [((k % 2 : Nat) : Int), ((k / 2 % 2 : Nat) : Int), ((k / 4 % 2 : Nat) : Int)]
theorem pk9_eq (k : Nat) : pk9 k = (bs9 k).set (k % 3) ((2 + k % 9 : Nat) : Int) := rfl
theorem bit9_eq : ∀ k : Nat, k < 40 → ∀ t : Nat, t < 3 → bits BinOp.and IntKind.i64 ((k : Int) / 2 ^ t) 1 = (bs9 k).getD t 0 := by decide +kernel
theorem bs9_take {k t : Nat} (h : t < 3) : (bs9 k).take (t + 1) = (bs9 k).take t ++ [(bs9 k).getD t 0] := by
  have hl : t < (bs9 k).length := h
  rw [List.take_succ_eq_append_getElem hl]
  congr 2
  simp [List.getD, hl]
theorem bs9_bit (k t : Nat) (h : t < 3) : 0 ≤ (bs9 k).getD t 0 ∧ (bs9 k).getD t 0 ≤ 1 := by
  have h3 : t = 0 ∨ t = 1 ∨ t = 2 := by omega
  rcases h3 with rfl | rfl | rfl <;> (simp only [bs9, List.getD_cons_zero, List.getD_cons_succ]; omega)
theorem icells_snoc (l : List Int) (x : Int) : icells (l ++ [x]) = icells l ++ [.int .i64 x] := by simp [icells]
theorem oi_pos {w : World} {b e n t c : Nat} {a : Option Addr} {xs : List Value} (h : w.ownsRow b e 1 (.slice a n c) t xs) (ht : 0 < t) : ∃ g, a = some ⟨g, 0, none⟩ ∧ n = t ∧ t ≤ c ∧ b ≤ g ∧ g < w.heap.size := by
  have h2 := h.lt
  rcases h.2 with ⟨_, hz⟩ | ⟨g, cap, cur, e, hb, _, hle, _⟩
  · omega
  · simp only [Value.slice.injEq] at e
    obtain ⟨rfl, rfl, rfl⟩ := e
    exact ⟨g, rfl, rfl, hle, h2 g rfl⟩
theorem pk9_bd (k : Nat) : ∀ p ∈ pk9 k, -9223372036854775808 ≤ p ∧ p ≤ 9223372036854775807 := fun p hp => by
  unfold pk9 at hp
  rcases List.mem_or_eq_of_mem_set hp with h | h
  · simp at h
    omega
  · omega
def out9 (k : Nat) : List UInt8 := (List.range 192).map fun i => if kep9 k i = true then 1 else 0
theorem out9_len (k : Nat) : (out9 k).length = 192 := by simp [out9]
theorem out9_at (k : Nat) {i : Nat} (h : i < (out9 k).length) : (out9 k)[i] = if kep9 k i = true then 1 else 0 := by simp [out9]
theorem pk9_small (k j : Nat) : 0 ≤ (pk9 k).getD j 1 ∧ (pk9 k).getD j 1 ≤ 10 := by
  have h : ∀ p ∈ pk9 k, 0 ≤ p ∧ p ≤ 10 := fun p hp => by
    unfold pk9 at hp
    rcases List.mem_or_eq_of_mem_set hp with h | h
    · simp at h
      omega
    · omega
  by_cases hj : j < (pk9 k).length
  · have e : (pk9 k).getD j 1 = (pk9 k)[j] := by simp [List.getD, hj]
    rw [e]
    exact h _ (List.getElem_mem hj)
  · have e : (pk9 k).getD j 1 = 1 := by simp [List.getD, List.getElem?_eq_none (by omega : (pk9 k).length ≤ j)]
    rw [e]
    omega
theorem pk9_len (k : Nat) : (pk9 k).length = 3 := by unfold pk9; rw [List.length_set]; rfl
/-- The two rows of bytes, and the disk. -/
structure TwoR (wb W : World) (d : Nat) (O : Nat → Nat) (D : Ds) (Y0 Y1 : Nat) (l : List UInt8) : Prop where
  old : Ow W 0 (.slice (some ⟨Y0, 0, none⟩) 192 192) ze9
  fre : Ow W 0 (.slice (some ⟨Y1, 0, none⟩) 128 128) l
  dsk : D1 wb W d O D
  ne : Y0 ≠ Y1
  o0 : O Y0 = 0
  o1 : O Y1 = 0
  lo : wb.heap.size ≤ Y1
theorem TwoR.set {wb W : World} {d : Nat} {O : Nat → Nat} {D : Ds} {Y0 Y1 : Nat} {l : List UInt8} (h : TwoR wb W d O D Y0 Y1 l) (k : Nat) : TwoR wb (W.setCell ⟨Y1, k, none⟩ (.int .u8 1)) d O D Y0 Y1 (l.set k 1) := by
  have hb : ∀ b, b ≠ Y1 → (W.setCell ⟨Y1, k, none⟩ (.int .u8 1)).heap[b]? = W.heap[b]? := fun b hb => Below.heap_setCell W ⟨Y1, k, none⟩ _ b (fun e => hb e)
  refine ⟨h.old.same fun b e => hb b (fun e2 => ?_), h.fre.set9 k 1, h.dsk.keep (fun b e => hb b (fun e2 => e (by rw [e2]; exact h.o1))) (by simp) (h.dsk.bel.setCell (p := ⟨Y1, k, none⟩) h.lo _), h.ne, h.o0, h.o1, h.lo⟩
  subst e2
  exact h.ne (by simpa [Value.ownBlock] using e)
theorem TwoR.new {wb w1 : World} {d : Nat} {O : Nat → Nat} {D : Ds} (h : D1 wb w1 d O D) : TwoR wb ((w1.alloc (.cells (bc ze9).toArray 5)).alloc (.cells (bc (List.replicate 128 0)).toArray 5)) d O D w1.heap.size (w1.heap.size + 1) (List.replicate 128 0) := by
  have e : (w1.alloc (.cells (bc ze9).toArray 5)).heap.size = w1.heap.size + 1 := by simp
  have h2 := ow_made (w1.alloc (.cells (bc ze9).toArray 5)) 128 (by omega)
  rw [e] at h2
  exact ⟨(ow_made w1 192 (by omega)).base0.alloc _, h2.base0, h.below (((Below.refl _ _).alloc (Nat.le_refl _) _).alloc (by simp) _), by omega, h.new (Nat.le_refl _), h.new (by omega), by have := h.bel.size; omega⟩
theorem TwoR.next {wb W W' : World} {d : Nat} {O O' : Nat → Nat} {D D' : Ds} {Y0 Y1 : Nat} {l : List UInt8} (h : TwoR wb W d O D Y0 Y1 l) (hd : D1 wb W' d O' D') (hf : Fp O W O' W') : TwoR wb W' d O' D' Y0 Y1 l := by
  refine ⟨h.old.same fun b e => ?_, h.fre.same fun b e => ?_, hd, h.ne, ?_, ?_, h.lo⟩
  · obtain rfl : Y0 = b := by simpa [Value.ownBlock] using e
    exact hf.keep _ (h.old.lt _ rfl) h.o0
  · obtain rfl : Y1 = b := by simpa [Value.ownBlock] using e
    exact hf.keep _ (h.fre.lt _ rfl) h.o1
  · rw [hf.old _ (h.old.lt _ rfl) h.o0]
  · rw [hf.old _ (h.fre.lt _ rfl) h.o1]
theorem mk192 (W : World) : (Instr.makeSlice 37 (.int .i64 192) (.int .i64 192)).run Try.prog W = .ok (.slice (some ⟨W.heap.size, 0, none⟩) 192 192) (W.alloc (.cells (bc ze9).toArray 5)) := mk_bytes 192 (by omega) W
theorem mk128 (W : World) : (Instr.makeSlice 37 (.int .i64 128) (.int .i64 128)).run Try.prog W = .ok (.slice (some ⟨W.heap.size, 0, none⟩) 128 128) (W.alloc (.cells (bc (List.replicate 128 0)).toArray 5)) := mk_bytes 128 (by omega) W
set_option maxRecDepth 100000 in
set_option maxHeartbeats 16000000 in
theorem diskPieces_walk (w : World) (fv : Value) (la : Option Addr) (lm lc : Nat) (hlm : lm ≤ 9223372036854775807) :
    Calls Try.prog 4 #[.agg #[fv, .slice la lm lc]] w fun e w' => e = .returned (.bool true) ∧ Below w.heap.size w w' := by
  have hnum : ∀ (n : Int) W, Calls Try.prog 26 #[.int .i64 n] W fun e w' => e = .returned (.int .i64 n) ∧ w' = W := fun n W => lnum n W
  have HNum : Hid _ := hnum
  have HNew : Hid (∀ W, Calls Try.prog 23 #[.slice none 0 0] W fun e w' => e = .returned (.tuple #[.pointer (some ⟨W.heap.size, 0, none⟩), .int .i64 0]) ∧ Below W.heap.size W w' ∧ ∃ O, D1 W w' W.heap.size O (dsN [] 8)) := fun W => d1New W _ [] (Rl.nil9 W) (.inl rfl) sml_nil
  obtain ⟨i0, hi, hz0, hz1, hz2⟩ := info_of infoInt
  clear hnum
  go_enter Try.func4, Try.ntmps4
  go_upto_region 1 with fail
  obtain ⟨W0, hW0⟩ : ∃ W0, W0 = w.alloc (.cells #[fv, .slice la lm lc] 25) := ⟨_, rfl⟩
  rw [← hW0]
  have hX : Bk W0 w.heap.size #[fv, .slice la lm lc] 25 := by rw [hW0]; exact Bk.new _ _ _
  have hB0 : Below w.heap.size w W0 := by rw [hW0]; exact (Below.refl _ _).alloc (Nat.le_refl _) _
  have HB0 : Hid (Below w.heap.size w W0) := hB0
  clear hW0
  have x1 := hX.cell 1
  have xl := hX.lt
  simp only [List.getElem?_toArray, List.getElem?_cons_zero, List.getElem?_cons_succ] at x1
  obtain ⟨X, hXx⟩ : ∃ X, X = w.heap.size := ⟨_, rfl⟩
  rw [← hXx] at x1 xl ⊢
  have x1w : ∀ W, Below W0.heap.size W0 W → W.cell? ⟨X, 1, none⟩ = some (.slice la lm lc) ∧ X < W.heap.size := fun W hW => ⟨(hW.cell (p := ⟨X, 1, none⟩) xl).trans x1, Nat.lt_of_lt_of_le xl hW.size⟩
  have HX1 : Hid _ := x1w
  clear hX hXx hB0 x1w x1 xl
  go_wp2_with fail
  go_loopw [3] (fun i wr => ∃ k : Nat, k ≤ 40 ∧ i = .int .i64 (k : Int) ∧ Below W0.heap.size W0 wr) (fun i _ => 40 - (intOf i).toNat)
  case atStart => exact ⟨0, by omega, rfl, Below.refl _ _⟩
  case round =>
    obtain ⟨k, hk, rfl, hb⟩ := hrel
    have HB : Hid (Below W0.heap.size W0 wr) := hb
    obtain ⟨x1, xl⟩ := HX1.out wr hb
    clear hb
    by_cases hlt : k < 40
    · have hlt' : (k : Int) < 40 := by omega
      have HK : Hid (k < 40) := hlt
      clear x1 xl hk hlt
      obtain ⟨m5, hm5⟩ : ∃ m5, m5 = k * 5 := ⟨_, rfl⟩
      obtain ⟨at_, hat⟩ : ∃ at_, at_ = m5 % 70 := ⟨_, rfl⟩
      obtain ⟨fr, hfr⟩ : ∃ fr, fr = at_ % 64 := ⟨_, rfl⟩
      have hw5 : IntKind.i64.wrap ((k : Int) * 5) = (m5 : Int) := by rw [IntWalk.i64_in _ (by omega)]; omega
      have hw6 : (k : Int) * 5 = (m5 : Int) := by omega
      have hr70 : (m5 : Int).tmod 70 = (at_ : Int) := by rw [hat]; exact (Int.ofNat_tmod m5 70).symm
      have hr71 : (m5 : Int) % 70 = (at_ : Int) := by omega
      have hb5 : m5 ≤ 195 := by omega
      have HAt : Hid (fr = fr9 k ∧ at_ < 70 ∧ fr = at_ % 64 ∧ fr < 64) := ⟨by rw [hfr, hat, hm5], by omega, hfr, by omega⟩
      clear hat hfr hm5
      go_wp2_with (go_at_call 23; refine stop9 ?_)
      unfold Hold9
      refine Calls.mono (HNew.out _) ?_
      rintro e w1 ⟨rfl, hb1, O, h1'⟩
      obtain ⟨wb, hwb⟩ : ∃ wb, wb = wr := ⟨_, rfl⟩
      have H1 : Hid (TwoR wb ((w1.alloc (.cells (bc ze9).toArray 5)).alloc (.cells (bc (List.replicate 128 0)).toArray 5)) wb.heap.size O (dsN [] 8) w1.heap.size (w1.heap.size + 1) (List.replicate 128 0)) := by rw [hwb]; exact TwoR.new h1'
      replace HB : Hid (Below W0.heap.size W0 wb) := by rw [hwb]; exact HB
      rw [← hwb]
      clear hb1 h1' hwb hw5 hw6 hr70 hr71 hb5
      generalize wb.heap.size = d at H1 ⊢
      obtain ⟨zc, hzc⟩ : ∃ zc, zc = (bc ze9).toArray := ⟨_, rfl⟩
      obtain ⟨fc, hfc⟩ : ∃ fc, fc = (bc (List.replicate 128 0)).toArray := ⟨_, rfl⟩
      have hm1 := mk192 w1
      have hm2 := mk128 (w1.alloc (.cells zc 5))
      rw [← hzc] at hm1 H1
      rw [← hfc] at hm2 H1
      have hsz : (w1.alloc (.cells zc 5)).heap.size = w1.heap.size + 1 := by simp
      rw [hsz] at hm2
      clear hsz hzc hfc
      go_upto_region 9 with fail
      obtain ⟨W, hW⟩ : ∃ W, W = (w1.alloc (.cells zc 5)).alloc (.cells fc 5) := ⟨_, rfl⟩
      rw [← hW] at H1 ⊢
      clear hm1 hm2 hW
      generalize w1.heap.size = Y0 at *
      obtain ⟨Y1, hY1⟩ : ∃ Y1, Y1 = Y0 + 1 := ⟨_, rfl⟩
      rw [← hY1] at H1 ⊢
      clear hY1
      have H2 : Hid (TwoR wb W d O (dsN [] 8) Y0 Y1 (List.replicate 128 0)) := H1
      clear H1
      go_wp2_with fail
      go_loopw [9] (fun i w5 => ∃ (t : Nat) (l : List UInt8), t ≤ 128 ∧ i = .int .i64 (t : Int) ∧ l.length = 128 ∧ l.take t = List.replicate t 1 ∧ TwoR wb w5 d O (dsN [] 8) Y0 Y1 l) (fun i _ => 128 - (intOf i).toNat)
      case atStart => exact ⟨0, _, by omega, rfl, List.length_replicate, rfl, H2.out⟩
      case round =>
        clear H2
        obtain ⟨t, l, ht, rfl, hl, htk, h5⟩ := hrel
        have H5 : Hid (l.length = 128 ∧ l.take t = List.replicate t 1 ∧ TwoR wb wr d O (dsN [] 8) Y0 Y1 l) := ⟨hl, htk, h5⟩
        by_cases hka : t < 128
        · have hka' : (t : Int) < 128 := by omega
          have hkl : t < l.length := by omega
          obtain ⟨y9, hc⟩ : ∃ y : UInt8, wr.cell? ⟨Y1, t, none⟩ = some (.int .u8 (y.toNat : Int)) := ⟨_, h5.fre.cell9 t hkl⟩
          have hf := h5.fre.frozen9 t
          have HX : Hid (TwoR wb (wr.setCell ⟨Y1, t, none⟩ (.int .u8 1)) d O (dsN [] 8) Y0 Y1 (l.set t 1)) := h5.set t
          have HTk : Hid ((l.set t 1).take (t + 1) = List.replicate (t + 1) 1) := take_set1 hkl htk
          have lY : Y1 < wr.heap.size := h5.fre.lt Y1 rfl
          clear hl htk h5 hkl
          go_wp2_with fail
          go_roundw
          case rel => exact ⟨t + 1, l.set t 1, by omega, by go_num, by rw [List.length_set]; exact H5.out.1, HTk.out, HX.out⟩
          case measure => simp [intOf]; omega
        · obtain rfl : t = 128 := by omega
          have hl1 : l = on9 := by rw [List.take_of_length_le (by omega)] at htk; exact htk
          rw [hl1] at h5
          have H6 : Hid (TwoR wb wr d O (dsN [] 8) Y0 Y1 on9) := h5
          have HW1 : Hid (Calls Try.prog 50 #[.pointer (some ⟨d, 0, none⟩), .int .i64 3, .int .i64 0, .slice (some ⟨Y0, 0, none⟩) 192 192] wr fun e w' => e = .returned (.int .i64 0) ∧ ∃ O', TwoR wb w' d O' p0 Y0 Y1 on9) := by
            have hr := h5.old.rb (by rw [List.length_replicate]; omega)
            have h9 := d1Write h5.dsk (Few.new sml_nil 8 0) (by omega) 3 0 (some ⟨Y0, 0, none⟩) ze9 192 hr (fun b m e => by simp at e; rw [← e.1]; exact h5.o0)
            rw [p0_w] at h9
            exact h9.mono fun e w' ⟨q1, O', q2, q3⟩ => ⟨q1, O', h5.next q2 q3⟩
          clear hl htk h5 hl1 H5 HNew H6
          have hlt9 : ¬ ((128 : Nat) : Int) < 128 := by omega
          go_wp2_with (first | (go_at_call 26; refine Calls.mono (HNum.out _ _) ?_; rintro e w9 ⟨rfl, e9⟩; have e9 := e9.symm; subst e9) | (go_at_call 50; refine stop9 ?_))
          unfold Hold9
          refine Calls.mono HW1.out ?_
          rintro e w5 ⟨rfl, O5, h5⟩
          have H5 : Hid (TwoR wb w5 d O5 p0 Y0 Y1 on9) := h5
          have HS : Hid (Calls Try.prog 38 #[.pointer (some ⟨d, 0, none⟩), .int .i64 3] w5 fun e w' => e = .returned (.int .i64 0) ∧ ∃ O', TwoR wb w' d O' p1 Y0 Y1 on9) := by
            have h9 := d1Sync h5.dsk p0_few (by omega) 3
            rw [p0_s] at h9
            exact h9.mono fun e w' ⟨q1, O', q2, q3⟩ => ⟨q1, O', h5.next q2 q3⟩
          clear h5 HW1
          go_wp2_with (first | (go_at_call 26; refine Calls.mono (HNum.out _ _) ?_; rintro e w9 ⟨rfl, e9⟩; have e9 := e9.symm; subst e9) | (go_at_call 38; refine stop9 ?_))
          unfold Hold9
          refine Calls.mono HS.out ?_
          rintro e w6 ⟨rfl, O6, h6⟩
          have HW2 : Hid (Calls Try.prog 50 #[.pointer (some ⟨d, 0, none⟩), .int .i64 3, .int .i64 (fr : Int), .slice (some ⟨Y1, 0, none⟩) 128 128] w6 fun e w' => e = .returned (.int .i64 0) ∧ ∃ O', TwoR wb w' d O' (p2 k) Y0 Y1 on9) := by
            have hr := h6.fre.rb (by rw [List.length_replicate]; omega)
            have h9 := d1Write h6.dsk p1_few (by omega) 3 ((fr9 k : Nat) : Int) (some ⟨Y1, 0, none⟩) on9 128 hr (fun b m e => by simp at e; rw [← e.1]; exact h6.o1)
            rw [p2_w k, ← HAt.out.1] at h9
            refine h9.mono fun e w' ⟨q1, O', q2, q3⟩ => ⟨q1, O', ?_⟩
            rw [HAt.out.1] at q2
            exact h6.next q2 q3
          have hr64 : (at_ : Int).tmod 64 = (fr : Int) := by rw [HAt.out.2.2.1]; exact (Int.ofNat_tmod at_ 64).symm
          have hr65 : (at_ : Int) % 64 = (fr : Int) := by have := HAt.out.2.2.1; omega
          clear h6 HS H5
          go_wp2_with (first | (go_at_call 26; refine Calls.mono (HNum.out _ _) ?_; rintro e w9 ⟨rfl, e9⟩; have e9 := e9.symm; subst e9) | (go_at_call 50; refine stop9 ?_))
          unfold Hold9
          refine Calls.mono HW2.out ?_
          rintro e w7 ⟨rfl, O7, h7⟩
          have H7 : Hid (TwoR wb w7 d O7 (p2 k) Y0 Y1 on9) := h7
          have HR64 : Hid (((at_ : Int).tmod 64 = (fr : Int)) ∧ (at_ : Int) % 64 = (fr : Int)) := ⟨hr64, hr65⟩
          clear h7 HW2 hr64 hr65 hlt9
          go_upto_region 15 with (go_at_call 26; refine Calls.mono (HNum.out _ _) ?_; rintro e w9 ⟨rfl, e9⟩; have e9 := e9.symm; subst e9)
          go_wp2_with fail
          go_loopw [10, 11] (fun ps i w8 => ∃ (t : Nat), t ≤ 3 ∧ i = .int .i64 (t : Int) ∧ Oi w8 w7.heap.size ps ((bs9 k).take t) ∧ Below w7.heap.size w7 w8) (fun _ i _ => 3 - (intOf i).toNat)
          case atStart => exact ⟨0, by omega, rfl, World.ownsRow_nil _ _ _ 1, Below.refl _ _⟩
          case round =>
            obtain ⟨t, ht, rfl, hoi, hb8⟩ := hrel
            have hlen : ((bs9 k).take t).length = t := by rw [List.length_take]; show min t 3 = t; omega
            obtain ⟨a8, n8, c8, rfl⟩ := ownsRow_sl hoi
            have hoi' : wr.ownsRow w7.heap.size 3 1 (.slice a8 n8 c8) t (icells ((bs9 k).take t)) := by
              have h9 : wr.ownsRow w7.heap.size 3 1 (.slice a8 n8 c8) ((bs9 k).take t).length (icells ((bs9 k).take t)) := hoi
              rw [hlen] at h9
              exact h9
            have HOi : Hid (wr.ownsRow w7.heap.size 3 1 (.slice a8 n8 c8) t (icells ((bs9 k).take t))) := hoi'
            have HB8 : Hid (Below w7.heap.size w7 wr) := hb8
            have hz8 := hb8.size
            clear hoi hb8
            by_cases htn : t < 3
            · have htn' : (t : Int) < 3 := by omega
              obtain ⟨bv, hbv⟩ : ∃ bv : Int, bv = (bs9 k).getD t 0 := ⟨_, rfl⟩
              have hbit : bits BinOp.and IntKind.i64 ((k : Int) / 2 ^ t) 1 = bv := by rw [hbv]; exact bit9_eq k HK.out t htn
              have HBv : Hid (((bs9 k).take t).length = t ∧ (bs9 k).getD t 0 = bv) := ⟨hlen, hbv.symm⟩
              have hbv9 : 0 ≤ bv ∧ bv ≤ 1 := by rw [hbv]; exact bs9_bit k t htn
              clear hbv hlen
              go_wp2_with (at_builtin; refine stop9 ?_)
              unfold Hold9
              refine wpList_append_own _ rfl _ _ 38 rfl w7.heap.size 3 i0 (.int .i64 0) 1 8 Try.underlying38 hi hz0 hz1 hz2 rfl (by decide) _ t _ rfl (hoi'.alloc _) ⟨wr.heap.size, 0, none⟩ 1 1 [.int .i64 bv] rfl rfl (cell_one_new _ _ _) (by simp [Value.oneCell']) (by unfold maxLen; omega) (by omega) (by simp; omega) ?_
              intro v1 w10 hown1 hgrow1 hnil1
              have h10 : Oi w10 w7.heap.size v1 ((bs9 k).take (t + 1)) := by
                show w10.ownsRow _ _ 1 _ _ _
                rw [bs9_take htn, icells_snoc, List.length_append, HBv.out.2, HBv.out.1]
                exact hown1
              have hb10 : Below w7.heap.size w7 w10 := (HB8.out.alloc hz8 _).grown hgrow1 (by simp; omega) (fun j hj => (HOi.out.lt j hj).1)
              have H10 : Hid (Oi w10 w7.heap.size v1 ((bs9 k).take (t + 1)) ∧ Below w7.heap.size w7 w10) := ⟨h10, hb10⟩
              clear h10 hb10 hown1 hgrow1 hnil1 hoi'
              go_wp2_with fail
              go_roundw
              case rel => exact ⟨t + 1, by omega, by go_num, H10.out.1, H10.out.2⟩
              case measure => simp [intOf]; omega
            · obtain rfl : t = 3 := by omega
              obtain ⟨g, rfl, rfl, hc8, hg7, hgz⟩ := oi_pos hoi' (by omega)
              obtain ⟨j3, hj3⟩ : ∃ j3, j3 = k % 3 := ⟨_, rfl⟩
              obtain ⟨j9, hj9⟩ : ∃ j9, j9 = k % 9 := ⟨_, rfl⟩
              have ht3 : (k : Int).tmod 3 = (j3 : Int) := by rw [hj3]; exact (Int.ofNat_tmod k 3).symm
              have ht3' : (k : Int) % 3 = (j3 : Int) := by omega
              have ht9 : (k : Int).tmod 9 = (j9 : Int) := by rw [hj9]; exact (Int.ofNat_tmod k 9).symm
              have ht9' : (k : Int) % 9 = (j9 : Int) := by omega
              have hb3 : j3 < 3 := by omega
              have hb9 : j9 < 9 := by omega
              have hc9 : ∃ y : Int, wr.cell? ⟨g, j3, none⟩ = some (.int .i64 y) := by
                rw [hoi'.cellAt j3 (by omega)]
                exact ⟨((bs9 k).take 3)[j3]'(by rw [List.length_take]; show j3 < min 3 3; omega), by simp [icells, hb3]⟩
              obtain ⟨y9, hc9⟩ := hc9
              have hf9 := hoi'.frozenAt j3
              have hst := (hoi'.stored j3 (.int .i64 (2 + (j9 : Int)))).1
              have h10 : Oi (wr.setCell ⟨g, j3, none⟩ (.int .i64 (2 + (j9 : Int)))) w7.heap.size (.slice (some ⟨g, 0, none⟩) 3 c8) (pk9 k) := by
                show World.ownsRow _ _ _ 1 _ _ _
                have e : icells (pk9 k) = (icells ((bs9 k).take 3)).set j3 (.int .i64 (2 + (j9 : Int))) := by
                  rw [pk9_eq, hj3, hj9]
                  show icells _ = (icells (bs9 k)).set _ _
                  simp [icells, List.map_set]
                rw [pk9_len, e]
                exact hst
              have hb10 : Below w7.heap.size w7 (wr.setCell ⟨g, j3, none⟩ (.int .i64 (2 + (j9 : Int)))) := HB8.out.setCell (p := ⟨g, j3, none⟩) hg7 _
              have hd10 := H7.out.dsk.below (W' := wr.setCell ⟨g, j3, none⟩ (.int .i64 (2 + (j9 : Int)))) hb10
              have HCr : Hid (Calls Try.prog 44 #[.pointer (some ⟨d, 0, none⟩), .slice (some ⟨g, 0, none⟩) 3 c8] (wr.setCell ⟨g, j3, none⟩ (.int .i64 (2 + (j9 : Int)))) fun e w' => ∃ T rb, e = .returned (.slice (some ⟨rb, 0, none⟩) 8 8) ∧ Rows8 (wr.setCell ⟨g, j3, none⟩ (.int .i64 (2 + (j9 : Int)))) w' T rb (crash (p2 k) (pk9 k)) ∧ D1 wb w' d O7 { p2 k with off := true } ∧ Fp O7 (wr.setCell ⟨g, j3, none⟩ (.int .i64 (2 + (j9 : Int)))) O7 w') := d1Crash hd10 (p2_few k) (by omega) (.slice (some ⟨g, 0, none⟩) 3 c8) (pk9 k) (h10.rp (by rw [pk9_len]; omega) (pk9_bd k)) (fun _ b m c e => by simp at e; rw [← e.1.1]; exact H7.out.dsk.new hg7)
              have HP : Hid (∀ j, j < 3 → (wr.setCell ⟨g, j3, none⟩ (.int .i64 (2 + (j9 : Int)))).cell? ⟨g, j, none⟩ = some (.int .i64 ((pk9 k).getD j 1))) := fun j hj => by
                have h9 : World.ownsRow _ _ _ 1 _ _ _ := h10
                rw [pk9_len] at h9
                rw [h9.cellAt j (by omega)]
                have hl : j < (pk9 k).length := by rw [pk9_len]; exact hj
                simp [icells, List.getD, hl]
              have HG : Hid (O7 g = 0 ∧ g < wr.heap.size) := ⟨H7.out.dsk.new hg7, hgz⟩
              clear hst h10 hb10 hd10 hoi' HOi HB8 hz8 H7 hj3 hj9 hg7 hgz
              go_wp2_with (go_at_call 44; refine stop9 ?_)
              unfold Hold9
              refine Calls.mono HCr.out ?_
              rintro e w11 ⟨T, rb, rfl, ⟨⟨pb, rv, pv7, hrw⟩, hT⟩, hd11, hf11⟩
              have HB11 : Hid (Below W0.heap.size W0 w11) := HB.out.trans (hd11.bel.mono HB.out.size)
              have hp11 : ∀ j, j < 3 → w11.cell? ⟨g, j, none⟩ = some (.int .i64 ((pk9 k).getD j 1)) := fun j hj => hf11.cell (HP.out j hj) HG.out.1
              have ho := hrw.ow 3 (by omega)
              rw [p2_crash HK.out] at ho
              change Ow w11 0 (rv 3) (out9 k) at ho
              obtain ⟨xa, xc, ev, hcap⟩ := ho.shape
              rw [ev] at ho
              obtain ⟨xg, rfl, _, _⟩ := ho.pos9 (by rw [out9_len]; omega)
              rw [out9_len] at ev ho
              have k3 : w11.cell? ⟨rb, 3, none⟩ = some (rv 3) := (hrw.blk.cell 3).trans (r8_at rv (by omega))
              rw [ev] at k3
              have hx11 : ∀ i, i < 192 → w11.cell? ⟨xg, i, none⟩ = some (.int .u8 (if kep9 k i = true then 1 else 0)) := fun i hi => by
                rw [ho.cell9 i (by rw [out9_len]; exact hi), out9_at]
                by_cases h9 : kep9 k i = true <;> simp [h9]
              have hlb := hrw.blk.lt
              have HF : Hid (∀ W', Below w11.heap.size w11 W' → W'.cell? ⟨rb, 3, none⟩ = some (.slice (some ⟨xg, 0, none⟩) 192 xc) ∧ (∀ i, i < 192 → W'.cell? ⟨xg, i, none⟩ = some (.int .u8 (if kep9 k i = true then 1 else 0))) ∧ (∀ j, j < 3 → W'.cell? ⟨g, j, none⟩ = some (.int .i64 ((pk9 k).getD j 1)))) := fun W' hW' => ⟨(hW'.cell hlb).trans k3, fun i hi => (hW'.cell (World.block_lt_of_cell? w11 _ (hx11 i hi))).trans (hx11 i hi), fun j hj => (hW'.cell (World.block_lt_of_cell? w11 _ (hp11 j hj))).trans (hp11 j hj)⟩
              obtain ⟨hr64, hr65⟩ := HR64.out
              clear hrw hT hd11 hf11 hp11 ho ev hcap hx11 HP HG HCr hc9 hf9
              go_upto_region 24 with fail
              go_wp2_with fail
              clear k3 hlb hr64 hr65 ht3 ht3' ht9 ht9' hb3 hb9
              go_loopw [14] (fun i w8 => ∃ (j : Nat), j ≤ 192 ∧ i = .int .i64 (j : Int) ∧ Below w11.heap.size w11 w8) (fun i _ => 192 - (intOf i).toNat)
              case atStart => exact ⟨0, by omega, rfl, Below.refl _ _⟩
              case round =>
                obtain ⟨i, hi192, rfl, hb12⟩ := hrel
                have HB12 : Hid (Below w11.heap.size w11 wr) := hb12
                obtain ⟨c1, c2, c3⟩ := HF.out wr hb12
                clear hb12
                by_cases hi9 : i < 192
                · have hi9' : (i : Int) < 192 := by omega
                  have cx := c2 i hi9
                  obtain ⟨q, hq⟩ : ∃ q, q = i / 64 := ⟨_, rfl⟩
                  obtain ⟨m, hm⟩ : ∃ m, m = i % 64 := ⟨_, rfl⟩
                  obtain ⟨z, hz⟩ : ∃ z, z = i - m := ⟨_, rfl⟩
                  have cp := c3 q (by omega)
                  have hfr64 := HAt.out.2.2.2
                  have tq : (i : Int).tdiv 64 = (q : Int) := by rw [hq]; exact (Int.ofNat_tdiv i 64).symm
                  have tq' : (i : Int) / 64 = (q : Int) := by omega
                  have tm : (i : Int).tmod 64 = (m : Int) := by rw [hm]; exact (Int.ofNat_tmod i 64).symm
                  have tm' : (i : Int) % 64 = (m : Int) := by omega
                  have tz : (i : Int) - (m : Int) = (z : Int) := by omega
                  have tw : IntKind.i64.wrap ((i : Int) - (m : Int)) = (z : Int) := by rw [IntWalk.i64_in _ (by omega)]; omega
                  have hk9 : kep9 k i = (decide (fr ≤ i ∧ i < fr + 128) && (decide ((pk9 k).getD q 1 = 0) || (decide (2 ≤ (pk9 k).getD q 1) && decide ((i : Int) - (max fr z : Nat) < (pk9 k).getD q 1 - 2)))) := by
                    unfold kep9
                    rw [← HAt.out.1, hq, hz, hm]
                  have HQ : Hid (q < 3 ∧ m < 64 ∧ z = i - m ∧ m ≤ i) := ⟨by omega, by omega, hz, by omega⟩
                  have hq3 : q < 3 := by omega
                  have hz9 : z ≤ i := by omega
                  clear hq hm hz c2 c3
                  have hpb := pk9_small k q
                  generalize (pk9 k).getD q 1 = p at cp hk9 hpb
                  generalize kep9 k i = kb at cx hk9
                  obtain ⟨hp0, hp1⟩ := hpb
                  by_cases hM : fr < z
                  · have hmz : max fr z = z := by omega
                    have hM1 : (fr : Int) < (z : Int) := by omega
                    by_cases h1 : fr ≤ i
                    · have h1' : (fr : Int) ≤ (i : Int) := by omega
                      by_cases h2 : i < fr + 128
                      · have h2' : (i : Int) < (fr : Int) + 128 := by omega
                        by_cases h3 : p = 0
                        · subst h3
                          have e : kb = true := by rw [hk9, hmz]; simp; omega
                          subst e
                          have cx' : wr.cell? ⟨xg, i, none⟩ = some (.int .u8 1) := cx
                          clear cx hk9 hmz
                          go_wp2_with fail
                          go_roundw
                          case rel => exact ⟨i + 1, by omega, by go_num, HB12.out⟩
                          case measure => simp [intOf]; omega
                        · have h3' : (p == 0) = false := by simpa using h3
                          by_cases h4 : 2 ≤ p
                          · by_cases h5 : (i : Int) - (z : Int) < p - 2
                            · have h5' : decide ((i : Int) - (z : Int) < p - 2) = true := decide_eq_true h5
                              have e : kb = true := by rw [hk9, hmz]; simp; omega
                              subst e
                              have cx' : wr.cell? ⟨xg, i, none⟩ = some (.int .u8 1) := cx
                              clear cx hk9 hmz
                              go_wp2_with fail
                              go_roundw
                              case rel => exact ⟨i + 1, by omega, by go_num, HB12.out⟩
                              case measure => simp [intOf]; omega
                            · skip
                              have e : kb = false := by
                                cases h9 : kb
                                · rfl
                                · exfalso; rw [hk9, hmz] at h9; simp at h9; omega
                              subst e
                              have cx' : wr.cell? ⟨xg, i, none⟩ = some (.int .u8 0) := cx
                              clear cx hk9 hmz
                              go_wp2_with fail
                              go_roundw
                              case rel => exact ⟨i + 1, by omega, by go_num, HB12.out⟩
                              case measure => simp [intOf]; omega
                          · skip
                            have e : kb = false := by
                              cases h9 : kb
                              · rfl
                              · exfalso; rw [hk9, hmz] at h9; simp at h9; omega
                            subst e
                            have cx' : wr.cell? ⟨xg, i, none⟩ = some (.int .u8 0) := cx
                            clear cx hk9 hmz
                            go_wp2_with fail
                            go_roundw
                            case rel => exact ⟨i + 1, by omega, by go_num, HB12.out⟩
                            case measure => simp [intOf]; omega
                      · have h2' : ¬ (i : Int) < (fr : Int) + 128 := by omega
                        have e : kb = false := by
                          cases h9 : kb
                          · rfl
                          · exfalso; rw [hk9, hmz] at h9; simp at h9; omega
                        subst e
                        have cx' : wr.cell? ⟨xg, i, none⟩ = some (.int .u8 0) := cx
                        clear cx hk9 hmz
                        go_wp2_with fail
                        go_roundw
                        case rel => exact ⟨i + 1, by omega, by go_num, HB12.out⟩
                        case measure => simp [intOf]; omega
                    · have h1' : ¬ (fr : Int) ≤ (i : Int) := by omega
                      have e : kb = false := by
                        cases h9 : kb
                        · rfl
                        · exfalso; rw [hk9, hmz] at h9; simp at h9; omega
                      subst e
                      have cx' : wr.cell? ⟨xg, i, none⟩ = some (.int .u8 0) := cx
                      clear cx hk9 hmz
                      go_wp2_with fail
                      go_roundw
                      case rel => exact ⟨i + 1, by omega, by go_num, HB12.out⟩
                      case measure => simp [intOf]; omega
                  · have hmz : max fr z = fr := by omega
                    have hM1 : ¬ (fr : Int) < (z : Int) := by omega
                    by_cases h1 : fr ≤ i
                    · have h1' : (fr : Int) ≤ (i : Int) := by omega
                      by_cases h2 : i < fr + 128
                      · have h2' : (i : Int) < (fr : Int) + 128 := by omega
                        by_cases h3 : p = 0
                        · subst h3
                          have e : kb = true := by rw [hk9, hmz]; simp; omega
                          subst e
                          have cx' : wr.cell? ⟨xg, i, none⟩ = some (.int .u8 1) := cx
                          clear cx hk9 hmz
                          go_wp2_with fail
                          go_roundw
                          case rel => exact ⟨i + 1, by omega, by go_num, HB12.out⟩
                          case measure => simp [intOf]; omega
                        · have h3' : (p == 0) = false := by simpa using h3
                          by_cases h4 : 2 ≤ p
                          · by_cases h5 : (i : Int) - (fr : Int) < p - 2
                            · have h5' : decide ((i : Int) - (fr : Int) < p - 2) = true := decide_eq_true h5
                              have e : kb = true := by rw [hk9, hmz]; simp; omega
                              subst e
                              have cx' : wr.cell? ⟨xg, i, none⟩ = some (.int .u8 1) := cx
                              clear cx hk9 hmz
                              go_wp2_with fail
                              go_roundw
                              case rel => exact ⟨i + 1, by omega, by go_num, HB12.out⟩
                              case measure => simp [intOf]; omega
                            · skip
                              have e : kb = false := by
                                cases h9 : kb
                                · rfl
                                · exfalso; rw [hk9, hmz] at h9; simp at h9; omega
                              subst e
                              have cx' : wr.cell? ⟨xg, i, none⟩ = some (.int .u8 0) := cx
                              clear cx hk9 hmz
                              go_wp2_with fail
                              go_roundw
                              case rel => exact ⟨i + 1, by omega, by go_num, HB12.out⟩
                              case measure => simp [intOf]; omega
                          · skip
                            have e : kb = false := by
                              cases h9 : kb
                              · rfl
                              · exfalso; rw [hk9, hmz] at h9; simp at h9; omega
                            subst e
                            have cx' : wr.cell? ⟨xg, i, none⟩ = some (.int .u8 0) := cx
                            clear cx hk9 hmz
                            go_wp2_with fail
                            go_roundw
                            case rel => exact ⟨i + 1, by omega, by go_num, HB12.out⟩
                            case measure => simp [intOf]; omega
                      · have h2' : ¬ (i : Int) < (fr : Int) + 128 := by omega
                        have e : kb = false := by
                          cases h9 : kb
                          · rfl
                          · exfalso; rw [hk9, hmz] at h9; simp at h9; omega
                        subst e
                        have cx' : wr.cell? ⟨xg, i, none⟩ = some (.int .u8 0) := cx
                        clear cx hk9 hmz
                        go_wp2_with fail
                        go_roundw
                        case rel => exact ⟨i + 1, by omega, by go_num, HB12.out⟩
                        case measure => simp [intOf]; omega
                    · have h1' : ¬ (fr : Int) ≤ (i : Int) := by omega
                      have e : kb = false := by
                        cases h9 : kb
                        · rfl
                        · exfalso; rw [hk9, hmz] at h9; simp at h9; omega
                      subst e
                      have cx' : wr.cell? ⟨xg, i, none⟩ = some (.int .u8 0) := cx
                      clear cx hk9 hmz
                      go_wp2_with fail
                      go_roundw
                      case rel => exact ⟨i + 1, by omega, by go_num, HB12.out⟩
                      case measure => simp [intOf]; omega
                · obtain rfl : i = 192 := by omega
                  have hi9' : ¬ ((192 : Nat) : Int) < 192 := by omega
                  go_wp2_with fail
                  go_roundw
                  case rel => exact ⟨k + 1, by have := HK.out; omega, by go_num, HB11.out.trans (HB12.out.mono HB11.out.size)⟩
                  case measure => have := HK.out; simp [intOf]; omega
    · have hlt' : ¬ (k : Int) < 40 := by omega
      have hl0 : 0 ≤ (lm : Int) := by omega
      go_wp2_with (go_at_call 27; refine stop9 ?_)
      unfold Hold9
      refine (wakes9 _).mono ?_
      rintro e w7 ⟨rfl, hb7⟩
      have HB7 : Hid (Below W0.heap.size W0 w7) := HB.out.trans (hb7.mono HB.out.size)
      clear hb7
      go_wp2_with fail
      go_ret
      exact ⟨rfl, HB0.out.trans (HB7.out.mono HB0.out.size)⟩
end Go.Proofs.Ytljhhdpeakencaa

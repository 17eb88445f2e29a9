import Derived.Test.YtljhhdpeakencaaHol9
import Derived.Test.YtljhhdpeakencaaPgN
import Derived.Test.YtljhhdpeakencaaJ7
import Derived.Deep.CutBlock
set_option linter.unusedSimpArgs false
set_option linter.unusedVariables false
namespace Go.Proofs.Ytljhhdpeakencaa
open Go.RowKit

/-! tarnlaw9.DiskHoles, walked. -/
theorem rb_string9 {w : World} {v : Value} {l : List UInt8} (h : Rb w v l) (hl : 0 < l.length) : (convert 37 9 v).run Try.prog w = .ok (.string ⟨l.toArray⟩) w := by
  obtain ⟨ad, cap, rfl, _, _, hc⟩ := h
  obtain ⟨g, off, rfl, _⟩ := hc 0 hl
  have e := run_convert_bytes_arg (P := Try.prog) w 37 5 Try.underlying37 Try.underlying5 g off l.length cap (l.map fun b => (b.toNat : Int)) (by simp) (fun i hi => by
    obtain ⟨g', off', e2, hx⟩ := hc i hi
    simp at e2
    obtain ⟨rfl, rfl⟩ := e2
    rw [hx]
    simp [hi]) 9 Try.underlying9
  rw [str_of] at e
  exact e
theorem mk_bytes (n : Nat) (hn : n ≤ 100000) (W : World) : (Instr.makeSlice 37 (.int .i64 (n : Int)) (.int .i64 (n : Int))).run Try.prog W = .ok (.slice (some ⟨W.heap.size, 0, none⟩) n n) (W.alloc (.cells (bc (List.replicate n 0)).toArray 5)) := by
  obtain ⟨i0, hi, hz0, hz1, hz2⟩ := info_of info8
  have h := run_make (P := Try.prog) W 37 5 i0 (.int .u8 0) Try.underlying37 hi hz0 .i64 .i64 (n : Int) (n : Int) (by omega) (by omega) (by rw [hz2]; omega) (by omega)
  have e : madeCells (Value.int .u8 0).cells (((n : Nat) : Int).toNat * i0.size) = (bc (List.replicate n 0)).toArray := by
    rw [hz1]
    apply Array.ext'
    rw [show (Value.int .u8 0).cells = #[.int .u8 0] from rfl, toList_madeCells_one]
    simp [bc]
  rw [e] at h
  simpa using h
theorem ow_made (W : World) (n : Nat) (hn : n ≤ 100000) : Ow (W.alloc (.cells (bc (List.replicate n 0)).toArray 5)) W.heap.size (.slice (some ⟨W.heap.size, 0, none⟩) n n) (List.replicate n 0) := by
  have e : (List.replicate n (0 : UInt8)).length = n := by simp
  refine ⟨by rw [bc_length]; omega, .inr ⟨W.heap.size, n, _, by rw [e], Nat.le_refl _, Bk.new _ _ _, by rw [e]; exact Nat.le_refl _, by unfold maxLen; omega, ?_, ?_⟩⟩
  · simp [bc]
  · simp [bc]
theorem icells_rep (t : Nat) : icells (List.replicate t (1 : Int)) = List.replicate t (.int .i64 1) := by simp [icells]
theorem hps_len (n : Nat) : (hps n).length = n + 1 := by simp
theorem icells_hps (n : Nat) : icells (hps n) = List.replicate n (.int .i64 1) ++ [.int .i64 0] := by simp [icells, hps]
theorem hps_bd (n : Nat) : ∀ p ∈ hps n, -9223372036854775808 ≤ p ∧ p ≤ 9223372036854775807 := fun p hp => by
  rcases List.mem_append.1 hp with h | h
  · have := List.eq_of_mem_replicate h; omega
  · simp at h; omega
theorem hole_facts {w : World} {v : Value} {n : Nat} (h : Ow w 0 v (hX n)) (hn : 1 ≤ n) (hn5 : n ≤ 5) : ∃ xg xc, v = .slice (some ⟨xg, 0, none⟩) (n * 64 + 3) xc ∧ n * 64 + 3 ≤ xc ∧ w.cell? ⟨xg, 0, none⟩ = some (.int .u8 0) ∧ w.cell? ⟨xg, n * 64 - 1, none⟩ = some (.int .u8 0) ∧ (convert 37 9 (.slice (some ⟨xg, n * 64, none⟩) 3 (xc - n * 64))).run Try.prog w = .ok (.string ⟨#[101, 110, 100]⟩) w := by
  obtain ⟨xa, xc, rfl, hcap⟩ := h.shape
  obtain ⟨xg, rfl, _, _⟩ := h.pos9 (by rw [hX_len]; omega)
  have hz : ∀ j (hj : j < n * 64), (hX n)[j]'(by rw [hX_len]; omega) = 0 := fun j hj => by
    unfold hX
    rw [List.getElem_append_left (by rw [List.length_replicate]; exact hj)]
    simp
  have hc : ∀ j (hj : j < n * 64), w.cell? ⟨xg, j, none⟩ = some (.int .u8 0) := fun j hj => by
    have := h.cell9 j (by rw [hX_len]; omega)
    rw [hz j hj] at this
    exact this
  rw [hX_len] at hcap ⊢
  refine ⟨xg, xc, rfl, hcap, hc 0 (by omega), hc (n * 64 - 1) (by omega), ?_⟩
  have hr : Rb w (.slice (some ⟨xg, n * 64, none⟩) end9.length (xc - n * 64)) end9 := by
    have h9 := (h.rb (by rw [hX_len]; omega)).mid (a := n * 64) (m := 3) (by rw [hX_len]; omega)
    have e : ((hX n).drop (n * 64)).take 3 = end9 := by
      unfold hX
      rw [List.drop_left' (by simp)]
      rfl
    rw [e] at h9
    rw [Option.map_some, Addr.add_lit, Nat.zero_add] at h9
    exact h9
  exact rb_string9 hr (by decide)
theorem take_set7 {l : List UInt8} {i : Nat} (hi : i < l.length) (h : l.take i = List.replicate i 7) : (l.set i 7).take (i + 1) = List.replicate (i + 1) 7 := by
  rw [List.take_succ_eq_append_getElem (by rw [List.length_set]; exact hi), List.getElem_set_self, List.take_set_of_le (Nat.le_refl _), h, List.replicate_succ']
set_option maxRecDepth 100000 in
set_option maxHeartbeats 16000000 in
theorem diskHoles_walk (w : World) (fv : Value) (la : Option Addr) (lm lc : Nat) (hlm : lm ≤ 9223372036854775807) :
    Calls Try.prog 12 #[.agg #[fv, .slice la lm lc]] w fun e w' => e = .returned (.bool true) ∧ Below w.heap.size w w' := by
  have hnum : ∀ (n : Int) W, Calls Try.prog 26 #[.int .i64 n] W fun e w' => e = .returned (.int .i64 n) ∧ w' = W := fun n W => lnum n W
  have HNum : Hid _ := hnum
  have HNew : Hid (∀ W, Calls Try.prog 23 #[.slice none 0 0] W fun e w' => e = .returned (.tuple #[.pointer (some ⟨W.heap.size, 0, none⟩), .int .i64 0]) ∧ Below W.heap.size W w' ∧ ∃ O, D1 W w' W.heap.size O (dsN [] 8)) := fun W => d1New W _ [] (Rl.nil9 W) (.inl rfl) sml_nil
  obtain ⟨i0, hi, hz0, hz1, hz2⟩ := info_of infoInt
  clear hnum
  go_enter Try.func12, Try.ntmps12
  go_upto_region 1 with fail
  obtain ⟨W0, hW0⟩ : ∃ W0, W0 = w.alloc (.cells #[fv, .slice la lm lc] 25) := ⟨_, rfl⟩
  rw [← hW0]
  have hX : Bk W0 w.heap.size #[fv, .slice la lm lc] 25 := by rw [hW0]; exact Bk.new _ _ _
  have hB0 : Below w.heap.size w W0 := by rw [hW0]; exact (Below.refl _ _).alloc (Nat.le_refl _) _
  have HB0 : Hid (Below w.heap.size w W0) := hB0
  clear hW0
  have x1 := hX.cell 1
  have xl := hX.lt
  simp only [List.getElem?_toArray, List.getElem?_cons_zero, List.getElem?_cons_succ] at x1
  obtain ⟨X, hXx⟩ : ∃ X, X = w.heap.size := ⟨_, rfl⟩
  rw [← hXx] at x1 xl ⊢
  have x1w : ∀ W, Below W0.heap.size W0 W → W.cell? ⟨X, 1, none⟩ = some (.slice la lm lc) ∧ X < W.heap.size := fun W hW => ⟨(hW.cell (p := ⟨X, 1, none⟩) xl).trans x1, Nat.lt_of_lt_of_le xl hW.size⟩
  have HX1 : Hid _ := x1w
  clear hX hXx hB0 x1w x1 xl
  go_wp2_with fail
  go_loopw [3] (fun i wr => ∃ n : Nat, 1 ≤ n ∧ n ≤ 6 ∧ i = .int .i64 (n : Int) ∧ Below W0.heap.size W0 wr) (fun i _ => 6 - (intOf i).toNat)
  case atStart => exact ⟨1, by omega, by omega, rfl, Below.refl _ _⟩
  case round =>
    obtain ⟨n, hn1, hn, rfl, hb⟩ := hrel
    have HB : Hid (Below W0.heap.size W0 wr) := hb
    obtain ⟨x1, xl⟩ := HX1.out wr hb
    clear hb
    by_cases hlt : n ≤ 5
    · have hlt' : (n : Int) ≤ 5 := by omega
      clear x1 xl
      go_wp2_with (go_at_call 23; refine stop9 ?_)
      unfold Hold9
      refine Calls.mono (HNew.out _) ?_
      rintro e w1 ⟨rfl, hb1, O, h1'⟩
      obtain ⟨wb, hwb⟩ : ∃ wb, wb = wr := ⟨_, rfl⟩
      have H1 : Hid (D1 wb w1 wb.heap.size O (dsN [] 8)) := by rw [hwb]; exact h1'
      replace HB : Hid (Below W0.heap.size W0 wb) := by rw [hwb]; exact HB
      rw [← hwb]
      clear hb1 h1' hwb
      generalize wb.heap.size = d at H1 ⊢
      obtain ⟨at_, hat⟩ : ∃ at_, at_ = n * 64 := ⟨_, rfl⟩
      have HAt : Hid (at_ = n * 64) := hat
      have hw64 : IntKind.i64.wrap ((n : Int) * 64) = (at_ : Int) := by rw [IntWalk.i64_in _ (by omega)]; omega
      have hb64 : 64 ≤ at_ ∧ at_ ≤ 320 := by omega
      have hmk := mk_bytes at_ (by omega) w1
      have hn64 : (n : Int) * 64 = (at_ : Int) := by omega
      clear hat
      go_upto_region 9 with (go_at_call 26; refine Calls.mono (HNum.out _ _) ?_; rintro e w9 ⟨rfl, e9⟩; have e9 := e9.symm; subst e9)
      obtain ⟨W, hW⟩ : ∃ W, W = w1.alloc (.cells (bc (List.replicate at_ 0)).toArray 5) := ⟨_, rfl⟩
      rw [← hW]
      have hO1 : Ow W 0 (.slice (some ⟨w1.heap.size, 0, none⟩) at_ at_) (List.replicate at_ 0) := by rw [hW]; exact (ow_made w1 at_ (by omega)).base0
      have hD1 : D1 wb W d O (dsN [] 8) := by rw [hW]; exact H1.out.below ((Below.refl _ _).alloc (Nat.le_refl _) _)
      have HY : Hid (O w1.heap.size = 0 ∧ wb.heap.size ≤ w1.heap.size) := ⟨H1.out.new (Nat.le_refl _), H1.out.bel.size⟩
      have H2 : Hid (Ow W 0 (.slice (some ⟨w1.heap.size, 0, none⟩) at_ at_) (List.replicate at_ 0) ∧ D1 wb W d O (dsN [] 8)) := ⟨hO1, hD1⟩
      clear hW hO1 hD1 hmk H1 hw64 hn64
      generalize w1.heap.size = Y at *
      go_wp2_with fail
      go_loopw [8] (fun i w5 => ∃ (k : Nat) (l : List UInt8), k ≤ at_ ∧ i = .int .i64 (k : Int) ∧ l.length = at_ ∧ l.take k = List.replicate k 7 ∧ Ow w5 0 (.slice (some ⟨Y, 0, none⟩) at_ at_) l ∧ D1 wb w5 d O (dsN [] 8)) (fun i _ => at_ - (intOf i).toNat)
      case atStart => exact ⟨0, _, by omega, rfl, by simp, rfl, H2.out.1, H2.out.2⟩
      case round =>
        clear H2
        obtain ⟨k, l, hk, rfl, hl, htk, hown, hd5⟩ := hrel
        have H5 : Hid (l.length = at_ ∧ l.take k = List.replicate k 7 ∧ Ow wr 0 (.slice (some ⟨Y, 0, none⟩) at_ at_) l ∧ D1 wb wr d O (dsN [] 8)) := ⟨hl, htk, hown, hd5⟩
        by_cases hka : k < at_
        · have hka' : (k : Int) < (at_ : Int) := by omega
          have hkl : k < l.length := by omega
          obtain ⟨y9, hc⟩ : ∃ y : UInt8, wr.cell? ⟨Y, k, none⟩ = some (.int .u8 (y.toNat : Int)) := ⟨_, hown.cell9 k hkl⟩
          have hf := hown.frozen9 k
          have hx := hown.set9 k 7
          have hy := hd5.keep (W' := wr.setCell ⟨Y, k, none⟩ (.int .u8 7)) (fun b hb => Below.heap_setCell wr ⟨Y, k, none⟩ _ b (fun e => hb (by have e : b = Y := e; rw [e]; exact HY.out.1))) (by simp) (hd5.bel.setCell (p := ⟨Y, k, none⟩) HY.out.2 _)
          have HX : Hid (Ow (wr.setCell ⟨Y, k, none⟩ (.int .u8 7)) 0 (.slice (some ⟨Y, 0, none⟩) at_ at_) (l.set k 7) ∧ D1 wb (wr.setCell ⟨Y, k, none⟩ (.int .u8 7)) d O (dsN [] 8)) := ⟨hx, hy⟩
          have HTk : Hid ((l.set k 7).take (k + 1) = List.replicate (k + 1) 7) := take_set7 hkl htk
          have lY : Y < wr.heap.size := hown.lt Y rfl
          clear hl htk hown hd5 hx hy hkl
          go_wp2_with fail
          go_roundw
          case rel => exact ⟨k + 1, l.set k 7, by omega, by go_num, by rw [List.length_set]; exact H5.out.1, HTk.out, HX.out.1, HX.out.2⟩
          case measure => simp [intOf]; omega
        · obtain rfl : k = at_ := by omega
          have hka' : ¬ (k : Int) < (k : Int) := by omega
          have hl7 : l = hB n := by
            have e := htk
            rw [List.take_of_length_le (by omega)] at e
            rw [e, HAt.out]
          rw [hl7] at hown
          have hrb : Rb wr (.slice (some ⟨Y, 0, none⟩) (hB n).length k) (hB n) := by
            have := hown.rb (by rw [hB_len]; omega)
            rw [hB_len, ← HAt.out]
            exact this
          have HW1 : Hid (Calls Try.prog 50 #[.pointer (some ⟨d, 0, none⟩), .int .i64 6, .int .i64 0, .slice (some ⟨Y, 0, none⟩) k k] wr fun e w' => e = .returned (.int .i64 0) ∧ ∃ O', D1 wb w' d O' (Go.Proofs.Ytljhhdpeakencaa.h1 n)) := by
            have h9 := d1Write hd5 (Few.new sml_nil 8 0) (by omega) 6 0 (some ⟨Y, 0, none⟩) (hB n) k hrb (fun b m e => by simp at e; rw [← e.1]; exact HY.out.1)
            rw [h1_w hlt, hB_len, ← HAt.out] at h9
            exact h9.mono fun e w' ⟨q1, O', q2, q3⟩ => ⟨q1, O', q2⟩
          have hk := fun w => kc9 w #[.int .u8 101, .int .u8 110, .int .u8 100] 3 3
          clear hl htk hown hd5 hl7 hrb H5 HNew
          go_wp2_with (first | (go_at_call 26; refine Calls.mono (HNum.out _ _) ?_; rintro e w9 ⟨rfl, e9⟩; have e9 := e9.symm; subst e9) | (go_at_call 50; refine stop9 ?_))
          unfold Hold9
          refine Calls.mono HW1.out ?_
          rintro e w6 ⟨rfl, O6, h6⟩
          have H6 : Hid (D1 wb w6 d O6 (Go.Proofs.Ytljhhdpeakencaa.h1 n)) := h6
          clear h6 HW1
          have hk6 := hk w6
          clear hk
          have HW2 : Hid (Calls Try.prog 50 #[.pointer (some ⟨d, 0, none⟩), .int .i64 6, .int .i64 (k : Int), .slice (some ⟨w6.heap.size, 0, none⟩) 3 3] (w6.alloc (.cells #[.int .u8 101, .int .u8 110, .int .u8 100] 5 (3, 4))) fun e w' => e = .returned (.int .i64 0) ∧ ∃ O', D1 wb w' d O' (h2 n)) := by
            have h9 := d1Write (H6.out.below (W' := w6.alloc (.cells #[.int .u8 101, .int .u8 110, .int .u8 100] 5 (3, 4))) ((Below.refl _ _).alloc (Nat.le_refl _) _)) (h1_few n) (by omega) 6 ((n * 64 : Nat) : Int) (some ⟨w6.heap.size, 0, none⟩) end9 3 (rb_lit w6 end9 (3, 4) (by decide)) (fun b m e => by simp at e; rw [← e.1]; exact H6.out.new (Nat.le_refl _))
            rw [h2_w hlt, ← HAt.out] at h9
            exact h9.mono fun e w' ⟨q1, O', q2, q3⟩ => ⟨q1, O', by rw [HAt.out] at q2; exact q2⟩
          go_wp2_with (first | (go_at_call 26; refine Calls.mono (HNum.out _ _) ?_; rintro e w9 ⟨rfl, e9⟩; have e9 := e9.symm; subst e9) | (go_at_call 50; refine stop9 ?_))
          unfold Hold9
          refine Calls.mono HW2.out ?_
          rintro e w7 ⟨rfl, O7, h7⟩
          have H7 : Hid (D1 wb w7 d O7 (h2 n)) := h7
          clear h7 HW2 hk6 H6
          go_upto_region 17 with (go_at_call 26; refine Calls.mono (HNum.out _ _) ?_; rintro e w9 ⟨rfl, e9⟩; have e9 := e9.symm; subst e9)
          go_loopw [9, 10] (fun ps i w8 => ∃ (t : Nat), t ≤ n ∧ i = .int .i64 (t : Int) ∧ Oi w8 w7.heap.size ps (List.replicate t 1) ∧ Below w7.heap.size w7 w8) (fun _ i _ => n - (intOf i).toNat)
          case atStart => exact ⟨0, by omega, rfl, World.ownsRow_nil _ _ _ 1, Below.refl _ _⟩
          case round =>
            obtain ⟨t, ht, rfl, hoi, hb8⟩ := hrel
            obtain ⟨a8, n8, c8, rfl⟩ := ownsRow_sl hoi
            have hoi' : wr.ownsRow w7.heap.size 3 1 (.slice a8 n8 c8) t (List.replicate t (.int .i64 1)) := by
              have h9 : wr.ownsRow w7.heap.size 3 1 (.slice a8 n8 c8) (List.replicate t (1 : Int)).length (icells (List.replicate t 1)) := hoi
              rw [List.length_replicate, icells_rep] at h9
              exact h9
            have HOi : Hid (wr.ownsRow w7.heap.size 3 1 (.slice a8 n8 c8) t (List.replicate t (.int .i64 1))) := hoi'
            have HB8 : Hid (Below w7.heap.size w7 wr) := hb8
            have hz8 := hb8.size
            clear hoi hb8
            have htb : t ≤ 5 := by omega
            by_cases htn : t < n
            · have htn' : (t : Int) < (n : Int) := by omega
              go_wp2_with (at_builtin; refine stop9 ?_)
              unfold Hold9
              refine wpList_append_own _ rfl _ _ 38 rfl w7.heap.size 3 i0 (.int .i64 0) 1 8 Try.underlying38 hi hz0 hz1 hz2 rfl (by decide) _ t _ rfl (hoi'.alloc _) ⟨wr.heap.size, 0, none⟩ 1 1 [.int .i64 1] rfl rfl (cell_one_new _ _ _) (by simp [Value.oneCell']) (by unfold maxLen; omega) (by omega) (by simp; omega) ?_
              intro v1 w10 hown1 hgrow1 hnil1
              have h10 : Oi w10 w7.heap.size v1 (List.replicate (t + 1) 1) := by
                show w10.ownsRow _ _ 1 _ _ _
                rw [List.length_replicate, icells_rep, List.replicate_succ']
                exact hown1
              have hb10 : Below w7.heap.size w7 w10 := (HB8.out.alloc hz8 _).grown hgrow1 (by simp; omega) (fun j hj => (HOi.out.lt j hj).1)
              have H10 : Hid (Oi w10 w7.heap.size v1 (List.replicate (t + 1) 1) ∧ Below w7.heap.size w7 w10) := ⟨h10, hb10⟩
              clear h10 hb10 hown1 hgrow1 hnil1 hoi'
              go_wp2_with fail
              go_roundw
              case rel => exact ⟨t + 1, by omega, by go_num, H10.out.1, H10.out.2⟩
              case measure => simp [intOf]; omega
            · obtain rfl : t = n := by omega
              have htn' : ¬ (t : Int) < (t : Int) := by omega
              go_wp2_with (at_builtin; refine stop9 ?_)
              unfold Hold9
              refine wpList_append_own _ rfl _ _ 38 rfl w7.heap.size 3 i0 (.int .i64 0) 1 8 Try.underlying38 hi hz0 hz1 hz2 rfl (by decide) _ t _ rfl (hoi'.alloc _) ⟨wr.heap.size, 0, none⟩ 1 1 [.int .i64 0] rfl rfl (cell_one_new _ _ _) (by simp [Value.oneCell']) (by unfold maxLen; omega) (by omega) (by simp; omega) ?_
              intro v1 w10 hown1 hgrow1 hnil1
              have h10 : Oi w10 w7.heap.size v1 (hps t) := by
                show w10.ownsRow _ _ 1 _ _ _
                rw [hps_len, icells_hps]
                exact hown1
              have hb10 : Below w7.heap.size w7 w10 := (HB8.out.alloc hz8 _).grown hgrow1 (by simp; omega) (fun j hj => (HOi.out.lt j hj).1)
              have hd10 := H7.out.below hb10
              have HCr : Hid (Calls Try.prog 44 #[.pointer (some ⟨d, 0, none⟩), v1] w10 fun e w' => ∃ T rb, e = .returned (.slice (some ⟨rb, 0, none⟩) 8 8) ∧ Rows8 w10 w' T rb (crash (h2 t) (hps t)) ∧ D1 wb w' d O7 { h2 t with off := true } ∧ Fp O7 w10 O7 w') := d1Crash hd10 (h2_few t) (by omega) v1 (hps t) (h10.rp (by rw [hps_len]; omega) (hps_bd t)) (fun _ b m c e => by subst e; exact H7.out.new (h10.lt b rfl).1)
              obtain ⟨a10, n10, c10, rfl⟩ := ownsRow_sl h10
              clear h10 hb10 hd10 hown1 hgrow1 hnil1 hoi' HOi HB8 hz8 H7
              go_wp2_with (go_at_call 44; refine stop9 ?_)
              unfold Hold9
              refine Calls.mono HCr.out ?_
              rintro e w11 ⟨T, rb, rfl, ⟨⟨pb, rv, pv7, hrw⟩, hT⟩, hd11, hf11⟩
              have HB11 : Hid (Below W0.heap.size W0 w11) := HB.out.trans (hd11.bel.mono HB.out.size)
              have hn5 : t ≤ 5 := hlt
              have ho := hrw.ow 6 (by omega)
              rw [h2_crash hn5] at ho
              have HN2 : Hid (Calls Try.prog 23 #[.slice (some ⟨rb, 0, none⟩) 8 8] w11 fun e w' => e = .returned (.tuple #[.pointer (some ⟨w11.heap.size, 0, none⟩), .int .i64 0]) ∧ Below w11.heap.size w11 w' ∧ ∃ O, D1 w11 w' w11.heap.size O (e0 t)) := d1New w11 _ _ (hrw.rl (fun i hi => Nat.le_trans ((h2_few t).crash (hps t) i hi) (by omega))) (.inr (by simp)) (e0_sml t)
              obtain ⟨xg, xc, ev, hcp, c0, cL, hcv⟩ := hole_facts ho (by omega) hn5
              have k6 : w11.cell? ⟨rb, 6, none⟩ = some (rv 6) := (hrw.blk.cell 6).trans (r8_at rv (by omega))
              rw [ev, ← HAt.out] at k6
              rw [← HAt.out] at cL hcv hcp
              have hlb := hrw.blk.lt
              have hk1 : IntKind.i64.wrap ((k : Int) - 1) = ((k - 1 : Nat) : Int) := by rw [IntWalk.i64_in _ (by omega)]; omega
              have hk1' : (k : Int) - 1 = ((k - 1 : Nat) : Int) := by omega
              have hk3 : IntKind.i64.wrap ((k : Int) + 3) = ((k + 3 : Nat) : Int) := by rw [IntWalk.i64_in _ (by omega)]; omega
              have hkx : ¬ xc = k := by omega
              have hkx2 : (k : Int) + 3 ≤ (xc : Int) := by omega
              have hkx3 : (k : Int) ≤ (k : Int) + 3 := by omega
              have hk0 : k - 1 < k + 3 := by omega
              clear hrw hT hd11 hf11 ho ev hcp HCr
              go_upto_region 23 with fail
              have Hn5 : Hid (t ≤ 5) := hn5
              clear c0 cL hcv k6 hlb hk1 hk1' hkx hkx2 hkx3 hk0
              go_wp2_with (go_at_call 23; refine stop9 ?_)
              unfold Hold9
              refine Calls.mono HN2.out ?_
              rintro e w12 ⟨rfl, hb12, O12, h12⟩
              have H12 : Hid (D1 w11 w12 w11.heap.size O12 (e0 t)) := h12
              clear h12 hb12 HN2
              generalize hol : w11.heap.size = ob at H12 ⊢
              have HCu : Hid (Calls Try.prog 36 #[.pointer (some ⟨ob, 0, none⟩), .int .i64 6, .int .i64 (t : Int)] w12 fun e w' => e = .returned (.int .i64 0) ∧ ∃ O', D1 w11 w' ob O' (e1 t)) := by
                have h9 := d1Cut H12.out (e0_few t) (by omega) 6 (t : Int)
                rw [e1_c Hn5.out] at h9
                exact h9.mono fun e w' ⟨q1, O', q2, q3⟩ => ⟨q1, O', q2⟩
              clear hol
              go_wp2_with (first | (go_at_call 26; refine Calls.mono (HNum.out _ _) ?_; rintro e w9 ⟨rfl, e9⟩; have e9 := e9.symm; subst e9) | (go_at_call 36; refine stop9 ?_))
              unfold Hold9
              refine Calls.mono HCu.out ?_
              rintro e w13 ⟨rfl, O13, h13⟩
              have H13 : Hid (D1 w11 w13 ob O13 (e1 t)) := h13
              have HSz : Hid (Calls Try.prog 30 #[.pointer (some ⟨ob, 0, none⟩), .int .i64 6] w13 fun e w' => e = .returned (.tuple #[.int .i64 (t : Int), .int .i64 0]) ∧ w' = w13) := by
                have h9 := d1Size h13 6
                rw [(e1_size Hn5.out).1, (e1_size Hn5.out).2] at h9
                exact h9
              have HCb := d1Crash h13 (e1_few t) (by omega) (.slice none 0 0) [] (Rp.nil9 _) (fun h => absurd rfl h)
              have HCb : Hid _ := HCb
              clear h13 HCu H12
              go_wp2_with (first | (go_at_call 26; refine Calls.mono (HNum.out _ _) ?_; rintro e w9 ⟨rfl, e9⟩; have e9 := e9.symm; subst e9) | (go_at_call 30; refine Calls.mono HSz.out ?_; rintro e w9 ⟨rfl, e9⟩; have e9 := e9.symm; subst e9) | (go_at_call 44; refine stop9 ?_))
              unfold Hold9
              refine Calls.mono HCb.out ?_
              rintro e w14 ⟨T1, rb1, rfl, ⟨⟨pb1, rv1, pv1, hrw1⟩, hT1⟩, hd14, hf14⟩
              have hl1 := e1_back Hn5.out (e1 t).off
              have H14 : Hid (RW w14 T1 rb1 pb1 rv1 pv1 (crash (e1 t) []) ∧ (∀ b, T1 b ≠ 0 → w13.heap.size ≤ b) ∧ D1 w11 w14 ob O13 { e1 t with off := true } ∧ (∀ b, O13 b ≠ 0 → b < w13.heap.size)) := ⟨hrw1, hT1, hd14, H13.out.olt⟩
              clear hrw1 hT1 hd14 hf14 hl1 HCb HSz H13
              go_wp2_with (go_at_call 44; refine stop9 ?_)
              unfold Hold9
              have hd15 := H14.out.2.2.1.below (W' := w14.alloc (.cells #[.int .i64 0] 3)) ((Below.refl _ _).alloc (Nat.le_refl _) _)
              have hrp : Rp (w14.alloc (.cells #[.int .i64 0] 3)) (.slice (some ⟨w14.heap.size, 0, none⟩) 1 1) [0] := ⟨some ⟨w14.heap.size, 0, none⟩, 1, rfl, by simp, by simp, by simp, fun i hi => ⟨w14.heap.size, 0, rfl, by
                obtain rfl : i = 0 := by simpa using hi
                exact (Bk.new w14 #[.int .i64 0] 3).cell 0⟩⟩
              have HC2 := d1Crash hd15 ((e1_few t).off true) (by omega) (.slice (some ⟨w14.heap.size, 0, none⟩) 1 1) [0] hrp (fun _ b m c e => by simp at e; rw [← e.1.1]; exact H14.out.2.2.1.new (Nat.le_refl _))
              refine Calls.mono HC2 ?_
              rintro e w15 ⟨T2, rb2, rfl, ⟨⟨pb2, rv2, pv2, hrw2⟩, hT2⟩, hd15', hf15⟩
              have hrw1 := (H14.out.1.below (W' := w14.alloc (.cells #[.int .i64 0] 3)) ((Below.refl _ _).alloc (Nat.le_refl _) _)).frame (W' := w15) (fun b hb => hf15.keep b (by have := H14.out.1.lt b hb; simp; omega) (Classical.byContradiction fun h9 => by have := H14.out.2.2.2 b h9; have := H14.out.2.1 b hb; omega))
              obtain ⟨r1a, r1c, er1, _⟩ := (hrw1.ow 6 (by omega)).shape
              obtain ⟨r2a, r2c, er2, _⟩ := (hrw2.ow 6 (by omega)).shape
              have k61 : w15.cell? ⟨rb1, 6, none⟩ = some (rv1 6) := (hrw1.blk.cell 6).trans (r8_at rv1 (by omega))
              have k62 : w15.cell? ⟨rb2, 6, none⟩ = some (rv2 6) := (hrw2.blk.cell 6).trans (r8_at rv2 (by omega))
              have l1 : (crash (e1 t) [] 6).length = k + 3 := by rw [HAt.out]; exact e1_back Hn5.out (e1 t).off
              have l2 : (crash { e1 t with off := true } [0] 6).length = t := e1_cut Hn5.out true
              rw [er1, l1] at k61
              rw [er2, l2] at k62
              have lb1 := hrw1.blk.lt
              have lb2 := hrw2.blk.lt
              have HB15 : Hid (Below W0.heap.size W0 w15) := HB11.out.trans (hd15'.bel.mono HB11.out.size)
              clear hd15 hrp HC2 hrw1 hrw2 hT2 hd15' hf15 er1 er2 l1 l2 H14
              go_wp2_with (go_at_call 26; refine Calls.mono (HNum.out _ _) ?_; rintro e w9 ⟨rfl, e9⟩; have e9 := e9.symm; subst e9)
              go_roundw
              case rel => exact ⟨t + 1, by omega, by omega, by go_num, HB15.out⟩
              case measure => simp [intOf]; omega
    · have hlt' : ¬ (n : Int) ≤ 5 := by omega
      have hl0 : 0 ≤ (lm : Int) := by omega
      have HMay : Hid (∀ W, Calls Try.prog 25 #[.slice none 0 0] W fun e w' => e = .returned (.bool true) ∧ w' = W) := fun W => pmay W _ [] (Rl.nil9 W)
      have HWi : Hid (∀ W, Calls Try.prog 29 #[.int .i64 (lm : Int), .int .i64 3] W fun e w' => (∃ k : Nat, k < 3 ∧ e = .returned (.int .i64 (k : Int))) ∧ w' = W) := fun W => within9 (lm : Int) 3 (by omega) (by omega) W
      go_wp2_with (first | (go_at_call 25; refine Calls.mono (HMay.out _) ?_; rintro e w9 ⟨rfl, e9⟩; have e9 := e9.symm; subst e9) | (go_at_call 29; refine Calls.mono (HWi.out _) ?_; rintro e w9 ⟨⟨z, hz, rfl⟩, e9⟩; have e9 := e9.symm; subst e9; have hz' : (z : Int) < 3 := (by omega); have hz'' : decide ((z : Int) < 3) = true := decide_eq_true hz') | (go_at_call 27; refine stop9 ?_))
      unfold Hold9
      refine (wakes9 _).mono ?_
      rintro e w7 ⟨rfl, hb7⟩
      have HB7 : Hid (Below W0.heap.size W0 w7) := HB.out.trans (hb7.mono HB.out.size)
      clear hb7
      go_wp2_with fail
      go_ret
      exact ⟨rfl, HB0.out.trans (HB7.out.mono HB0.out.size)⟩
end Go.Proofs.Ytljhhdpeakencaa

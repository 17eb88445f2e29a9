import Derived.Test.YtjbhegakgdcldaaJ11
import Derived.Deep.CutBlock
set_option linter.unusedSimpArgs false
set_option linter.unusedVariables false
set_option maxRecDepth 100000
namespace Go.Proofs.Ytjbhegakgdcldaa
open Go.RowKit

/-! tarnlaw10.ShelfFull, walked. -/
def longS : ByteArray := ⟨Array.replicate 112 0⟩
theorem longS_size : longS.size = 112 := rfl
theorem long_make (W : World) : (Instr.makeSlice 58 (.int .i64 112) (.int .i64 112)).run Try.prog W = .ok (.slice (some ⟨W.heap.size, 0, none⟩) 112 112) (W.alloc (.cells (bc (List.replicate 112 0)).toArray 5)) := by
  obtain ⟨i0, hi, hz0, hz1, hz2⟩ := info_of infoBy
  have h := run_make (P := Try.prog) W 58 5 i0 (.int .u8 0) Try.underlying58 hi hz0 .i64 .i64 112 112 (by omega) (by omega) (by rw [hz2]; omega) (by omega)
  have e : madeCells (Value.int .u8 0).cells ((112 : Int).toNat * i0.size) = (bc (List.replicate 112 0)).toArray := by
    apply Array.toList_inj.1
    rw [hz1]
    simp only [Value.cells, Nat.mul_one]
    rw [toList_madeCells_one]
    simp [bc]
  rw [e] at h
  simpa using h
theorem long_str (W : World) (g : Nat) (h : Bk W g (bc (List.replicate 112 0)).toArray 5) : (convert 58 9 (.slice (some ⟨g, 0, none⟩) 112 112)).run Try.prog W = .ok (.string longS) W := by
  have hr : Rb W (.slice (some ⟨g, 0, none⟩) 112 112) (List.replicate 112 0) := ⟨some ⟨g, 0, none⟩, 112, by rw [List.length_replicate], by rw [List.length_replicate]; omega, by rw [List.length_replicate]; omega, fun i hi => ⟨g, 0, rfl, by
    rw [Nat.zero_add]
    exact (h.cell i).trans (by rw [← Array.getElem?_toList]; exact bc_at _ i hi)⟩⟩
  have := rb_string hr (by rw [List.length_replicate])
  rw [this]
  congr 2
theorem low_rep (n : Nat) (t : ByteArray) : low (List.replicate n ⟨1, t⟩) = n := by
  induction n with
  | zero => rfl
  | succ k ih =>
    rw [List.replicate_succ]
    unfold low
    rw [if_neg (by show ¬ (1 : UInt8) = 0; decide), ih]
theorem setP_rep (n : Nat) (p : Pl) : setP (List.replicate n p) n p = List.replicate (n + 1) p := by
  unfold setP
  rw [if_pos (by simp), List.replicate_succ']
theorem getD_rep {n i : Nat} (h : i < n) (p : Pl) : (List.replicate n p).getD i pl0 = p := by
  simp [List.getD, h]
theorem low_hole {n k : Nat} (h : k < n) (t : ByteArray) : low ((List.replicate n ⟨1, t⟩).set k pl0) = k := by
  refine low_at _ k (by simpa using h) (fun q hq => ?_) ?_
  · rw [getD_set (by simpa using h), if_neg (by omega), getD_rep (by omega)]
    show ¬ (1 : UInt8) = 0
    decide
  · rw [getD_set (by simpa using h), if_pos rfl]; rfl
theorem ents_full : ∀ (ps : List Pl) (k : Nat), (∀ i, i < ps.length → (ps.getD i pl0).m ≠ 0) → (ents k ps).length = ps.length
  | [], k, _ => rfl
  | p :: l, k, h => by
    have hp : p.m ≠ 0 := h 0 (by simp)
    have := ents_full l (k + 1) (fun i hi => h (i + 1) (by simp; omega))
    unfold ents
    rw [if_neg hp, List.length_cons, this, List.length_cons]
set_option maxHeartbeats 16000000 in
theorem shelfFull_walk (w : World) (kv fv ov : Value) (la : Option Addr) (lm lc : Nat) (hlm : lm ≤ 9223372036854775807) :
    Calls Try.prog 6 #[.agg #[kv, fv, .slice la lm lc, ov]] w fun e w' => e = .returned (.bool true) ∧ Below w.heap.size w w' := by
  have HD : Hid (∀ W, Calls Try.prog 21 #[.slice none 0 0] W fun e w' => e = .returned (.pointer (some ⟨W.heap.size, 0, none⟩)) ∧ Below W.heap.size W w' ∧ ∃ O, D1 W w' W.heap.size O (dsN [] 8)) := fun W => disk10 W _ [] (Rl.nil9 W) (.inl rfl) sml_nil
  have hmk := long_make
  have hst0 := long_str
  obtain ⟨Z, hZ⟩ : ∃ Z, Z = (bc (List.replicate 112 0)).toArray := ⟨_, rfl⟩
  rw [← hZ] at hmk hst0
  obtain ⟨LS, hLS⟩ : ∃ LS, LS = longS := ⟨_, rfl⟩
  have HLs : Hid (LS.size = 112) := by show _ = _; rw [hLS]; rfl
  rw [← hLS] at hst0
  clear hLS
  have HSt : Hid (∀ W g, Bk W g Z 5 → (convert 58 9 (.slice (some ⟨g, 0, none⟩) 112 112)).run Try.prog W = .ok (.string LS) W) := hst0
  clear hZ hst0
  go_enter Try.func6, Try.ntmps6
  go_upto_region 1 with fail
  obtain ⟨W0, hW0⟩ : ∃ W0, W0 = w.alloc (.cells #[kv, fv, .slice la lm lc, ov] 25) := ⟨_, rfl⟩
  rw [← hW0]
  have hX : Bk W0 w.heap.size #[kv, fv, .slice la lm lc, ov] 25 := by rw [hW0]; exact Bk.new _ _ _
  have HB0 : Hid (Below w.heap.size w W0) := by show Below _ _ _; rw [hW0]; exact (Below.refl _ _).alloc (Nat.le_refl _) _
  obtain ⟨X, hXx⟩ : ∃ X, X = w.heap.size := ⟨_, rfl⟩
  rw [← hXx] at hX ⊢
  have HX : Hid (Bk W0 X #[kv, fv, .slice la lm lc, ov] 25) := hX
  clear hW0 hX hXx
  go_wp2_with (go_at_call 21; refine stop10 ?_)
  unfold Hold10
  refine Calls.mono (HD.out _) ?_
  rintro e w1 ⟨rfl, _, O1, h1⟩
  have H1 : Hid (D1 W0 w1 W0.heap.size O1 (dsN [] 8)) := h1
  clear h1
  go_wp2_with (go_at_call 22; refine stop10 ?_)
  unfold Hold10
  refine Calls.mono (Sf.open (f := 3) (n := 128) H1.out (calm_new sml_nil 8) (by omega) (by omega) rfl) ?_
  rintro e w2 ⟨rfl, O2, P2, h2, _⟩
  have H2 : Hid (Sf W0 w2 W0.heap.size O2 P2 w1.heap.size 3 128 (psyD (dsN [] 8) (3 : Nat)) []) := h2
  clear h2
  obtain ⟨S, hS⟩ : ∃ S, S = w1.heap.size := ⟨_, rfl⟩
  rw [← hS] at H2 ⊢
  clear hS
  have hst := HSt.out (w2.alloc (.cells Z 5)) w2.heap.size (Bk.new _ _ _)
  go_wp2_with (go_at_call 23; refine (num10 _ _).mono ?_; rintro e w9 ⟨rfl, hw9⟩; have hw9 := hw9.symm; subst hw9)
  have HB2 : Hid (Below w2.heap.size w2 (w2.alloc (.cells Z 5))) := (Below.refl _ _).alloc (Nat.le_refl _) _
  go_loopw [6] (fun k wr => ∃ i : Nat, i ≤ 128 ∧ k = .int .i64 (i : Int) ∧ Hid (∃ O P D, Sf W0 wr W0.heap.size O P S 3 128 D (List.replicate i ⟨1, LS⟩))) (fun k _ => 128 - (intOf k).toNat)
  case atStart => exact ⟨0, by omega, rfl, O2, P2, _, H2.out.below HB2.out⟩
  case round =>
    clear hst hmk
    obtain ⟨i, hi, rfl, HI⟩ := hrel
    obtain ⟨O3, P3, D3, h3⟩ := HI.out
    have H3 : Hid (Sf W0 wr W0.heap.size O3 P3 S 3 128 D3 (List.replicate i ⟨1, LS⟩)) := h3
    clear h3
    by_cases hlt : i < 128
    · have hlti : (i : Int) < 128 := by omega
      have HPt : Hid (Calls Try.prog 29 #[.pointer (some ⟨S, 0, none⟩), .string LS] wr fun e w' => e = .returned (.tuple #[.int .i64 (i : Int), .int .i64 0]) ∧ ∃ O P D, Sf W0 w' W0.heap.size O P S 3 128 D (List.replicate (i + 1) ⟨1, LS⟩)) := by
        refine (H3.out.put (by omega) (by omega) LS (by rw [HLs.out]; omega) (by rw [low_rep]; omega)).mono ?_
        rintro e w' ⟨rfl, O', P', D', h9, _⟩
        rw [low_rep, setP_rep] at h9
        rw [low_rep]
        exact ⟨rfl, O', P', D', h9⟩
      go_wp2_with (first
        | (go_at_call 23; refine (num10 _ _).mono ?_; rintro e w9 ⟨rfl, hw9⟩; have hw9 := hw9.symm; subst hw9)
        | (go_at_call 29; refine Calls.mono HPt.out ?_; rintro e w8 ⟨rfl, h8⟩; have H8 : Hid (∃ O P D, Sf W0 w8 W0.heap.size O P S 3 128 D (List.replicate (i + 1) ⟨1, LS⟩)) := h8; clear h8))
      go_roundw
      case rel => exact ⟨i + 1, by omega, by go_num, H8⟩
      case measure => simp [intOf]; omega
    · obtain rfl : i = 128 := by omega
      have HPt : Hid (Calls Try.prog 29 #[.pointer (some ⟨S, 0, none⟩), .string ⟨#[]⟩] wr fun e w' => e = .returned (.tuple #[.int .i64 0, .int .i64 5]) ∧ ∃ O P, Sf W0 w' W0.heap.size O P S 3 128 D3 (List.replicate 128 ⟨1, LS⟩)) := by
        refine (H3.out.putNo (by omega) (by omega) ⟨#[]⟩ (.inr (low_rep _ _))).mono ?_
        rintro e w' ⟨rfl, O', P', h9, _⟩
        exact ⟨rfl, O', P', h9⟩
      go_wp2_with (go_at_call 29; refine stop10 ?_)
      unfold Hold10
      refine Calls.mono HPt.out ?_
      rintro e w4 ⟨rfl, O4, P4, h4⟩
      have H4 : Hid (Sf W0 w4 W0.heap.size O4 P4 S 3 128 D3 (List.replicate 128 ⟨1, LS⟩)) := h4
      clear h4
      have hls := HLs.out
      go_wp2_with (go_at_call 29; refine stop10 ?_)
      clear hls
      unfold Hold10
      have hs113 : (LS ++ (⟨#[120]⟩ : ByteArray)).size = 113 := by rw [ByteArray.size_append, HLs.out]; rfl
      obtain ⟨LX, hLX⟩ : ∃ LX, LX = LS ++ (⟨#[120]⟩ : ByteArray) := ⟨_, rfl⟩
      rw [← hLX]
      rw [← hLX] at hs113
      clear hLX
      have HPx : Hid (Calls Try.prog 29 #[.pointer (some ⟨S, 0, none⟩), .string LX] w4 fun e w' => e = .returned (.tuple #[.int .i64 0, .int .i64 2]) ∧ ∃ O P, Sf W0 w' W0.heap.size O P S 3 128 D3 (List.replicate 128 ⟨1, LS⟩)) := by
        refine (H4.out.putNo (by omega) (by omega) LX (.inl (by rw [hs113]; omega))).mono ?_
        rintro e w' ⟨rfl, O', P', h9, _⟩
        rw [if_pos (by rw [hs113]; omega)]
        exact ⟨rfl, O', P', h9⟩
      refine Calls.mono HPx.out ?_
      rintro e w5 ⟨rfl, O5, P5, h5⟩
      have H5 : Hid (Sf W0 w5 W0.heap.size O5 P5 S 3 128 D3 (List.replicate 128 ⟨1, LS⟩)) := h5
      clear h5 hs113 HPx
      have hX5 := HX.out.below H5.out.bel HX.out.lt
      have q2 := hX5.cell 2
      have ql := hX5.lt
      simp only [List.getElem?_toArray, List.getElem?_cons_zero, List.getElem?_cons_succ] at q2
      clear hX5
      go_wp2_with (go_at_call 20; refine stop10 ?_)
      unfold Hold10
      refine (within9 _ 128 (by omega) (by omega) _).mono ?_
      rintro e w6 ⟨⟨k, hk, rfl⟩, hw6⟩
      have hw6 := hw6.symm
      subst hw6
      clear q2 ql
      have HK : Hid (k < 128) := hk
      clear hk
      have HDl : Hid (Calls Try.prog 25 #[.pointer (some ⟨S, 0, none⟩), .int .i64 (k : Int)] w5 fun e w' => e = .returned (.int .i64 0) ∧ ∃ O P D, Sf W0 w' W0.heap.size O P S 3 128 D ((List.replicate 128 ⟨1, LS⟩).set k pl0)) := by
        have hk := HK.out
        refine (H5.out.del (by omega) (by omega) k (by rw [hasP_in (by simpa using hk), getD_rep hk]; exact decide_eq_true (by show ¬ (1 : UInt8) = 0; decide))).mono ?_
        rintro e w' ⟨rfl, O', P', D', h9, _⟩
        exact ⟨rfl, O', P', D', h9⟩
      go_wp2_with (go_at_call 25; refine stop10 ?_)
      unfold Hold10
      refine Calls.mono HDl.out ?_
      rintro e w7 ⟨rfl, O7, P7, D7, h7⟩
      have H7 : Hid (Sf W0 w7 W0.heap.size O7 P7 S 3 128 D7 ((List.replicate 128 ⟨1, LS⟩).set k pl0)) := h7
      clear h7 HDl
      have HPt2 : Hid (Calls Try.prog 29 #[.pointer (some ⟨S, 0, none⟩), .string ⟨#[120]⟩] w7 fun e w' => e = .returned (.tuple #[.int .i64 (k : Int), .int .i64 0]) ∧ ∃ O P D, Sf W0 w' W0.heap.size O P S 3 128 D ((List.replicate 128 ⟨1, LS⟩).set k ⟨1, ⟨#[120]⟩⟩)) := by
        have hk := HK.out
        refine (H7.out.put (by omega) (by omega) ⟨#[120]⟩ (by show 1 + 16 ≤ 128; omega) (by rw [low_hole hk]; omega)).mono ?_
        rintro e w' ⟨rfl, O', P', D', h9, _⟩
        rw [low_hole hk] at h9 ⊢
        have e1 : setP ((List.replicate 128 (⟨1, LS⟩ : Pl)).set k pl0) k ⟨1, ⟨#[120]⟩⟩ = (List.replicate 128 ⟨1, LS⟩).set k ⟨1, ⟨#[120]⟩⟩ := by
          unfold setP
          rw [if_neg (by simp; omega), List.set_set]
        rw [e1] at h9
        exact ⟨rfl, O', P', D', h9⟩
      go_wp2_with (go_at_call 29; refine stop10 ?_)
      unfold Hold10
      refine Calls.mono HPt2.out ?_
      rintro e w8 ⟨rfl, O8, P8, D8, h8⟩
      have H8 : Hid (Sf W0 w8 W0.heap.size O8 P8 S 3 128 D8 ((List.replicate 128 ⟨1, LS⟩).set k ⟨1, ⟨#[120]⟩⟩)) := h8
      clear h8 HPt2
      have HGt : Hid (Calls Try.prog 26 #[.pointer (some ⟨S, 0, none⟩), .int .i64 (k : Int)] w8 fun e w' => e = .returned (.tuple #[.string ⟨#[120]⟩, .int .i64 0]) ∧ w' = w8) := by
        have hk := HK.out
        have := H8.out.get (by omega) (by omega) (k : Int)
        have e0 : ((List.replicate 128 (⟨1, LS⟩ : Pl)).set k ⟨1, ⟨#[120]⟩⟩).getD k pl0 = ⟨1, ⟨#[120]⟩⟩ := by rw [getD_set (by simpa using hk), if_pos rfl]
        have e1 : hasP ((List.replicate 128 (⟨1, LS⟩ : Pl)).set k ⟨1, ⟨#[120]⟩⟩) (k : Int) = true := by
          rw [hasP_in (by simpa using hk), e0]
          exact decide_eq_true (by show ¬ (1 : UInt8) = 0; decide)
        have e2 : getV ((List.replicate 128 (⟨1, LS⟩ : Pl)).set k ⟨1, ⟨#[120]⟩⟩) (k : Int) = ⟨#[120]⟩ := by unfold getV; rw [if_pos e1, Int.toNat_natCast, e0]
        have e3 : getE ((List.replicate 128 (⟨1, LS⟩ : Pl)).set k ⟨1, ⟨#[120]⟩⟩) (k : Int) = 0 := by unfold getE; rw [if_pos e1]
        rw [e2, e3] at this
        exact this
      go_wp2_with (go_at_call 26; refine stop10 ?_)
      unfold Hold10
      refine Calls.mono HGt.out ?_
      rintro e w9 ⟨rfl, hw9⟩
      have hw9 := hw9.symm
      subst hw9
      go_wp2_with (go_at_call 22; refine stop10 ?_)
      unfold Hold10
      refine (open_no _ (.pointer none) _ _ (.inl rfl)).mono ?_
      rintro e w9 ⟨rfl, hw9⟩
      have hw9 := hw9.symm
      subst hw9
      go_wp2_with (go_at_call 21; refine stop10 ?_)
      unfold Hold10
      refine Calls.mono (HD.out _) ?_
      rintro e wA ⟨rfl, hbA, _⟩
      have HA : Hid (Below w8.heap.size w8 wA) := hbA
      clear hbA
      go_wp2_with (go_at_call 22; refine stop10 ?_)
      unfold Hold10
      refine (open_no _ (.pointer (some ⟨w8.heap.size, 0, none⟩)) _ _ (.inr ⟨⟨_, rfl⟩, .inr (.inr rfl)⟩)).mono ?_
      rintro e w9 ⟨rfl, hw9⟩
      have hw9 := hw9.symm
      subst hw9
      go_wp2_with (go_at_call 21; refine stop10 ?_)
      unfold Hold10
      refine Calls.mono (HD.out _) ?_
      rintro e wB ⟨rfl, hbB, _⟩
      have HBb : Hid (Below w8.heap.size w8 wB) := HA.out.trans (hbB.mono HA.out.size)
      clear hbB
      go_wp2_with (go_at_call 22; refine stop10 ?_)
      unfold Hold10
      refine (open_no _ (.pointer (some ⟨wA.heap.size, 0, none⟩)) _ _ (.inr ⟨⟨_, rfl⟩, .inr (.inl (by omega))⟩)).mono ?_
      rintro e w9 ⟨rfl, hw9⟩
      have hw9 := hw9.symm
      subst hw9
      have H9 : Hid (Sf W0 wB W0.heap.size O8 P8 S 3 128 D8 ((List.replicate 128 ⟨1, LS⟩).set k ⟨1, ⟨#[120]⟩⟩)) := H8.out.below HBb.out
      go_wp2_with (first
        | (go_at_call 23; refine (num10 _ _).mono ?_; rintro e w9 ⟨rfl, hw9⟩; have hw9 := hw9.symm; subst hw9)
        | (go_at_call 31; refine stop10 ?_))
      unfold Hold10
      refine (H9.out.len (by omega) (by omega)).mono ?_
      rintro e wC ⟨rfl, hbC⟩
      have eN : ((ents 0 ((List.replicate 128 (⟨1, LS⟩ : Pl)).set k ⟨1, ⟨#[120]⟩⟩)).length : Int) = 128 := by
        have hk := HK.out
        rw [ents_full _ 0 (fun i hi => ?_), List.length_set, List.length_replicate]
        · rfl
        · rw [getD_set (by simpa using hk)]
          split
          · show ¬ (1 : UInt8) = 0; decide
          · rw [getD_rep (by simpa using hi)]; show ¬ (1 : UInt8) = 0; decide
      rw [eN]
      have HC : Hid (Below W0.heap.size W0 wC) := H9.out.bel.trans (hbC.mono H9.out.bel.size)
      clear hbC eN
      go_wp2_with (first
        | (go_at_call 23; refine (num10 _ _).mono ?_; rintro e w9 ⟨rfl, hw9⟩; have hw9 := hw9.symm; subst hw9)
        | (go_at_call 33; refine stop10 ?_))
      unfold Hold10
      refine (wakes10 _).mono ?_
      rintro e wD ⟨rfl, hbD⟩
      have HDd : Hid (Below w.heap.size w wD) := HB0.out.trans ((HC.out.trans (hbD.mono HC.out.size)).mono HB0.out.size)
      clear hbD
      go_wp2_with fail
      go_ret
      exact ⟨rfl, HDd.out⟩
end Go.Proofs.Ytjbhegakgdcldaa

/- Texts joined: CpM CpS CpT RID. -/
import Derived.Test.YtapjonmgjccpbaaGreatJ0
import Derived.Test.YtapjonmgjccpbaaGreatJ9
import Derived.Test.YtapjonmgjccpbaaGreatRB7
section
set_option linter.unusedSimpArgs false
set_option linter.unusedVariables false
namespace Go.Proofs.YtapjonmgjccpbaaGreat
open Go.RowKit

/-! tarnref0.CopyMarks: new memory. -/
theorem copyMarks_take_succ (f : Nat → Nat) (k : Nat) : (List.range (k + 1)).map f = (List.range k).map f ++ [f k] := by simp [List.range_succ]
set_option maxRecDepth 100000 in
set_option maxHeartbeats 1000000 in
theorem copyMarks (v : Value) (f : Nat → Nat) (n : Nat) (w : World) (hs : Su w v f n) (hn : n ≤ 1099511627776) :
    Calls Tryz.prog 26 #[v] w fun r w' => (∃ u, r = .returned u ∧ Or 24 cU w' w.heap.size u ((List.range n).map f)) ∧ Below w.heap.size w w' := by
  obtain ⟨-, -, ad, cap, rfl, hat⟩ := hs
  obtain ⟨i0, hi, hz0, hz1, hz2⟩ := info_of infoU
  have HA : Hid (∀ i, i < n → ∃ b off, ad = some ⟨b, off, none⟩ ∧ w.cell? ⟨b, off + i, none⟩ = some (cU (f i))) := hat
  clear hat
  go_enter Tryz.func26, Tryz.ntmps26
  go_wp2_with fail
  go_loopw [3, 4] (fun u i wr => ∃ (k : Nat), k ≤ n ∧ i = .int .i64 (k : Int) ∧ Or 24 cU wr w.heap.size u ((List.range k).map f) ∧ Below w.heap.size w wr) (fun _ i _ => n - (intOf i).toNat)
  case atStart => exact ⟨0, by omega, rfl, Or.nil _ _ _ _, Below.refl _ _⟩
  case round =>
    obtain ⟨k, hk, rfl, hown, hbl⟩ := hrel
    have hsz2 := hbl.size
    by_cases hlt : k < n
    · have hlt' : (k : Int) < (n : Int) := by omega
      obtain ⟨b, off, rfl, hc⟩ := HA.out k hlt
      have hc := (hbl.cell (cell_lt' hc)).trans hc
      have HST : Hid ((List.range (k + 1)).map f = (List.range k).map f ++ [f k]) := copyMarks_take_succ f k
      have hl : ((List.range k).map f).length = k := by simp
      obtain ⟨ad, cap, rfl, hcap⟩ := hown.shape
      have HO : Hid (Or 24 cU wr w.heap.size (.slice ad ((List.range k).map f).length cap) ((List.range k).map f)) := hown
      have hown : wr.ownsRow w.heap.size 24 1 (.slice ad ((List.range k).map f).length cap) ((List.range k).map f).length (((List.range k).map f).map cU) := hown
      rw [hl] at hown ⊢
      generalize f k = y at *
      go_wp2_with (at_builtin; refine wpList_append_own _ rfl _ _ 27 rfl w.heap.size 24 i0 (.int .u64 0) 1 8 Tryz.underlying27 hi hz0 hz1 hz2 rfl (by decide) _ k _ rfl (hown.alloc _) ⟨wr.heap.size, 0, none⟩ 1 1 [cU y] rfl rfl (cell_one_new _ _ _) (by simp [Value.oneCell']) (by unfold maxLen; omega) (by omega) (by simp; omega) ?_; intro v1 w1 hown1 hgrow1 hnil1)
      go_roundw
      case rel =>
        refine ⟨k + 1, by omega, by go_num, ?_, ?_⟩
        · unfold Or
          rw [HST.out, List.map_append, List.length_append, hl]
          exact hown1
        · exact (hbl.alloc hsz2 _).grown hgrow1 (by simp; omega) (fun j hj => (HO.out.ge (by rw [hl]; exact hj)).1)
      case measure => simp [intOf]; omega
    · have hlt' : ¬ (k : Int) < (n : Int) := by omega
      obtain rfl : k = n := by omega
      go_wp2_with fail
      obtain ⟨ad', cap', rfl, hcap⟩ := hown.shape
      go_ret
      exact ⟨⟨_, rfl, hown⟩, hbl⟩
end Go.Proofs.YtapjonmgjccpbaaGreat
end
section
set_option linter.unusedSimpArgs false
set_option linter.unusedVariables false
namespace Go.Proofs.YtapjonmgjccpbaaGreat
open Go.RowKit

/-! tarnref0.CopyStrings: new memory. -/
theorem copyStrings_take_succ (f : Nat → ByteArray) (k : Nat) : (List.range (k + 1)).map f = (List.range k).map f ++ [f k] := by simp [List.range_succ]
set_option maxRecDepth 100000 in
set_option maxHeartbeats 1000000 in
theorem copyStrings (v : Value) (f : Nat → ByteArray) (n : Nat) (w : World) (hs : Ss w v f n) (hn : n ≤ 1099511627776) :
    Calls Tryz.prog 27 #[v] w fun r w' => (∃ u, r = .returned u ∧ Or 9 cS w' w.heap.size u ((List.range n).map f)) ∧ Below w.heap.size w w' := by
  obtain ⟨-, -, ad, cap, rfl, hat⟩ := hs
  obtain ⟨i0, hi, hz0, hz1, hz2⟩ := info_of infoS
  have HA : Hid (∀ i, i < n → ∃ b off, ad = some ⟨b, off, none⟩ ∧ w.cell? ⟨b, off + i, none⟩ = some (cS (f i))) := hat
  clear hat
  go_enter Tryz.func27, Tryz.ntmps27
  go_wp2_with fail
  go_loopw [3, 4] (fun u i wr => ∃ (k : Nat), k ≤ n ∧ i = .int .i64 (k : Int) ∧ Or 9 cS wr w.heap.size u ((List.range k).map f) ∧ Below w.heap.size w wr) (fun _ i _ => n - (intOf i).toNat)
  case atStart => exact ⟨0, by omega, rfl, Or.nil _ _ _ _, Below.refl _ _⟩
  case round =>
    obtain ⟨k, hk, rfl, hown, hbl⟩ := hrel
    have hsz2 := hbl.size
    by_cases hlt : k < n
    · have hlt' : (k : Int) < (n : Int) := by omega
      obtain ⟨b, off, rfl, hc⟩ := HA.out k hlt
      have hc := (hbl.cell (cell_lt' hc)).trans hc
      have HST : Hid ((List.range (k + 1)).map f = (List.range k).map f ++ [f k]) := copyStrings_take_succ f k
      have hl : ((List.range k).map f).length = k := by simp
      obtain ⟨ad, cap, rfl, hcap⟩ := hown.shape
      have HO : Hid (Or 9 cS wr w.heap.size (.slice ad ((List.range k).map f).length cap) ((List.range k).map f)) := hown
      have hown : wr.ownsRow w.heap.size 9 1 (.slice ad ((List.range k).map f).length cap) ((List.range k).map f).length (((List.range k).map f).map cS) := hown
      rw [hl] at hown ⊢
      generalize f k = y at *
      go_wp2_with (at_builtin; refine wpList_append_own _ rfl _ _ 28 rfl w.heap.size 9 i0 (.string ⟨#[]⟩) 1 16 Tryz.underlying28 hi hz0 hz1 hz2 rfl (by decide) _ k _ rfl (hown.alloc _) ⟨wr.heap.size, 0, none⟩ 1 1 [cS y] rfl rfl (cell_one_new _ _ _) (by simp [Value.oneCell']) (by unfold maxLen; omega) (by omega) (by simp; omega) ?_; intro v1 w1 hown1 hgrow1 hnil1)
      go_roundw
      case rel =>
        refine ⟨k + 1, by omega, by go_num, ?_, ?_⟩
        · unfold Or
          rw [HST.out, List.map_append, List.length_append, hl]
          exact hown1
        · exact (hbl.alloc hsz2 _).grown hgrow1 (by simp; omega) (fun j hj => (HO.out.ge (by rw [hl]; exact hj)).1)
      case measure => simp [intOf]; omega
    · have hlt' : ¬ (k : Int) < (n : Int) := by omega
      obtain rfl : k = n := by omega
      go_wp2_with fail
      obtain ⟨ad', cap', rfl, hcap⟩ := hown.shape
      go_ret
      exact ⟨⟨_, rfl, hown⟩, hbl⟩
end Go.Proofs.YtapjonmgjccpbaaGreat
end
section
set_option linter.unusedSimpArgs false
set_option linter.unusedVariables false
namespace Go.Proofs.YtapjonmgjccpbaaGreat
open Go.RowKit

/-! tarnref0.CopyTx. -/
set_option maxRecDepth 100000 in
set_option maxHeartbeats 4000000 in
theorem copyTx (t : TX) (aH aB : Option Addr) (cH cB : Nat) (w : World) (hr : RT w t (.slice aH t.hs.length cH) (.slice aB t.bs.length cB)) (h1 : t.hs.length ≤ 1099511627776) (h2 : t.bs.length ≤ 1099511627776) :
    Calls Tryz.prog 12 #[.agg (txc t (.slice aH t.hs.length cH) (.slice aB t.bs.length cB))] w fun e w' => (∃ a' b' c' d', e = .returned (.agg (txc t (.slice a' t.hs.length c') (.slice b' t.bs.length d'))) ∧ OT w' w.heap.size t (.slice a' t.hs.length c') (.slice b' t.bs.length d')) ∧ Below w.heap.size w w' := by
  have HM : Hid (∀ W, Below w.heap.size w W → Calls Tryz.prog 26 #[.slice aH t.hs.length cH] W fun r w' => (∃ u, r = .returned u ∧ Or 24 cU w' W.heap.size u t.hs) ∧ Below W.heap.size W w') := fun W h => by
    have := copyMarks _ _ _ W (hr.1.below h) h1
    rw [range_get] at this
    exact this
  have HS : Hid (∀ W, Below w.heap.size w W → Calls Tryz.prog 27 #[.slice aB t.bs.length cB] W fun r w' => (∃ u, r = .returned u ∧ Or 9 cS w' W.heap.size u t.bs) ∧ Below W.heap.size W w') := fun W h => by
    have := copyStrings _ _ _ W (hr.2.below h) h2
    rw [range_get] at this
    exact this
  clear hr h1 h2
  go_enter Tryz.func12, Tryz.ntmps12
  go_upto_region 1 with fail
  obtain ⟨wr, hwr⟩ : ∃ wr, wr = (w.alloc (.cells (txc t (.slice aH t.hs.length cH) (.slice aB t.bs.length cB)) 30)).alloc (.cells z21 30) := ⟨_, rfl⟩
  rw [show (w.alloc (.cells (txc t (.slice aH t.hs.length cH) (.slice aB t.bs.length cB)) 30)).alloc (.cells #[.int .i64 0, .int .i64 0, .int .u64 0, .int .u64 0, .int .u64 0, .int .u64 0, .int .u64 0, .int .u64 0, .int .u64 0, .int .u64 0, .int .u64 0, .int .u64 0, .int .u64 0, .int .u64 0, .int .u64 0, .int .u64 0, .int .u64 0, .int .u64 0, .int .i64 0, .slice none 0 0, .slice none 0 0] 30) = wr from hwr.symm]
  have bX : Bk wr w.heap.size (txc t (.slice aH t.hs.length cH) (.slice aB t.bs.length cB)) 30 := by rw [hwr]; exact (Bk.new _ _ _).alloc _
  have bR : Bk wr (w.heap.size + 1) z21 30 := by rw [hwr]; exact Bk.new' _ _ _ (by simp)
  have hB : Below w.heap.size w wr := by rw [hwr]; exact ((Below.refl _ _).alloc (Nat.le_refl _) _).alloc (by simp) _
  have hzr : wr.heap.size = w.heap.size + 2 := by rw [hwr]; simp
  clear hwr
  obtain ⟨X, hX⟩ : ∃ X, X = w.heap.size := ⟨_, rfl⟩
  have HX0 : Hid (X = w.heap.size ∧ wr.heap.size = X + 2) := ⟨hX, by omega⟩
  rw [← hX] at bX bR ⊢
  have HX : Hid (Bk wr X (txc t (.slice aH t.hs.length cH) (.slice aB t.bs.length cB)) 30) := bX
  have HR : Hid (Bk wr (X + 1) z21 30) := bR
  have HB : Hid (Below w.heap.size w wr) := hB
  clear bX bR hB hzr hX
  go_upto_region 2 with (first
    | (refine wpList_load_tx rfl _ rfl rfl HX.out ?_)
    | (refine wpList_store_tx rfl _ _ rfl rfl rfl (Bk.new _ _ _) rfl ?_; intro W1 hS1))
  have lX := HX.out.lt
  have lR := HR.out.lt
  have bX1 : Bk W1 X (txc t (.slice aH t.hs.length cH) (.slice aB t.bs.length cB)) 30 := hS1.other (HX.out.alloc _) (by omega)
  have bR1 : Bk W1 (X + 1) z21 30 := hS1.other (HR.out.alloc _) (by omega)
  have bD1 := hS1.bR
  have hB1 : Below w.heap.size w W1 := hS1.below _ _ HB.out.size (HB.out.alloc HB.out.size _)
  have hz1 := hS1.size
  simp only [World.size_alloc] at hz1
  clear hS1
  obtain ⟨D, hD⟩ : ∃ D, D = wr.heap.size := ⟨_, rfl⟩
  rw [← hD] at bD1 hz1 ⊢
  have hDX : X < D ∧ X + 1 < D := by omega
  replace HX : Hid (Bk W1 X (txc t (.slice aH t.hs.length cH) (.slice aB t.bs.length cB)) 30) := bX1
  replace HR : Hid (Bk W1 (X + 1) z21 30) := bR1
  have HD : Hid (Bk W1 D (txc t (.slice aH t.hs.length cH) (.slice aB t.bs.length cB)) 30) := bD1
  replace HB : Hid (Below w.heap.size w W1) := hB1
  have k19 := bX1.cell 19
  have d19 := bD1.cell 19
  have f19 := bD1.frozen 19
  simp only [List.getElem?_toArray, List.getElem?_cons_zero, List.getElem?_cons_succ] at k19 d19
  have lD := bD1.lt
  clear bX1 bR1 bD1 hB1 hD lX lR
  go_wp2_with fail
  refine (HM.out _ HB.out).mono ?_
  rintro e w2 ⟨⟨u, rfl, hO⟩, hb2⟩
  have bX2 := HX.out.below hb2 (by omega)
  have bR2 := HR.out.below hb2 (by omega)
  have bD2 := HD.out.below hb2 lD
  have hB2 := HB.out.trans (hb2.mono HB.out.size)
  have hz2 := hb2.size
  obtain ⟨a', c', rfl, -⟩ := hO.shape
  have hge : ∀ k, (Value.slice a' t.hs.length c').ownBlock = some k → W1.heap.size ≤ k := fun k hk => (hO.ge hk).1
  clear k19 d19 f19 HX HR HD HB hb2
  have d19 := bD2.cell 19
  have f19 := bD2.frozen 19
  simp only [List.getElem?_toArray, List.getElem?_cons_zero, List.getElem?_cons_succ] at d19
  have lD2 := bD2.lt
  have bD3 : Bk (w2.setCell ⟨D, 19, none⟩ (.slice a' t.hs.length c')) D (txc t (.slice a' t.hs.length c') (.slice aB t.bs.length cB)) 30 := bD2.set 19 _ rfl
  have bX3 : Bk (w2.setCell ⟨D, 19, none⟩ (.slice a' t.hs.length c')) X (txc t (.slice aH t.hs.length cH) (.slice aB t.bs.length cB)) 30 := bX2.other (by show X ≠ D; omega) _
  have bR3 : Bk (w2.setCell ⟨D, 19, none⟩ (.slice a' t.hs.length c')) (X + 1) z21 30 := bR2.other (by show X + 1 ≠ D; omega) _
  have hB3 : Below w.heap.size w (w2.setCell ⟨D, 19, none⟩ (.slice a' t.hs.length c')) := hB2.setCell (p := ⟨D, 19, none⟩) (by show w.heap.size ≤ D; have := HX0.out.1; omega) _
  have hO3 := hO.other ⟨D, 19, none⟩ (.slice a' t.hs.length c') (.inr fun h => by have := hge _ h; simp at this; omega)
  have hz3 : (w2.setCell ⟨D, 19, none⟩ (.slice a' t.hs.length c')).heap.size = w2.heap.size := by simp
  have k20 := bX3.cell 20
  simp only [List.getElem?_toArray, List.getElem?_cons_zero, List.getElem?_cons_succ] at k20
  obtain ⟨W3, hW3⟩ : ∃ W3, W3 = w2.setCell ⟨D, 19, none⟩ (.slice a' t.hs.length c') := ⟨_, rfl⟩
  rw [← hW3] at bD3 bX3 bR3 hB3 hO3 hz3 k20
  have HW3 : Hid (w2.setCell ⟨D, 19, none⟩ (.slice a' t.hs.length c') = W3) := hW3.symm
  clear bX2 bR2 bD2 hB2 hO hW3
  have HR : Hid (Bk W3 (X + 1) z21 30) := bR3
  have HD : Hid (Bk W3 D (txc t (.slice a' t.hs.length c') (.slice aB t.bs.length cB)) 30) := bD3
  have HB : Hid (Below w.heap.size w W3) := hB3
  have HO : Hid (Or 24 cU W3 W1.heap.size (.slice a' t.hs.length c') t.hs) := hO3
  clear bD3 bX3 bR3 hB3 hO3 hge
  go_upto_region 3 with fail
  rw [HW3.out]
  clear HW3 d19 f19
  go_wp2_with fail
  refine (HS.out _ HB.out).mono ?_
  rintro e w4 ⟨⟨u2, rfl, hP⟩, hb4⟩
  have bR4 := HR.out.below hb4 (by omega)
  have bD4 := HD.out.below hb4 (by omega)
  have hB4 := HB.out.trans (hb4.mono HB.out.size)
  have hO4 := HO.out.below' hb4
  have hz4 := hb4.size
  obtain ⟨b', d', rfl, -⟩ := hP.shape
  have hge : ∀ k, (Value.slice b' t.bs.length d').ownBlock = some k → W3.heap.size ≤ k := fun k hk => (hP.ge hk).1
  have hge1 : ∀ k, (Value.slice a' t.hs.length c').ownBlock = some k → W1.heap.size ≤ k := fun k hk => (hO4.ge hk).1
  clear HR HD HB HO hb4 k20
  have d20 := bD4.cell 20
  have f20 := bD4.frozen 20
  simp only [List.getElem?_toArray, List.getElem?_cons_zero, List.getElem?_cons_succ] at d20
  have lD4 := bD4.lt
  have bD5 : Bk (w4.setCell ⟨D, 20, none⟩ (.slice b' t.bs.length d')) D (txc t (.slice a' t.hs.length c') (.slice b' t.bs.length d')) 30 := bD4.set 20 _ rfl
  have bR5 : Bk (w4.setCell ⟨D, 20, none⟩ (.slice b' t.bs.length d')) (X + 1) z21 30 := bR4.other (by show X + 1 ≠ D; omega) _
  have hB5 : Below w.heap.size w (w4.setCell ⟨D, 20, none⟩ (.slice b' t.bs.length d')) := hB4.setCell (p := ⟨D, 20, none⟩) (by show w.heap.size ≤ D; have := HX0.out.1; omega) _
  have hO5 := hO4.other ⟨D, 20, none⟩ (.slice b' t.bs.length d') (.inr fun h => by have := hge1 _ h; simp at this; omega)
  have hP5 := hP.other ⟨D, 20, none⟩ (.slice b' t.bs.length d') (.inr fun h => by have := hge _ h; simp at this; omega)
  obtain ⟨W5, hW5⟩ : ∃ W5, W5 = w4.setCell ⟨D, 20, none⟩ (.slice b' t.bs.length d') := ⟨_, rfl⟩
  rw [← hW5] at bD5 bR5 hB5 hO5 hP5
  have HW5 : Hid (w4.setCell ⟨D, 20, none⟩ (.slice b' t.bs.length d') = W5) := hW5.symm
  clear bR4 bD4 hB4 hO4 hP hW5
  have HR : Hid (Bk W5 (X + 1) z21 30) := bR5
  have HD : Hid (Bk W5 D (txc t (.slice a' t.hs.length c') (.slice b' t.bs.length d')) 30) := bD5
  have HB : Hid (Below w.heap.size w W5) := hB5
  have HO : Hid (Or 24 cU W5 W1.heap.size (.slice a' t.hs.length c') t.hs) := hO5
  have HP : Hid (Or 9 cS W5 W3.heap.size (.slice b' t.bs.length d') t.bs) := hP5
  have HG : Hid ((∀ k, (Value.slice b' t.bs.length d').ownBlock = some k → W3.heap.size ≤ k) ∧ ∀ k, (Value.slice a' t.hs.length c').ownBlock = some k → W1.heap.size ≤ k) := ⟨hge, hge1⟩
  clear bD5 bR5 hB5 hO5 hP5 hge hge1
  go_upto_region 4 with fail
  rw [HW5.out]
  clear HW5 d20 f20
  go_wp2_with (first
    | (refine wpList_load_tx rfl _ rfl rfl HD.out ?_)
    | (refine wpList_store_tx rfl _ _ rfl rfl rfl HR.out rfl ?_; intro W6 hS6))
  have hld := run_loadVar_mid (P := Tryz.prog) W6 (X + 1) 0 30 (txc t (.slice a' t.hs.length c') (.slice b' t.bs.length d')).toList _ (fun j x hx => by rw [Nat.zero_add, hS6.bR.cell]; simpa using hx) Tryz.underlying30 rfl infoT
  have hX1 := HX0.out.1
  have hzW := HB.out.size
  refine bodyPost_ret (v := .agg (txc t (.slice a' t.hs.length c') (.slice b' t.bs.length d'))) ?_ rfl ⟨⟨a', b', c', d', rfl, ⟨?_, ?_⟩⟩, hS6.below _ _ (by omega) HB.out⟩
  · simp only [results, Tryz.results12, Act.put]
    simp [asAddr, hld]
  · exact (hS6.or HO.out (fun h => by have := HG.out.2 _ h; omega)).based (by omega)
  · exact (hS6.or HP.out (fun h => by have := HG.out.1 _ h; omega)).based (by omega)
end Go.Proofs.YtapjonmgjccpbaaGreat
end
section
set_option linter.unusedSimpArgs false
set_option linter.unusedVariables false
namespace Go.Proofs.YtapjonmgjccpbaaGreat
open Go.RowKit

/-! tarnref7.ID. -/
theorem itS_size (a : IT) : (itS a).size ≤ 65536 := by
  unfold itS
  split
  · next h => rw [st_size]; exact h.2
  · rw [st_size]; simp
set_option maxRecDepth 100000 in
set_option maxHeartbeats 1000000 in
theorem rid (t : TX) (aH aB : Option Addr) (cH cB : Nat) (w : World) (hw : TXw t) (hr : RT w t (.slice aH t.hs.length cH) (.slice aB t.bs.length cB)) (h1 : t.hs.length ≤ 1000000) (h2 : t.bs.length ≤ 1000000) (hfr : 0 ≤ t.fr) (hno : 0 ≤ t.no) (hga : 0 ≤ t.ga) (hwt : (txI t).wt ≤ 1099511627776) :
    Calls Tryz.prog 15 #[.agg (txc t (.slice aH t.hs.length cH) (.slice aB t.bs.length cB))] w fun e w' => e = .returned (.int .u64 (mk (itS (txI t)) : Int)) ∧ Below w.heap.size w w' := by
  have HBy : Hid (∀ W, Below w.heap.size w W → Calls Tryz.prog 14 #[.agg (txc t (.slice aH t.hs.length cH) (.slice aB t.bs.length cB))] W fun e w' => e = .returned (.string (itS (txI t))) ∧ Below W.heap.size W w') := fun W h => rbytes t aH aB cH cB W hw (hr.below h) h1 h2 hfr hno hga hwt
  have HM : Hid (∀ W, Calls Tryz.prog 36 #[.string (itS (txI t))] W fun e w' => e = .returned (.int .u64 (mk (itS (txI t)) : Int)) ∧ w' = W) := fun W => rmarkq _ (by have := itS_size (txI t); omega) W
  clear hw hr h1 h2 hfr hno hga hwt
  generalize mk (itS (txI t)) = m at *
  generalize itS (txI t) = s at *
  obtain ⟨wr, hwr⟩ : ∃ wr, wr = w.alloc (.cells (txc t (.slice aH t.hs.length cH) (.slice aB t.bs.length cB)) 30) := ⟨_, rfl⟩
  go_enter Tryz.func15, Tryz.ntmps15
  go_upto_region 1 with fail
  rw [← hwr]
  have bX : Bk wr w.heap.size (txc t (.slice aH t.hs.length cH) (.slice aB t.bs.length cB)) 30 := by rw [hwr]; exact Bk.new _ _ _
  have HB : Hid (Below w.heap.size w wr) := by show Below _ _ _; rw [hwr]; exact (Below.refl _ _).alloc (Nat.le_refl _) _
  have HX : Hid (Bk wr w.heap.size (txc t (.slice aH t.hs.length cH) (.slice aB t.bs.length cB)) 30) := bX
  clear hwr bX
  go_wp2_with (refine wpList_load_tx rfl _ rfl rfl HX.out ?_)
  refine (HBy.out _ HB.out).mono ?_
  rintro e w1 ⟨rfl, hb1⟩
  go_wp2_with fail
  refine (HM.out _).mono ?_
  rintro e w2 ⟨rfl, rfl⟩
  go_wp2_with fail
  go_ret
  exact ⟨rfl, HB.out.trans (hb1.mono HB.out.size)⟩
end Go.Proofs.YtapjonmgjccpbaaGreat
end

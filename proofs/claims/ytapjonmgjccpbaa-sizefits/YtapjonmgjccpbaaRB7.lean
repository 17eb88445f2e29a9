import Derived.Test.YtapjonmgjccpbaaJ24
set_option linter.unusedSimpArgs false
set_option linter.unusedVariables false
namespace Go.Proofs.Ytapjonmgjccpbaa
open Go.RowKit

set_option maxRecDepth 100000 in
set_option maxHeartbeats 4000000 in
theorem rbytes (t : TX) (aH aB : Option Addr) (cH cB : Nat) (w : World) (hw : TXw t) (hr : RT w t (.slice aH t.hs.length cH) (.slice aB t.bs.length cB)) (h1 : t.hs.length ≤ 1000000) (h2 : t.bs.length ≤ 1000000) (hfr : 0 ≤ t.fr) (hno : 0 ≤ t.no) (hga : 0 ≤ t.ga) (hwt : (txI t).wt ≤ 1099511627776) :
    Calls Try.prog 29 #[.agg (txc t (.slice aH t.hs.length cH) (.slice aB t.bs.length cB))] w fun e w' => e = .returned (.string (itS (txI t))) ∧ Below w.heap.size w w' := by
  have HNM : Hid (∀ n : Int, (n = t.fr ∨ n = t.no ∨ n = t.ga) → ∀ w, Calls Try.prog 60 #[.int .i64 n] w fun e w' => e = .returned (tI (nT n.toNat)) ∧ Below w.heap.size w w') := fun n hn w => by
    have q1 := hw.fr
    have q2 := hw.no
    have q3 := hw.ga
    obtain ⟨m, hm⟩ : ∃ m : Nat, n = (m : Int) := ⟨n.toNat, by omega⟩
    have := rnumber m (by omega) w
    rw [hm, Int.toNat_natCast]
    exact this
  have HTX : Hid (∀ n, n < M256 → ∀ w, Calls Try.prog 61 #[V n] w fun e w' => e = .returned (.string (nT n)) ∧ Below w.heap.size w w') := fun n hn w => rtext n hn w
  have HTT : Hid (∀ s w, Calls Try.prog 57 #[.string s] w fun e w' => e = .returned (tI s) ∧ Below w.heap.size w w') := fun s w => rtxt s w
  have HWT : Hid ((txI t).wt ≤ 1099511627776) := hwt
  clear hfr hno hga hwt
  obtain ⟨⟨-, hu, ah, ch, eh, hH⟩, ⟨-, -, ab, cb, eb, hB⟩⟩ := hr
  simp at eh eb
  obtain ⟨rfl, rfl⟩ := eh
  obtain ⟨rfl, rfl⟩ := eb
  have HU : Hid (∀ i, i < t.hs.length → t.hs.getD i 0 < 18446744073709551616) := hu
  have HH : Hid (∀ i, i < t.hs.length → ∃ b off, aH = some ⟨b, off, none⟩ ∧ w.cell? ⟨b, off + i, none⟩ = some (.int .u64 (t.hs.getD i 0 : Int))) := hH
  have HBs : Hid (∀ i, i < t.bs.length → ∃ b off, aB = some ⟨b, off, none⟩ ∧ w.cell? ⟨b, off + i, none⟩ = some (.string (t.bs.getD i ByteArray.empty))) := hB
  have HW : Hid (TXw t) := hw
  clear hH hB hu hw
  obtain ⟨i0, hi, hz0, hz1, hz2⟩ := info_of infoI
  have HIn : Hid (Try.prog.info? 70 = some i0) := hi
  have HZ : Hid (i0.zero = some (.agg #[.bool false, .string ⟨#[]⟩, .slice none 0 0]) ∧ i0.size = 3 ∧ i0.bytes = 48) := ⟨hz0, hz1, hz2⟩
  clear hi hz0 hz1 hz2
  obtain ⟨wL, hwL⟩ : ∃ wL, wL = ((w.alloc (.cells (txc t (.slice aH t.hs.length cH) (.slice aB t.bs.length cB)) 30)).alloc (.cells #[.bool true, .string ⟨#[]⟩, .slice none 0 0] 70)).alloc (.cells #[.bool true, .string ⟨#[]⟩, .slice none 0 0] 70) := ⟨_, rfl⟩
  go_enter Try.func29, Try.ntmps29
  go_upto_region 2 with fail
  rw [← hwL]
  have bX : Bk wL w.heap.size (txc t (.slice aH t.hs.length cH) (.slice aB t.bs.length cB)) 30 := by rw [hwL]; exact ((Bk.new _ _ _).alloc _).alloc _
  have bH : Bk wL (w.heap.size + 1) #[.bool true, .string ⟨#[]⟩, .slice none 0 0] 70 := by rw [hwL]; exact (Bk.new' _ _ _ (by simp)).alloc _
  have bG : Bk wL (w.heap.size + 1 + 1) #[.bool true, .string ⟨#[]⟩, .slice none 0 0] 70 := by rw [hwL]; exact Bk.new' _ _ _ (by simp)
  have hBL : Below w.heap.size w wL := by rw [hwL]; exact (((Below.refl _ _).alloc (Nat.le_refl _) _).alloc (by simp) _).alloc (by simp; omega) _
  have hzL : wL.heap.size = w.heap.size + 3 := by rw [hwL]; simp
  clear hwL
  obtain ⟨X, hX⟩ : ∃ X, X = w.heap.size := ⟨_, rfl⟩
  rw [← hX] at bX bH bG hzL ⊢
  obtain ⟨base, hba⟩ : ∃ base, base = X + 3 := ⟨_, rfl⟩
  have HXL : Hid (Bk wL X (txc t (.slice aH t.hs.length cH) (.slice aB t.bs.length cB)) 30) := bX
  have HG : Hid (Bk wL (X + 1 + 1) #[.bool true, .string ⟨#[]⟩, .slice none 0 0] 70 ∧ Below w.heap.size w wL) := ⟨bG, hBL⟩
  have HLI0 : Hid (LI base (X + 1) wL wL (hsI t) 0 none 0 []) := ⟨rfl, rfl, Bld.nil _ _ _, bH, KB.refl _ _ _⟩
  have HE : Hid (∀ i, i < t.hs.length → ∃ b off, aH = some ⟨b, off, none⟩ ∧ wL.cell? ⟨b, off + i, none⟩ = some (.int .u64 (t.hs.getD i 0 : Int))) := fun i hi => by
    obtain ⟨b, off, ha, hc⟩ := HH.out i hi
    exact ⟨b, off, ha, (hBL.cell (cell_lt' hc)).trans hc⟩
  have HEb : Hid (∀ b : Nat, ∀ off : Nat, aH = some ⟨b, off, none⟩ → 0 < t.hs.length → b < X) := fun b off ha h0 => by
    obtain ⟨b', off', ha', hc⟩ := HH.out 0 h0
    have hlt0 : b' < w.heap.size := cell_lt' hc
    simp [ha] at ha'
    omega
  have HEQ : Hid (X = w.heap.size ∧ base = X + 3 ∧ wL.heap.size = X + 3) := ⟨hX, hba, hzL⟩
  have hb1 : X + 2 < base := by omega
  have hb2 : base ≤ X + 3 := by omega
  have hb3 : base ≤ wL.heap.size := by omega
  clear bX bH bG hBL hX hba hzL
  go_wp2_with fail
  go_loopw [5] (fun i wr => ∃ (k : Nat) (ps : List (IT × Value)) (va : Option Addr) (vc : Nat), k ≤ t.hs.length ∧ i = .int .i64 (k : Int) ∧ Hid (LI base (X + 1) wL wr (hsI t) k va vc ps) ∧ base ≤ wr.heap.size) (fun i _ => t.hs.length - (intOf i).toNat)
  case atStart => exact ⟨0, [], none, 0, by omega, rfl, HLI0.out, by omega⟩
  case round =>
    obtain ⟨k, ps, va, vc, hk, rfl, HLI, hbw⟩ := hrel
    have bX := HLI.out.kb.bk HXL.out (by omega) (by omega)
    have k19 := bX.cell 19
    simp only [List.getElem?_toArray, List.getElem?_cons_zero, List.getElem?_cons_succ] at k19
    have lX := bX.lt
    have lA := HLI.out.bA.lt
    obtain ⟨a0, a1, a2⟩ := box_cells HLI.out.bA
    have af := HLI.out.bA.frozen 2
    clear bX
    by_cases hlt : k < t.hs.length
    · have hlt' : (k : Int) < (t.hs.length : Int) := by omega
      obtain ⟨b, off, rfl, hc⟩ := HE.out k hlt
      have hbw0 : b < X := HEb.out b off rfl (by omega)
      replace hc := (HLI.out.kb.hb.cell (by show b < X + 1; omega)).trans hc
      have HTk : Hid ((hsI t).take (k + 1) = (hsI t).take k ++ [txtI ⟨(mbs (t.hs.getD k 0)).toArray⟩]) := by
        show _ = _
        have hk' : k < (hsI t).length := by unfold hsI; simp; omega
        rw [List.take_succ_eq_append_getElem hk']
        congr 2
        simp [hsI, show k < t.hs.length from hlt]
      have hm64 : t.hs.getD k 0 < 18446744073709551616 := HU.out k hlt
      have HMt : Hid (∀ w, Calls Try.prog 58 #[.int .u64 (t.hs.getD k 0 : Int)] w fun e w' => e = .returned (.string ⟨(mbs (t.hs.getD k 0)).toArray⟩) ∧ Below w.heap.size w w') := fun w => rmtext _ hm64 w
      generalize t.hs.getD k 0 = m at *
      generalize (⟨(mbs m).toArray⟩ : ByteArray) = s at *
      have HTx : Hid (∀ w, Calls Try.prog 57 #[.string s] w fun e w' => e = .returned (tI s) ∧ Below w.heap.size w w') := fun w => rtxt _ w
      go_upto_region 5 with fail
      go_region_law (first
        | (refine step_append_src (by rfl) _ _ 68 68 (by rfl) base 70 i0 (.agg #[.bool false, .string ⟨#[]⟩, .slice none 0 0]) 3 48 Try.underlying68 HIn.out HZ.out.1 HZ.out.2.1 HZ.out.2.2 rfl (.slice va k vc) (.slice (some ⟨w3.heap.size, 0, none⟩) 1 1) k (icells ps) 1 [.bool false, .string s, .slice none 0 0] (by simp [Act.eval, Act.put]) (by simp [Act.eval, Act.put]) (by have h := (HLI.out.bl.below H2.out).row; rw [HLI.out.e2] at h; exact h.alloc _) (one_src (Bk.new w3 _ _) rfl rfl rfl) (by unfold maxLen; omega) (by omega) (by simp; have := H2.out.size; omega) (by omega) (k + 1) rfl ?_; intro g cap w4 hown4 hgr4 hsn4 hlt4 hbg4; have b4 := bk_grown ((HLI.out.bA.below H2.out lA).alloc (.cells #[.bool false, .string s, .slice none 0 0] 70)) hgr4 (fun q hq => by have := (HLI.out.bl.row.lt q hq).1; omega); have z2 := (box_cells b4).2.2; have zf := b4.frozen 2; have lA4 := b4.lt; have H4 : Hid (w3.heap.size = w3.heap.size ∧ w4.ownsRow base 70 3 (.slice (some ⟨g, 0, none⟩) (k + 1) cap) (k + 1) (icells ps ++ [.bool false, .string s, .slice none 0 0]) ∧ (w3.alloc (.cells #[.bool false, .string s, .slice none 0 0] 70)).grownBy w4 (Value.slice va k vc).ownBlock ∧ Sn (w3.alloc (.cells #[.bool false, .string s, .slice none 0 0] 70)) (.slice va k vc) (.slice (some ⟨g, 0, none⟩) (k + 1) cap) ∧ Bk w4 (X + 1) #[.bool true, .string ⟨#[]⟩, .slice va k vc] 70 ∧ base ≤ g) := ⟨rfl, hown4, hgr4, hsn4, b4, hbg4⟩; clear hown4 hgr4 hsn4 b4 hbg4)
        | (go_simp; go_at_call 58; refine (HMt.out _).mono ?_; rintro e w2 ⟨rfl, hb2⟩; have H10 : Hid (Below wr.heap.size wr w2) := (by show Below _ _ _; first | exact (Below.refl wr.heap.size wr).trans (hb2.mono (Below.refl wr.heap.size wr).size) | exact (Below.refl wr.heap.size wr).drew.trans (hb2.mono (Below.refl wr.heap.size wr).size)); obtain ⟨y00, y10, y20⟩ := box_cells (HLI.out.bA.below H10.out lA); have yl0 : (X + 1) < w2.heap.size := Nat.lt_of_lt_of_le lA H10.out.size; have yf0 := (HLI.out.bA.below H10.out lA).frozen 2; clear hb2)
        | (go_simp; go_at_call 57; refine (HTx.out _).mono ?_; rintro e w3 ⟨rfl, hb3⟩; have H2 : Hid (Below wr.heap.size wr w3) := (by show Below _ _ _; first | exact H10.out.trans (hb3.mono H10.out.size) | exact H10.out.drew.trans (hb3.mono H10.out.size)); obtain ⟨y01, y11, y21⟩ := box_cells (HLI.out.bA.below H2.out lA); have yl1 : (X + 1) < w3.heap.size := Nat.lt_of_lt_of_le lA H2.out.size; have yf1 := (HLI.out.bA.below H2.out lA).frozen 2; clear hb3))
      all_goals
        go_wp2_with fail
        go_roundw
        case rel =>
          obtain ⟨-, hown4, hgr4, hsn4, b4, hg4⟩ := H4.out
          have hL := HLI.out.snoc (by omega) hbw H2.out HTk.out hown4 hgr4 hsn4 b4 hg4
          refine ⟨k + 1, _, _, _, by omega, by go_num, hL, ?_⟩
          have h1 := H2.out.size
          have h2 := hgr4.size
          simp only [World.size_alloc] at h2
          simp
          omega
        case measure => simp [intOf]; omega
    · have hlt' : ¬ (k : Int) < (t.hs.length : Int) := by omega
      have hkn : k = t.hs.length := by omega
      go_upto_region 6 with fail
      obtain ⟨w1, rfl⟩ : ∃ w1 : World, w1 = wr := ⟨_, rfl⟩
      have hG1 := HLI.out.kb.bk HG.out.1 (by omega) (by omega)
      have hX1 := HLI.out.kb.bk HXL.out (by omega) (by omega)
      have HL1 : Hid (∃ vh ch psH, LI base (X + 1) wL w1 (hsI t) t.hs.length vh ch psH) := ⟨va, vc, ps, by have := HLI.out; rw [hkn] at this; exact this⟩
      have HKN : Hid (k = t.hs.length) := hkn
      obtain ⟨base2, hbb⟩ : ∃ base2, base2 = w1.heap.size := ⟨_, rfl⟩
      have HB2 : Hid (base2 = w1.heap.size) := hbb
      have hb4 : base2 ≤ w1.heap.size := by omega
      have hb5 : w1.heap.size ≤ base2 := by omega
      have HLI0 : Hid (LI base2 (X + 1 + 1) w1 w1 (bsI t) 0 none 0 []) := ⟨rfl, rfl, Bld.nil _ _ _, hG1, KB.refl _ _ _⟩
      have HXL : Hid (Bk w1 X (txc t (.slice aH t.hs.length cH) (.slice aB t.bs.length cB)) 30) := hX1
      have hBw1 : Below w.heap.size w w1 := HG.out.2.trans (HLI.out.kb.hb.mono (by rw [← HEQ.out.1]; omega))
      have HBw1 : Hid (Below w.heap.size w w1) := hBw1
      have HE : Hid (∀ i, i < t.bs.length → ∃ b off, aB = some ⟨b, off, none⟩ ∧ w1.cell? ⟨b, off + i, none⟩ = some (.string (t.bs.getD i ByteArray.empty))) := fun i hi => by
        obtain ⟨b, off, ha, hc⟩ := HBs.out i hi
        exact ⟨b, off, ha, (hBw1.cell (cell_lt' hc)).trans hc⟩
      have HEc : Hid (∀ b : Nat, ∀ off : Nat, aB = some ⟨b, off, none⟩ → 0 < t.bs.length → b < X) := fun b off ha h0 => by
        obtain ⟨b', off', ha', hc⟩ := HBs.out 0 h0
        have hlt0 : b' < w.heap.size := cell_lt' hc
        have := HEQ.out.1
        simp [ha] at ha'
        omega
      have hkk : k ≤ 1000000 := by omega
      have hb6 : X + 2 < base2 := by omega
      clear hG1 hX1 hbb hBw1 HLI hkn hlt hk hbw lX lA a0 a1 a2 af k19 hlt'
      go_wp2_with fail
      go_loopw [6] (fun i wr => ∃ (k : Nat) (ps : List (IT × Value)) (va : Option Addr) (vc : Nat), k ≤ t.bs.length ∧ i = .int .i64 (k : Int) ∧ Hid (LI base2 (X + 1 + 1) w1 wr (bsI t) k va vc ps) ∧ base2 ≤ wr.heap.size) (fun i _ => t.bs.length - (intOf i).toNat)
      case atStart => exact ⟨0, [], none, 0, by omega, rfl, HLI0.out, by omega⟩
      case round =>
        obtain ⟨k, ps, va, vc, hk, rfl, HLI, hbw⟩ := hrel
        have bX := HLI.out.kb.bk HXL.out (by omega) (by omega)
        have k20 := bX.cell 20
        simp only [List.getElem?_toArray, List.getElem?_cons_zero, List.getElem?_cons_succ] at k20
        have lX := bX.lt
        have lA := HLI.out.bA.lt
        obtain ⟨a0, a1, a2⟩ := box_cells HLI.out.bA
        have af := HLI.out.bA.frozen 2
        clear bX
        by_cases hlt : k < t.bs.length
        · have hlt' : (k : Int) < (t.bs.length : Int) := by omega
          obtain ⟨b, off, rfl, hc⟩ := HE.out k hlt
          have hbw0 : b < X := HEc.out b off rfl (by omega)
          replace hc := (HLI.out.kb.hb.cell (by show b < X + 1 + 1; omega)).trans hc
          have HTk : Hid ((bsI t).take (k + 1) = (bsI t).take k ++ [txtI (t.bs.getD k ByteArray.empty)]) := by
            show _ = _
            have hk' : k < (bsI t).length := by unfold bsI; simp; omega
            rw [List.take_succ_eq_append_getElem hk']
            congr 2
            simp [bsI, show k < t.bs.length from hlt]
          generalize t.bs.getD k ByteArray.empty = s at *
          have HTx : Hid (∀ w, Calls Try.prog 57 #[.string s] w fun e w' => e = .returned (tI s) ∧ Below w.heap.size w w') := fun w => rtxt _ w
          go_upto_region 9 with fail
          go_region_law (first
            | (refine step_append_src (by rfl) _ _ 68 68 (by rfl) base2 70 i0 (.agg #[.bool false, .string ⟨#[]⟩, .slice none 0 0]) 3 48 Try.underlying68 HIn.out HZ.out.1 HZ.out.2.1 HZ.out.2.2 rfl (.slice va k vc) (.slice (some ⟨w2.heap.size, 0, none⟩) 1 1) k (icells ps) 1 [.bool false, .string s, .slice none 0 0] (by simp [Act.eval, Act.put]) (by simp [Act.eval, Act.put]) (by have h := (HLI.out.bl.below H2.out).row; rw [HLI.out.e2] at h; exact h.alloc _) (one_src (Bk.new w2 _ _) rfl rfl rfl) (by unfold maxLen; omega) (by omega) (by simp; have := H2.out.size; omega) (by omega) (k + 1) rfl ?_; intro g cap w4 hown4 hgr4 hsn4 hlt4 hbg4; have b4 := bk_grown ((HLI.out.bA.below H2.out lA).alloc (.cells #[.bool false, .string s, .slice none 0 0] 70)) hgr4 (fun q hq => by have := (HLI.out.bl.row.lt q hq).1; omega); have z2 := (box_cells b4).2.2; have zf := b4.frozen 2; have lA4 := b4.lt; have H4 : Hid (w2.heap.size = w2.heap.size ∧ w4.ownsRow base2 70 3 (.slice (some ⟨g, 0, none⟩) (k + 1) cap) (k + 1) (icells ps ++ [.bool false, .string s, .slice none 0 0]) ∧ (w2.alloc (.cells #[.bool false, .string s, .slice none 0 0] 70)).grownBy w4 (Value.slice va k vc).ownBlock ∧ Sn (w2.alloc (.cells #[.bool false, .string s, .slice none 0 0] 70)) (.slice va k vc) (.slice (some ⟨g, 0, none⟩) (k + 1) cap) ∧ Bk w4 (X + 1 + 1) #[.bool true, .string ⟨#[]⟩, .slice va k vc] 70 ∧ base2 ≤ g) := ⟨rfl, hown4, hgr4, hsn4, b4, hbg4⟩; clear hown4 hgr4 hsn4 b4 hbg4)
            | (go_simp; go_at_call 57; refine (HTx.out _).mono ?_; rintro e w2 ⟨rfl, hb2⟩; have H2 : Hid (Below wr.heap.size wr w2) := (by show Below _ _ _; first | exact (Below.refl wr.heap.size wr).trans (hb2.mono (Below.refl wr.heap.size wr).size) | exact (Below.refl wr.heap.size wr).drew.trans (hb2.mono (Below.refl wr.heap.size wr).size)); obtain ⟨y00, y10, y20⟩ := box_cells (HLI.out.bA.below H2.out lA); have yl0 : (X + 1 + 1) < w2.heap.size := Nat.lt_of_lt_of_le lA H2.out.size; have yf0 := (HLI.out.bA.below H2.out lA).frozen 2; clear hb2))
          all_goals
            go_wp2_with fail
            go_roundw
            case rel =>
              obtain ⟨-, hown4, hgr4, hsn4, b4, hg4⟩ := H4.out
              have hL := HLI.out.snoc (by omega) hbw H2.out HTk.out hown4 hgr4 hsn4 b4 hg4
              refine ⟨k + 1, _, _, _, by omega, by go_num, hL, ?_⟩
              have h1 := H2.out.size
              have h2 := hgr4.size
              simp only [World.size_alloc] at h2
              simp
              omega
            case measure => simp [intOf]; omega
        · have hlt' : ¬ (k : Int) < (t.bs.length : Int) := by omega
          have hkn : k = t.bs.length := by omega
          obtain ⟨vh, ch, psH, hL1⟩ := HL1.out
          have bX := HLI.out.kb.bk HXL.out (by omega) (by omega)
          have bH := HLI.out.kb.bk hL1.bA (by omega) (by omega)
          have bG := HLI.out.bA
          rw [hkn] at bG
          have hrH : RdP wr (base ≤ ·) 2 (hsI t) (.slice vh t.hs.length ch) := by
            have := hL1.bl.rd (by rw [hL1.e2]; omega)
            rw [hL1.e1, List.take_of_length_le (by simp [hsI])] at this
            exact this.keep fun b h3 h4 => HLI.out.kb.block (by omega) (by omega)
          have hrB : RdP wr (base2 ≤ ·) 2 (bsI t) (.slice va t.bs.length vc) := by
            have hL2 := HLI.out
            rw [hkn] at hL2
            have := hL2.bl.rd (by rw [hL2.e2]; omega)
            rw [hL2.e1, List.take_of_length_le (by simp [bsI])] at this
            exact this
          have hBf : Below w.heap.size w wr := HBw1.out.trans (HLI.out.kb.hb.mono (by rw [← HEQ.out.1]; omega))
          have HBf : Hid (Below w.heap.size w wr) := hBf
          have HIt : Hid (∀ W B, Below wr.heap.size wr W → Bk W B (c27 t (.slice vh t.hs.length ch) (.slice va t.bs.length vc)) 70 → Calls Try.prog 59 #[.agg #[.bool true, .string ⟨#[]⟩, .slice (some ⟨B, 0, none⟩) 9 9]] W fun e w' => e = .returned (.tuple #[.string (itS (txI t)), .bool (decide (ItOk (txI t)))]) ∧ Below W.heap.size W w') := fun W B hW hb => ritem 3 (txI t) (some ⟨B, 0, none⟩) 9 9 W (rd_nine hb (hrH.rd.below hW) (hrB.rd.below hW)) HWT.out
          have hT : S7 X t (.slice vh t.hs.length ch) (.slice va t.bs.length vc) wr wr := ⟨bX.cell 0, bX.cell 1, bX.cell 2, bX.cell 3, bX.cell 4, bX.cell 5, bX.cell 6, bX.cell 7, bX.cell 8, bX.cell 9, bX.cell 10, bX.cell 11, bX.cell 12, bX.cell 13, bX.cell 14, bX.cell 15, bX.cell 16, bX.cell 17, bX.cell 18, bH.cell 0, bH.cell 1, bH.cell 2, bG.cell 0, bG.cell 1, bG.cell 2, Below.refl _ _⟩
          go_upto_region 10 with fail
          clear hlt hlt' hkn hk hbw lX lA a0 a1 a2 af k20 bX bH bG hrH hrB hBf hL1
          generalize decide (ItOk (txI t)) = okb at *
          obtain ⟨out, hout⟩ : ∃ out, out = itS (txI t) := ⟨_, rfl⟩
          have HOut : Hid (out = itS (txI t)) := hout
          rw [← hout] at HIt
          clear hout
          go_region_held3 (fun w' => w'.cell? ⟨X, 0, none⟩ = some (.int .i64 t.fr) ∧ w'.cell? ⟨X, 1, none⟩ = some (.int .i64 t.no) ∧ w'.cell? ⟨X, 2, none⟩ = some (.int .u64 (lb t.ti 0)) ∧ w'.cell? ⟨X, 3, none⟩ = some (.int .u64 (lb t.ti 1)) ∧ w'.cell? ⟨X, 4, none⟩ = some (.int .u64 (lb t.ti 2)) ∧ w'.cell? ⟨X, 5, none⟩ = some (.int .u64 (lb t.ti 3)) ∧ w'.cell? ⟨X, 6, none⟩ = some (.int .u64 (lb t.ca 0)) ∧ w'.cell? ⟨X, 7, none⟩ = some (.int .u64 (lb t.ca 1)) ∧ w'.cell? ⟨X, 8, none⟩ = some (.int .u64 (lb t.ca 2)) ∧ w'.cell? ⟨X, 9, none⟩ = some (.int .u64 (lb t.ca 3)) ∧ w'.cell? ⟨X, 10, none⟩ = some (.int .u64 (lb t.bc 0)) ∧ w'.cell? ⟨X, 11, none⟩ = some (.int .u64 (lb t.bc 1)) ∧ w'.cell? ⟨X, 12, none⟩ = some (.int .u64 (lb t.bc 2)) ∧ w'.cell? ⟨X, 13, none⟩ = some (.int .u64 (lb t.bc 3)) ∧ w'.cell? ⟨X, 14, none⟩ = some (.int .u64 (lb t.va 0)) ∧ w'.cell? ⟨X, 15, none⟩ = some (.int .u64 (lb t.va 1)) ∧ w'.cell? ⟨X, 16, none⟩ = some (.int .u64 (lb t.va 2)) ∧ w'.cell? ⟨X, 17, none⟩ = some (.int .u64 (lb t.va 3)) ∧ w'.cell? ⟨X, 18, none⟩ = some (.int .i64 t.ga) ∧ w'.cell? ⟨X + 1, 0, none⟩ = some (.bool true) ∧ w'.cell? ⟨X + 1, 1, none⟩ = some (.string ⟨#[]⟩) ∧ w'.cell? ⟨X + 1, 2, none⟩ = some ((.slice vh t.hs.length ch)) ∧ w'.cell? ⟨X + 1 + 1, 0, none⟩ = some (.bool true) ∧ w'.cell? ⟨X + 1 + 1, 1, none⟩ = some (.string ⟨#[]⟩) ∧ w'.cell? ⟨X + 1 + 1, 2, none⟩ = some ((.slice va t.bs.length vc)) ∧ Below wr.heap.size wr w') ((show S7 X t (.slice vh t.hs.length ch) (.slice va t.bs.length vc) wr _; repeat (first | with_reducible exact hT | with_reducible refine S7.drew ?_ | with_reducible refine S7.alloc ?_ _))) ((first | (go_at_call 60; refine (HNM.out _ (by first | exact .inl rfl | exact .inr (.inl rfl) | exact .inr (.inr rfl)) _).mono ?_; rintro e w7 ⟨rfl, hb7⟩; have hT := S7.below (X := X) (t := t) (h := (.slice vh t.hs.length ch)) (g := (.slice va t.bs.length vc)) (w0 := wr) (by repeat (first | with_reducible exact hT | with_reducible refine S7.drew ?_ | with_reducible refine S7.alloc ?_ _)) hb7) | (go_at_call 61; refine (HTX.out _ (by first | exact HW.out.ti | exact HW.out.ca | exact HW.out.bc | exact HW.out.va) _).mono ?_; rintro e w7 ⟨rfl, hb7⟩; have hT := S7.below (X := X) (t := t) (h := (.slice vh t.hs.length ch)) (g := (.slice va t.bs.length vc)) (w0 := wr) (by repeat (first | with_reducible exact hT | with_reducible refine S7.drew ?_ | with_reducible refine S7.alloc ?_ _)) hb7) | (go_at_call 57; refine (HTT.out _ _).mono ?_; rintro e w7 ⟨rfl, hb7⟩; have hT := S7.below (X := X) (t := t) (h := (.slice vh t.hs.length ch)) (g := (.slice va t.bs.length vc)) (w0 := wr) (by repeat (first | with_reducible exact hT | with_reducible refine S7.drew ?_ | with_reducible refine S7.alloc ?_ _)) hb7) | (go_at_call 59; refine (HIt.out _ _ (by repeat (first | with_reducible exact hT.bel | with_reducible refine Below.drew ?_ | with_reducible refine Below.alloc ?_ (by first | exact hT.bel.size | (have := hT.bel.size; omega)) _)) (by first | exact Bk.new _ _ _ | exact (Bk.new _ _ _).drew)).mono ?_; rintro e w7 ⟨rfl, hb7⟩; have hT := S7.below (X := X) (t := t) (h := (.slice vh t.hs.length ch)) (g := (.slice va t.bs.length vc)) (w0 := wr) (by repeat (first | with_reducible exact hT | with_reducible refine S7.drew ?_ | with_reducible refine S7.alloc ?_ _)) hb7)))
          all_goals
            go_wp2_with fail
            go_ret
            exact ⟨by rw [← HOut.out]; rfl, HBf.out.trans (hT.bel.mono HBf.out.size)⟩
end Go.Proofs.Ytapjonmgjccpbaa

import Derived.Test.YtapjonmgjccpbaaJ19
import Derived.Deep.RegionLaw
set_option linter.unusedSimpArgs false
set_option linter.unusedVariables false
set_option maxRecDepth 100000
namespace Go.Proofs.Ytapjonmgjccpbaa
open Go.RowKit Go.Shelf

/-! tx.Bytes by contract. -/
def bytS (t : TX) : ByteArray := if TxOk t then itS (txI t) else ⟨#[]⟩
set_option maxHeartbeats 4000000 in
theorem bytes7_go (t : TX) (aH aB : Option Addr) (cH cB : Nat) (w : World) (hw : TXw t) (hr : RT w t (.slice aH t.hs.length cH) (.slice aB t.bs.length cB)) (hok : TxOk t) :
    Calls Try.prog 22 #[.agg (txc t (.slice aH t.hs.length cH) (.slice aB t.bs.length cB))] w fun e w' => e = .returned (.tuple #[.string (itS (txI t)), .int .i64 0]) ∧ Below w.heap.size w w' := by
  obtain ⟨hn1, hn4, hhl, -⟩ := fit_facts t hok.2.2.2.2.1
  obtain ⟨hio, hiw⟩ := txI_ok t hok hw
  obtain ⟨f, hf⟩ : ∃ f : Nat, t.fr = (f : Int) := ⟨t.fr.toNat, by have := hok.1.1; omega⟩
  obtain ⟨n, hn⟩ : ∃ n : Nat, t.no = (n : Int) := ⟨t.no.toNat, by have := hok.2.1.1; omega⟩
  obtain ⟨g, hg⟩ : ∃ g : Nat, t.ga = (g : Int) := ⟨t.ga.toNat, by have := hok.2.2.1.1; omega⟩
  have hf2 : f ≤ 9223372036854775807 := by have := hok.1.2; omega
  have hn2 : n ≤ 9223372036854775807 := by have := hok.2.1.2; omega
  have hg2 : g ≤ 9223372036854775807 := by have := hok.2.2.1.2; omega
  have HK : Hid (∀ W, Below w.heap.size w W → Calls Try.prog 23 #[.agg (txc t (.slice aH t.hs.length cH) (.slice aB t.bs.length cB))] W fun e w' => e = .returned (.int .i64 0) ∧ Below W.heap.size W w') := fun W hW => by
    have := check7 t aH aB cH cB W hw (hr.below hW)
    rw [show cosE t = 0 from if_pos hok] at this
    exact this
  have HNu : Hid (∀ w, Calls Try.prog 52 #[.agg (txc t (.slice aH t.hs.length cH) (.slice aB t.bs.length cB))] w fun e w' => e = .returned (.func (.func 80) #[] #[.pointer (some ⟨w.heap.size, 0, none⟩)]) ∧ w' = w.alloc (.cells (txc t (.slice aH t.hs.length cH) (.slice aB t.bs.length cB)) 30)) := fun w => numbers_any t _ _ w
  have HNL : Hid (∀ W X, Bk W X (txc t (.slice aH t.hs.length cH) (.slice aB t.bs.length cB)) 30 → Calls Try.prog 51 #[.func (.func 80) #[] #[.pointer (some ⟨X, 0, none⟩)]] W fun e w' => (∃ ad c ps, e = .returned (.agg #[.bool true, .string ⟨#[]⟩, .slice ad 7 c]) ∧ MkL (W.heap.size + 2) w' (((nms t f n g).map nT).map txtI) ad 7 c ps) ∧ Below W.heap.size W w') := fun W X hb => numList t X f n g _ _ W hb hw hf hn hg hf2 hn2 hg2
  have HH1 : Hid (∀ W, Below w.heap.size w W → Calls Try.prog 53 #[(.slice aH t.hs.length cH)] W fun e w' => (∃ B, e = .returned (.func (.func 83) #[] #[.pointer (some ⟨B, 0, none⟩)]) ∧ Rows7 cU7 t.hs aH cH B w'.heap.size w') ∧ Below W.heap.size W w') := fun W hW => by
    refine (hashTexts_any aH t.hs.length cH W).mono ?_
    rintro e w' ⟨rfl, rfl⟩
    refine ⟨⟨_, rfl, rows_new fun i hi => ?_⟩, (Below.refl _ _).alloc (Nat.le_refl _) _⟩
    obtain ⟨-, -, a1, c1, e1, h1⟩ := (hr.below hW).1
    simp at e1
    obtain ⟨rfl, rfl⟩ := e1
    obtain ⟨b, off, ha, hc⟩ := h1 i hi
    exact ⟨b, off, ha, by rw [hc]; simp [cU7, hi]⟩
  have HV1 : Hid (∀ W, Below w.heap.size w W → Calls Try.prog 54 #[(.slice aB t.bs.length cB)] W fun e w' => (∃ B, e = .returned (.func (.func 85) #[] #[.pointer (some ⟨B, 0, none⟩)]) ∧ Rows7 cS7 t.bs aB cB B w'.heap.size w') ∧ Below W.heap.size W w') := fun W hW => by
    refine (values_any aB t.bs.length cB W).mono ?_
    rintro e w' ⟨rfl, rfl⟩
    refine ⟨⟨_, rfl, rows_new fun i hi => ?_⟩, (Below.refl _ _).alloc (Nat.le_refl _) _⟩
    obtain ⟨-, -, a1, c1, e1, h1⟩ := (hr.below hW).2
    simp at e1
    obtain ⟨rfl, rfl⟩ := e1
    obtain ⟨b, off, ha, hc⟩ := h1 i hi
    exact ⟨b, off, ha, by rw [hc]; simp [cS7, hi]⟩
  have HH2 : Hid (∀ W B, Rows7 cU7 t.hs aH cH B W.heap.size W → Calls Try.prog 51 #[.func (.func 83) #[] #[.pointer (some ⟨B, 0, none⟩)]] W fun e w' => (∃ ad c ps, e = .returned (.agg #[.bool true, .string ⟨#[]⟩, .slice ad t.hs.length c]) ∧ MkL (W.heap.size + 2) w' ((t.hs.map mkT8).map txtI) ad t.hs.length c ps) ∧ Below W.heap.size W w') := fun W B hP => hashList t.hs aH cH B W (by omega) hw.hs hP
  have HV2 : Hid (∀ W B, Rows7 cS7 t.bs aB cB B W.heap.size W → Calls Try.prog 51 #[.func (.func 85) #[] #[.pointer (some ⟨B, 0, none⟩)]] W fun e w' => (∃ ad c ps, e = .returned (.agg #[.bool true, .string ⟨#[]⟩, .slice ad t.bs.length c]) ∧ MkL (W.heap.size + 2) w' (t.bs.map txtI) ad t.bs.length c ps) ∧ Below W.heap.size W w') := fun W B hP => valList t.bs aB cB B W (by omega) hP
  have HIB : Hid (∀ W ad c, Rd W 3 (txI t).items (.slice ad 9 c) → Calls Try.prog 55 #[.agg #[.bool true, .string ⟨#[]⟩, .slice ad 9 c]] W fun e w' => e = .returned (.tuple #[.string (itS (txI t)), .int .i64 0]) ∧ Below W.heap.size W w') := fun W ad c hR => by
    have := bytes' 3 (txI t) ad 9 c W hR (by omega)
    rw [show ckE (txI t) = 0 from if_pos hio] at this
    exact this
  have HE : Hid (((nms t f n g).map nT).map txtI = [txtI (nT t.fr.toNat), txtI (nT t.no.toNat), txtI (nT t.ti), txtI (nT t.ca), txtI (nT t.bc), txtI (nT t.va), txtI (nT t.ga.toNat)] ∧ (t.hs.map mkT8).map txtI = hsI t ∧ t.bs.map txtI = bsI t) := ⟨by rw [hf, hn, hg]; rfl, by simp [hsI, mkT8], rfl⟩
  obtain ⟨i0, hi, hz0, hz1, hz2⟩ := info_of infoI
  have HIn : Hid (Try.prog.info? 70 = some i0 ∧ i0.zero = some (.agg #[.bool false, .string ⟨#[]⟩, .slice none 0 0]) ∧ i0.size = 3 ∧ i0.bytes = 48) := ⟨hi, hz0, hz1, hz2⟩
  have hB : Below w.heap.size w (w.alloc (.cells (txc t (.slice aH t.hs.length cH) (.slice aB t.bs.length cB)) 30)) := (Below.refl _ _).alloc (Nat.le_refl _) _
  have HX : Hid (Bk (w.alloc (.cells (txc t (.slice aH t.hs.length cH) (.slice aB t.bs.length cB)) 30)) w.heap.size (txc t (.slice aH t.hs.length cH) (.slice aB t.bs.length cB)) 30) := Bk.new _ _ _
  obtain ⟨X, hX⟩ : ∃ X, X = w.heap.size := ⟨_, rfl⟩
  obtain ⟨out, hout⟩ : ∃ out, out = itS (txI t) := ⟨_, rfl⟩
  rw [← hout] at HIB
  have HOut : Hid (out = itS (txI t) ∧ X = w.heap.size) := ⟨hout, hX⟩
  have hh4 : t.hs.length ≤ 4 := by omega
  clear hi hz0 hz1 hz2 hout hw hr hok hio hiw hf hn hg hhl
  rw [← HOut.out.1]
  go_enter Try.func22, Try.ntmps22
  go_wp2_with (refine wpList_load_tx rfl _ rfl rfl HX.out ?_)
  refine (HK.out _ hB).mono ?_
  rintro e w1 ⟨rfl, hb1⟩
  have bX1 := HX.out.below hb1 (by simp)
  have hB1 := hB.trans (hb1.mono hB.size)
  rw [← hX] at bX1 ⊢
  clear hX HX hB hb1 HK
  have HX1 : Hid (Bk w1 X (txc t (.slice aH t.hs.length cH) (.slice aB t.bs.length cB)) 30) := bX1
  go_wp2_with (refine wpList_load_tx rfl _ rfl rfl HX1.out ?_)
  refine (HNu.out _).mono ?_
  rintro e w2 ⟨rfl, hw2⟩
  have bN : Bk w2 w1.heap.size (txc t (.slice aH t.hs.length cH) (.slice aB t.bs.length cB)) 30 := by rw [hw2]; exact Bk.new _ _ _
  have bX2 : Bk w2 X (txc t (.slice aH t.hs.length cH) (.slice aB t.bs.length cB)) 30 := by rw [hw2]; exact bX1.alloc _
  have hB2 : Below w.heap.size w w2 := by rw [hw2]; exact hB1.alloc hB1.size _
  clear hw2 bX1 hB1 HX1 HNu
  go_wp2_with fail
  refine (HNL.out _ _ bN).mono ?_
  rintro e w3 ⟨⟨va, vc, ps0, rfl, hL0⟩, hb3⟩
  have bX3 := bX2.below hb3 bX2.lt
  have hB3 := hB2.trans (hb3.mono hB2.size)
  clear bN bX2 HNL
  obtain ⟨wr, hwr⟩ : ∃ wr, wr = w3.alloc (.cells #[.bool true, .string ⟨#[]⟩, .slice va 7 vc] 70) := ⟨_, rfl⟩
  obtain ⟨B, hBq⟩ : ∃ B, B = w3.heap.size := ⟨_, rfl⟩
  go_upto_region 5 with fail
  rw [← hwr, ← hBq]
  have bX : Bk wr X (txc t (.slice aH t.hs.length cH) (.slice aB t.bs.length cB)) 30 := by rw [hwr]; exact bX3.alloc _
  have bA : Bk wr B #[.bool true, .string ⟨#[]⟩, .slice va 7 vc] 70 := by rw [hwr, hBq]; exact Bk.new _ _ _
  have hBr : Below w.heap.size w wr := by rw [hwr]; exact hB3.alloc hB3.size _
  have hbL : Below w3.heap.size w3 wr := by rw [hwr]; exact (Below.refl _ _).alloc (Nat.le_refl _) _
  have HXB : Hid (Bk wr X (txc t (.slice aH t.hs.length cH) (.slice aB t.bs.length cB)) 30 ∧ Bk wr B #[.bool true, .string ⟨#[]⟩, .slice va 7 vc] 70) := ⟨bX, bA⟩
  have HBr : Hid (Below w.heap.size w wr) := hBr
  have HL0 : Hid (MkL (w2.heap.size + 2) wr (((nms t f n g).map nT).map txtI) va 7 vc ps0) := ⟨hL0.1, hL0.2.1, hL0.2.2.below hbL⟩
  have HP0 : Hid (∀ p ∈ ps0, ∃ a c, p.2 = .slice a 0 c) := hL0.nil2
  have hwX : w.heap.size ≤ X := by rw [HOut.out.2]; exact Nat.le_refl _
  have hBlt : B < wr.heap.size := bA.lt
  have hrowB : ∀ q, (Value.slice va 7 vc).ownBlock = some q → q < B := fun q hq => by rw [hBq]; exact (hL0.2.2.row.lt q hq).2
  have h7 : ps0.length = 7 := by have := congrArg List.length hL0.1; simpa [nms] using this
  have h2B : w2.heap.size + 2 ≤ B := by
    rw [hBq]
    rcases hL0.2.2.row.2 with ⟨hz, hz'⟩ | ⟨g', _, _, _, hg', hh, _⟩
    · omega
    · have := (Array.getElem?_eq_some_iff.1 hh).1
      omega
  have HRB : Hid ((∀ q, (Value.slice va 7 vc).ownBlock = some q → q < B) ∧ w2.heap.size + 2 ≤ B ∧ ps0.length = 7) := ⟨hrowB, h2B, h7⟩
  have x19 := bX.cell 19
  have x20 := bX.cell 20
  have a2 := bA.cell 2
  simp only [List.getElem?_toArray, List.getElem?_cons_zero, List.getElem?_cons_succ] at x19 x20 a2
  clear bX bA hBr hbL hwr hBq hL0 hb3 hB3 bX3 hrowB
  go_region_law (first
      | (refine step_append_src (by rfl) _ _ 68 68 (by rfl) (w2.heap.size + 2) 70 i0 (.agg #[.bool false, .string ⟨#[]⟩, .slice none 0 0]) 3 48 Try.underlying68 HIn.out.1 HIn.out.2.1 HIn.out.2.2.1 HIn.out.2.2.2 rfl (.slice va 7 vc) (.slice (some ⟨w8.heap.size, 0, none⟩) 2 2) 7 (icells ps0) 2 [.bool true, .string ⟨#[]⟩, .slice vh t.hs.length ch, .bool true, .string ⟨#[]⟩, .slice vb t.bs.length cb] (by simp [Act.eval, Act.put]) (by simp [Act.eval, Act.put]) (by have h := (HL0.out.2.2.below H8.out).row; rw [HRB.out.2.2] at h; exact h.alloc _) (two_src (Bk.new w8 _ _) rfl rfl rfl rfl rfl rfl) (by unfold maxLen; omega) (by omega) (by simp; have := H8.out.size; have := HRB.out.2.1; omega) (by omega) 9 rfl ?_; intro g9 cap9 w9 hown9 hgr9 hsn9 hlt9 hbg9; have b9 := bk_grown ((HXB.out.2.below H8.out HXB.out.2.lt).alloc (.cells #[.bool true, .string ⟨#[]⟩, .slice vh t.hs.length ch, .bool true, .string ⟨#[]⟩, .slice vb t.bs.length cb] 70)) hgr9 (fun q hq => by have := HRB.out.1 q hq; omega); obtain ⟨z90, z91, z92⟩ := box_cells b9; have zf9 := b9.frozen 2; have l9 := b9.lt; have H9 : Hid (w9.ownsRow (w2.heap.size + 2) 70 3 (.slice (some ⟨g9, 0, none⟩) 9 cap9) 9 (icells ps0 ++ [.bool true, .string ⟨#[]⟩, .slice vh t.hs.length ch, .bool true, .string ⟨#[]⟩, .slice vb t.bs.length cb]) ∧ (w8.alloc (.cells #[.bool true, .string ⟨#[]⟩, .slice vh t.hs.length ch, .bool true, .string ⟨#[]⟩, .slice vb t.bs.length cb] 70)).grownBy w9 (Value.slice va 7 vc).ownBlock ∧ Sn (w8.alloc (.cells #[.bool true, .string ⟨#[]⟩, .slice vh t.hs.length ch, .bool true, .string ⟨#[]⟩, .slice vb t.bs.length cb] 70)) (.slice va 7 vc) (.slice (some ⟨g9, 0, none⟩) 9 cap9) ∧ Bk w9 B #[.bool true, .string ⟨#[]⟩, .slice va 7 vc] 70 ∧ w2.heap.size + 2 ≤ g9) := ⟨hown9, hgr9, hsn9, b9, hbg9⟩; clear hown9 hgr9 hsn9 b9 hbg9)
      | (go_simp; go_at_call 53; (with_reducible refine (HH1.out _ HBr.out.drew).mono ?_); rintro e w5 ⟨⟨B5, rfl, hR5⟩, hb5⟩; have H5 : Hid (Below wr.heap.size wr w5) := (Below.refl wr.heap.size wr).drew.trans (hb5.mono (Nat.le_refl _)); have HR5 : Hid (Rows7 cU7 t.hs aH cH B5 w5.heap.size w5) := hR5; have z5a := (HXB.out.1.below H5.out HXB.out.1.lt).cell 19; have z5b := (HXB.out.1.below H5.out HXB.out.1.lt).cell 20; have z5c := (HXB.out.2.below H5.out HXB.out.2.lt).cell 2; simp only [List.getElem?_toArray, List.getElem?_cons_zero, List.getElem?_cons_succ] at z5a z5b z5c; have zl5 : B < w5.heap.size := Nat.lt_of_lt_of_le hBlt H5.out.size; clear hb5 hR5)
      | (go_simp; go_at_call 51; (with_reducible refine (HH2.out _ _ HR5.out).mono ?_); rintro e w6 ⟨⟨vh, ch, psH, rfl, hLh⟩, hb6⟩; have H6 : Hid (Below wr.heap.size wr w6) := H5.out.trans (hb6.mono H5.out.size); have HLh : Hid (MkL (w5.heap.size + 2) w6 ((t.hs.map mkT8).map txtI) vh t.hs.length ch psH) := hLh; have z6a := (HXB.out.1.below H6.out HXB.out.1.lt).cell 19; have z6b := (HXB.out.1.below H6.out HXB.out.1.lt).cell 20; have z6c := (HXB.out.2.below H6.out HXB.out.2.lt).cell 2; simp only [List.getElem?_toArray, List.getElem?_cons_zero, List.getElem?_cons_succ] at z6a z6b z6c; have zl6 : B < w6.heap.size := Nat.lt_of_lt_of_le hBlt H6.out.size; clear hb6 hLh)
      | (go_simp; go_at_call 54; (with_reducible refine (HV1.out _ (HBr.out.trans (H6.out.mono HBr.out.size))).mono ?_); rintro e w7 ⟨⟨B7, rfl, hR7⟩, hb7⟩; have H7 : Hid (Below wr.heap.size wr w7) := H6.out.trans (hb7.mono H6.out.size); have H67 : Hid (Below w6.heap.size w6 w7) := hb7; have HR7 : Hid (Rows7 cS7 t.bs aB cB B7 w7.heap.size w7) := hR7; have z7a := (HXB.out.1.below H7.out HXB.out.1.lt).cell 19; have z7b := (HXB.out.1.below H7.out HXB.out.1.lt).cell 20; have z7c := (HXB.out.2.below H7.out HXB.out.2.lt).cell 2; simp only [List.getElem?_toArray, List.getElem?_cons_zero, List.getElem?_cons_succ] at z7a z7b z7c; have zl7 : B < w7.heap.size := Nat.lt_of_lt_of_le hBlt H7.out.size; clear hb7 hR7)
      | (go_simp; go_at_call 51; (with_reducible refine (HV2.out _ _ HR7.out).mono ?_); rintro e w8 ⟨⟨vb, cb, psB, rfl, hLb⟩, hb8⟩; have H8 : Hid (Below wr.heap.size wr w8) := H7.out.trans (hb8.mono H7.out.size); have H68 : Hid (Below w6.heap.size w6 w8) := H67.out.trans (hb8.mono H67.out.size); have HLb : Hid (MkL (w7.heap.size + 2) w8 (t.bs.map txtI) vb t.bs.length cb psB) := hLb; have z8a := (HXB.out.1.below H8.out HXB.out.1.lt).cell 19; have z8b := (HXB.out.1.below H8.out HXB.out.1.lt).cell 20; have z8c := (HXB.out.2.below H8.out HXB.out.2.lt).cell 2; simp only [List.getElem?_toArray, List.getElem?_cons_zero, List.getElem?_cons_succ] at z8a z8b z8c; have zl8 : B < w8.heap.size := Nat.lt_of_lt_of_le hBlt H8.out.size; clear hb8 hLb))
  all_goals
    go_wp2_with fail
    obtain ⟨hend, hbe⟩ := by7_end (t := t) (B := B) (.slice (some ⟨g9, 0, none⟩) 9 cap9) (HL0.out.1.trans HE.out.1) HP0.out HBr.out H8.out H68.out (HLh.out.1.trans HE.out.2.1) HLh.out.2.2 (HLb.out.1.trans HE.out.2.2) HLb.out.2.2 hh4 hn4 (by have := H5.out.size; omega) (by have := H7.out.size; omega) (fun q hq => ⟨(HL0.out.2.2.row.lt q hq).1, HRB.out.1 q hq⟩) (by have := hB2.size; omega) (by have := HOut.out.2; have := HRB.out.2.1; have := hB2.size; omega) zl8 H9.out.1 _ H9.out.2.1 H9.out.2.2.1
    refine (HIB.out _ _ _ hend).mono ?_
    rintro e w10 ⟨rfl, hb10⟩
    go_wp2_with fail
    refine bodyPost_ret (v := .tuple #[.string out, .int .i64 0]) ?_ rfl ⟨rfl, hbe.trans (hb10.mono hbe.size)⟩
    simp [results, Try.results22, go_sem]
set_option maxHeartbeats 1000000 in
theorem bytes7 (t : TX) (aH aB : Option Addr) (cH cB : Nat) (w : World) (hw : TXw t) (hr : RT w t (.slice aH t.hs.length cH) (.slice aB t.bs.length cB)) :
    Calls Try.prog 22 #[.agg (txc t (.slice aH t.hs.length cH) (.slice aB t.bs.length cB))] w fun e w' => e = .returned (.tuple #[.string (bytS t), .int .i64 (cosE t)]) ∧ Below w.heap.size w w' := by
  by_cases hok : TxOk t
  · have h1 : bytS t = itS (txI t) := if_pos hok
    have h2 : cosE t = 0 := if_pos hok
    rw [h1, h2]
    exact bytes7_go t aH aB cH cB w hw hr hok
  · have h1 : bytS t = ⟨#[]⟩ := if_neg hok
    have h2 : cosE t = 1 := if_neg hok
    rw [h1, h2]
    have HK : Hid (∀ W, Below w.heap.size w W → Calls Try.prog 23 #[.agg (txc t (.slice aH t.hs.length cH) (.slice aB t.bs.length cB))] W fun e w' => e = .returned (.int .i64 1) ∧ Below W.heap.size W w') := fun W hW => by
      have := check7 t aH aB cH cB W hw (hr.below hW)
      rw [h2] at this
      exact this
    have hB : Below w.heap.size w (w.alloc (.cells (txc t (.slice aH t.hs.length cH) (.slice aB t.bs.length cB)) 30)) := (Below.refl _ _).alloc (Nat.le_refl _) _
    have HX : Hid (Bk (w.alloc (.cells (txc t (.slice aH t.hs.length cH) (.slice aB t.bs.length cB)) 30)) w.heap.size (txc t (.slice aH t.hs.length cH) (.slice aB t.bs.length cB)) 30) := Bk.new _ _ _
    clear h1 h2 hw hr
    go_enter Try.func22, Try.ntmps22
    go_wp2_with (refine wpList_load_tx rfl _ rfl rfl HX.out ?_)
    refine (HK.out _ hB).mono ?_
    rintro e w1 ⟨rfl, hb1⟩
    go_wp2_with fail
    refine bodyPost_ret (v := .tuple #[.string ⟨#[]⟩, .int .i64 1]) ?_ rfl ⟨rfl, hB.trans (hb1.mono hB.size)⟩
    simp [results, Try.results22, go_sem]
end Go.Proofs.Ytapjonmgjccpbaa

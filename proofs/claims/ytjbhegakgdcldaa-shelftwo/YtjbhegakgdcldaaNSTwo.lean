import Derived.Test.YtjbhegakgdcldaaShY
import Derived.Deep.CutBlock
set_option linter.unusedSimpArgs false
set_option linter.unusedVariables false
set_option maxRecDepth 100000
namespace Go.Proofs.Ytjbhegakgdcldaa
open Go.RowKit

/-! tarnlaw10.ShelfTwo, walked. -/
def TwQ (w : World) (e : Ending) (w' : World) : Prop := e = .returned (.bool true) ∧ Below w.heap.size w w'
set_option maxHeartbeats 16000000 in
theorem shelfTwo_walk (w : World) (kv fv : Value) (v : Value) (q : Nat → Ac10) (len : Nat) (oa : Option Addr) (ol oc : Nat) (h : La10 w v q len) (hol : ol ≤ maxLen) :
    Calls Try.prog 11 #[.agg #[kv, fv, v, .slice oa ol oc]] w (TwQ w) := by
  have hlen := h.1
  unfold maxLen at hlen
  have HH : Hid (∀ W, Below w.heap.size w W → Calls Try.prog 19 #[.agg #[kv, fv, v, .slice oa ol oc]] W (HvQ W)) := fun W hb => heavy10 W kv fv v q len oa ol oc (h.below hb) hol
  obtain ⟨ad, cp, rfl⟩ : ∃ ad cap, v = .slice ad len cap := by obtain ⟨_, ad, cap, e, _⟩ := h; exact ⟨ad, cap, e⟩
  have HD : Hid (∀ W, Calls Try.prog 21 #[.slice none 0 0] W fun e w' => e = .returned (.pointer (some ⟨W.heap.size, 0, none⟩)) ∧ Below W.heap.size W w' ∧ ∃ O, D1 W w' W.heap.size O (dsN [] 8)) := fun W => disk10 W _ [] (Rl.nil9 W) (.inl rfl) sml_nil
  have HNu : Hid (∀ (z : Int) W, Calls Try.prog 23 #[.int .i64 z] W fun e w' => e = .returned (.int .i64 z) ∧ w' = W) := fun z W => num10 z W
  have HWk : Hid (∀ W, Calls Try.prog 33 #[] W fun e w' => e = .returned (.bool true) ∧ Below W.heap.size W w') := wakes10
  go_enter Try.func11, Try.ntmps11
  go_upto_region 1 with fail
  obtain ⟨W0, hW0⟩ : ∃ W0, W0 = w.alloc (.cells #[kv, fv, .slice ad len cp, .slice oa ol oc] 25) := ⟨_, rfl⟩
  rw [← hW0]
  have hX : Bk W0 w.heap.size #[kv, fv, .slice ad len cp, .slice oa ol oc] 25 := by rw [hW0]; exact Bk.new _ _ _
  have HB0 : Hid (Below w.heap.size w W0) := by show Below _ _ _; rw [hW0]; exact (Below.refl _ _).alloc (Nat.le_refl _) _
  have HL : Hid (∀ i, i < len → (∃ b off, ad = some ⟨b, off, none⟩ ∧ W0.cell? ⟨b, off + i * 4, none⟩ = some (.int .i64 (q i).d) ∧ W0.cell? ⟨b, off + i * 4 + 1, none⟩ = some (.int .i64 (q i).n) ∧ W0.cell? ⟨b, off + i * 4 + 2, none⟩ = some (.string (q i).s) ∧ W0.cell? ⟨b, off + i * 4 + 3, none⟩ = some (q i).pv) ∧ (q i).s.size ≤ maxLen) := by
    obtain ⟨_, ad', cp', e, h2⟩ := h.below HB0.out
    simp at e
    obtain ⟨rfl, rfl⟩ := e
    intro i hi
    exact ⟨(h2 i hi).1, (h2 i hi).2.1⟩
  have HX : Hid (Bk W0 w.heap.size #[kv, fv, .slice ad len cp, .slice oa ol oc] 25) := hX
  clear hW0 h hX
  obtain ⟨X, hXx⟩ : ∃ X, X = w.heap.size := ⟨_, rfl⟩
  rw [← hXx] at HX ⊢
  have HXx : Hid (X = w.heap.size) := hXx
  clear hXx
  have x0 : W0.cell? ⟨X, 0, none⟩ = some kv := by have := HX.out.cell 0; simpa using this
  have x1 : W0.cell? ⟨X, 1, none⟩ = some fv := by have := HX.out.cell 1; simpa using this
  have x2 : W0.cell? ⟨X, 2, none⟩ = some (.slice ad len cp) := by have := HX.out.cell 2; simpa using this
  have x3 : W0.cell? ⟨X, 3, none⟩ = some (.slice oa ol oc) := by have := HX.out.cell 3; simpa using this
  go_wp2_with (go_at_call 19; refine stop10 ?_)
  unfold Hold10
  refine Calls.mono (HH.out _ HB0.out) ?_
  rintro e w1 ⟨⟨c, rfl⟩, hb1⟩
  have HB1 : Hid (Below W0.heap.size W0 w1) := hb1
  clear hb1 x0 x1 x2 x3
  cases c with
  | true =>
    go_wp2_with fail
    go_ret
    exact ⟨rfl, HB0.out.trans (HB1.out.mono HB0.out.size)⟩
  | false =>
    go_wp2_with (go_at_call 21; refine stop10 ?_)
    unfold Hold10
    refine Calls.mono (HD.out _) ?_
    rintro e w2 ⟨rfl, hb2, O2, h2⟩
    have H2 : Hid (D1 w1 w2 w1.heap.size O2 (dsN [] 8)) := h2
    have HB2 : Hid (Below W0.heap.size W0 w2) := HB1.out.trans (hb2.mono HB1.out.size)
    clear h2 hb2
    obtain ⟨d, hd⟩ : ∃ d, d = w1.heap.size := ⟨_, rfl⟩
    rw [← hd] at H2 ⊢
    clear hd
    go_wp2_with (go_at_call 22; refine stop10 ?_)
    unfold Hold10
    refine Calls.mono (Sf.open (f := 0) (n := 128) H2.out (calm_new sml_nil 8) (by omega) (by omega) rfl) ?_
    rintro e w3 ⟨rfl, O3, P3, h3, _⟩
    have H3 : Hid (Sf w1 w3 d O3 P3 w2.heap.size 0 128 (psyD (dsN [] 8) (0 : Nat)) []) := h3
    clear h3
    obtain ⟨a, ha⟩ : ∃ a, a = w2.heap.size := ⟨_, rfl⟩
    rw [← ha] at H3 ⊢
    clear ha
    have HO2 : Hid (Calls Try.prog 22 #[.pointer (some ⟨d, 0, none⟩), .int .i64 1, .int .i64 256] w3 fun e w' => e = .returned (.tuple #[.pointer (some ⟨w3.heap.size, 0, none⟩), .int .i64 0]) ∧ ∃ T, Two w1 w' d T a w3.heap.size [] []) := two_open H3.out rfl
    go_wp2_with (go_at_call 22; refine stop10 ?_)
    unfold Hold10
    refine Calls.mono HO2.out ?_
    rintro e w4 ⟨rfl, T4, h4⟩
    obtain ⟨b, hb⟩ : ∃ b, b = w3.heap.size := ⟨_, rfl⟩
    rw [← hb] at h4 ⊢
    have H4 : Hid (Two w1 w4 d T4 a b [] []) := h4
    clear hb h4 HO2
    go_wp2_with (go_at_call 23; refine Calls.mono (HNu.out _ _) ?_; rintro e w9 ⟨rfl, hw9⟩; have hw9 := hw9.symm; subst hw9)
    have hW01 : W0.heap.size ≤ w1.heap.size := HB1.out.size
    have HBw : Hid (∀ wr, Below w1.heap.size w1 wr → Below W0.heap.size W0 wr) := fun wr h => HB1.out.trans (h.mono hW01)
    clear hW01
    have HT0 : Hid (TJ w1 w4 d a b [] [] (.slice none 0 0) (.slice none 0 0) [] []) := ⟨T4, H4.out, Or.nil _ _ _ _, Or.nil _ _ _ _, fun g hg => by simp [Value.ownBlock] at hg, fun g hg => by simp [Value.ownBlock] at hg⟩
    obtain ⟨i0, hi1, hi2, hi3, hi4⟩ : ∃ i0, Try.prog.info? 9 = some i0 ∧ i0.zero = some (.string ⟨#[]⟩) ∧ i0.size = 1 ∧ i0.bytes = 16 := by have h := infoS; revert h; cases Try.prog.info? 9 with | none => intro h; simp at h | some i => intro h; simp at h; exact ⟨i, rfl, h.1, h.2.1, h.2.2⟩
    have HIn : Hid (Try.prog.info? 9 = some i0 ∧ i0.zero = some (.string ⟨#[]⟩) ∧ i0.size = 1 ∧ i0.bytes = 16) := ⟨hi1, hi2, hi3, hi4⟩
    clear hi1 hi2 hi3 hi4
    go_loopw [8, 9, 10] (fun lv mv i wr => ∃ k : Nat, k ≤ 12 ∧ i = .int .i64 (k : Int) ∧ Hid (∃ L M, TJ w1 wr d a b L M lv mv L M ∧ (∀ x ∈ L, x.size ≤ 100) ∧ (∀ x ∈ M, x.size ≤ 100) ∧ L.length ≤ k ∧ M.length ≤ k)) (fun lv mv i _ => 12 - (intOf i).toNat)
    case atStart => exact ⟨0, by omega, rfl, [], [], HT0.out, by simp, by simp, by simp, by simp⟩
    case round =>
      obtain ⟨k, hk, rfl, HI⟩ := hrel
      obtain ⟨L, M, hT, hL, hM, hlL, hlM⟩ := HI.out
      have HT : Hid (TJ w1 wr d a b L M _ _ L M) := hT
      have HS : Hid ((∀ x ∈ L, x.size ≤ 100) ∧ (∀ x ∈ M, x.size ≤ 100) ∧ L.length ≤ k ∧ M.length ≤ k) := ⟨hL, hM, hlL, hlM⟩
      have hb := HBw.out _ hT.bel
      have HBr : Hid (Below W0.heap.size W0 wr) := hb
      have x2 : wr.cell? ⟨X, 2, none⟩ = some (.slice ad len cp) := (hb.cell HX.out.lt).trans (by have := HX.out.cell 2; simpa using this)
      obtain ⟨la, lc, rfl, -⟩ : ∃ ad cap, u8 = .slice ad L.length cap ∧ L.length ≤ cap := by obtain ⟨T, _, r, _⟩ := hT; exact r.shape
      obtain ⟨ma, mc, rfl, -⟩ : ∃ ad cap, u9 = .slice ad M.length cap ∧ M.length ≤ cap := by obtain ⟨T, _, _, r, _⟩ := hT; exact r.shape
      clear hT hL hM hlL hlM hb
      by_cases hlt : k < len
      · have hlt' : (k : Int) < (len : Int) := by omega
        by_cases hlt2 : k < 12
        · have hlt2' : (k : Int) < 12 := by omega
          obtain ⟨⟨b0, off, rfl, -, c1, c2, -⟩, hs⟩ := HL.out k hlt
          have hb := HBr.out
          replace c1 := (hb.cell (cell_lt' c1)).trans c1
          replace c2 := (hb.cell (cell_lt' c2)).trans c2
          clear hb
          generalize (q k).s = s at *
          generalize (q k).n = nn at *
          by_cases hss : s.size ≤ 100
          · have hss' : ¬ (100 : Int) < (s.size : Int) := by omega
            go_wp2_with (go_at_call 20; refine stop10 ?_)
            unfold Hold10
            refine (within9 _ 2 (by omega) (by omega) _).mono ?_
            rintro e w6 ⟨⟨j, hj, rfl⟩, hw6⟩
            have hw6 := hw6.symm
            subst hw6
            rcases (show j = 0 ∨ j = 1 by omega) with rfl | rfl
            · have HSz : Hid ((∀ x ∈ L ++ [s], x.size ≤ 100) ∧ (∀ x ∈ M, x.size ≤ 100) ∧ (L ++ [s]).length ≤ k + 1 ∧ M.length ≤ k + 1) := by
                obtain ⟨e1, e2, e3, e4⟩ := HS.out
                refine ⟨fun x hx => ?_, e2, by simp; omega, by omega⟩
                rcases List.mem_append.1 hx with h | h
                · exact e1 x h
                · rw [List.mem_singleton.1 h]; omega
              have HP : Hid (Calls Try.prog 29 #[.pointer (some ⟨a, 0, none⟩), .string s] wr fun e w' => e = .returned (.tuple #[.int .i64 (L.length : Int), .int .i64 0]) ∧ TJ w1 w' d a b (L ++ [s]) M (.slice la L.length lc) (.slice ma M.length mc) L M) := HT.out.putA s (by omega) (by have := HS.out; omega)
              go_wp2_with (go_at_call 29; refine stop10 ?_)
              unfold Hold10
              refine Calls.mono HP.out ?_
              rintro e w5 ⟨rfl, h5⟩
              have H5 : Hid (TJ w1 w5 d a b (L ++ [s]) M (.slice la L.length lc) (.slice ma M.length mc) L M) := h5
              clear h5 HP x2 c1 c2
              have HSrc : Hid (Src Try.prog 1 52 (.slice (some ⟨w5.heap.size, 0, none⟩) 1 1) 1 [cS s] (w5.alloc (.cells #[.string s] 9))) := one_str (Bk.new _ _ _)
              have HRow : Hid ((w5.alloc (.cells #[.string s] 9)).ownsRow w1.heap.size 9 1 (.slice la L.length lc) L.length (L.map cS)) := by obtain ⟨T, _, r, _⟩ := H5.out; exact r.alloc _
              have hl12 : L.length ≤ 12 := by have := HS.out; omega
              have HZ5 : Hid (w1.heap.size ≤ w5.heap.size) := H5.out.bel.size
              go_wp2_with (first
                | (go_at_call 23; refine Calls.mono (HNu.out _ _) ?_; rintro e w9 ⟨rfl, hw9⟩; have hw9 := hw9.symm; subst hw9)
                | (at_builtin; refine wpList_append_src rfl _ _ 52 52 rfl w1.heap.size 9 i0 (.string ⟨#[]⟩) 1 16 Try.underlying52 HIn.out.1 HIn.out.2.1 HIn.out.2.2.1 HIn.out.2.2.2 rfl (.slice la L.length lc) (.slice (some ⟨w5.heap.size, 0, none⟩) 1 1) L.length (L.map cS) 1 [cS s] rfl rfl HRow.out HSrc.out (by unfold maxLen; omega) (by omega) (by simp; have := HZ5.out; omega) ?_; intro v3 w3 hown3 hgr3 hsn3; have H6 : Hid (TJ w1 w3 d a b (L ++ [s]) M v3 (.slice ma M.length mc) (L ++ [s]) M) := H5.out.appA hown3 hgr3 hsn3; clear hown3 hgr3 hsn3)
                | (go_at_call 38; refine stop10 ?_))
              unfold Hold10
              refine Calls.mono H6.out.textsA ?_
              rintro e w7 ⟨v7, rfl, hr7, h7⟩
              have H7 : Hid (TJ w1 w7 d a b (L ++ [s]) M v3 (.slice ma M.length mc) (L ++ [s]) M ∧ Or 9 cS w7 w3.heap.size v7 (L ++ [s])) := ⟨h7, hr7⟩
              clear hr7 h7 H6 HSrc HRow H5
              have HE7 : Hid (Calls Try.prog 41 #[v7, v3] w7 fun e w' => e = .returned (.bool true) ∧ TJ w1 w' d a b (L ++ [s]) M v3 (.slice ma M.length mc) (L ++ [s]) M) := H7.out.1.eqA H7.out.2 HSz.out.1
              go_wp2_with (go_at_call 41; refine stop10 ?_)
              unfold Hold10
              refine Calls.mono HE7.out ?_
              rintro e w8 ⟨rfl, h8⟩
              have H8 : Hid (TJ w1 w8 d a b (L ++ [s]) M v3 (.slice ma M.length mc) (L ++ [s]) M) := h8
              clear h8 HE7
              go_wp2_with (go_at_call 38; refine stop10 ?_)
              unfold Hold10
              refine Calls.mono H8.out.textsB ?_
              rintro e w10 ⟨v10, rfl, hr10, h10⟩
              have H10 : Hid (TJ w1 w10 d a b (L ++ [s]) M v3 (.slice ma M.length mc) (L ++ [s]) M ∧ Or 9 cS w10 w8.heap.size v10 M) := ⟨h10, hr10⟩
              clear hr10 h10
              have HE10 : Hid (Calls Try.prog 41 #[v10, .slice ma M.length mc] w10 fun e w' => e = .returned (.bool true) ∧ TJ w1 w' d a b (L ++ [s]) M v3 (.slice ma M.length mc) (L ++ [s]) M) := H10.out.1.eqB H10.out.2 HSz.out.2.1
              go_wp2_with (go_at_call 41; refine stop10 ?_)
              unfold Hold10
              refine Calls.mono HE10.out ?_
              rintro e w11 ⟨rfl, h11⟩
              have H11 : Hid (TJ w1 w11 d a b (L ++ [s]) M v3 (.slice ma M.length mc) (L ++ [s]) M) := h11
              clear h11 HE10
              go_wp2_with fail
              go_roundw
              case rel => exact ⟨k + 1, by omega, by go_num, L ++ [s], M, H11.out, HSz.out.1, HSz.out.2.1, HSz.out.2.2⟩
              case measure => simp [intOf]; omega
            · have HSz : Hid ((∀ x ∈ L, x.size ≤ 100) ∧ (∀ x ∈ M ++ [s], x.size ≤ 100) ∧ L.length ≤ k + 1 ∧ (M ++ [s]).length ≤ k + 1) := by
                obtain ⟨e1, e2, e3, e4⟩ := HS.out
                refine ⟨e1, fun x hx => ?_, by omega, by simp; omega⟩
                rcases List.mem_append.1 hx with h | h
                · exact e2 x h
                · rw [List.mem_singleton.1 h]; omega
              have HP : Hid (Calls Try.prog 29 #[.pointer (some ⟨b, 0, none⟩), .string s] wr fun e w' => e = .returned (.tuple #[.int .i64 (M.length : Int), .int .i64 0]) ∧ TJ w1 w' d a b L (M ++ [s]) (.slice la L.length lc) (.slice ma M.length mc) L M) := HT.out.putB s (by omega) (by have := HS.out; omega)
              go_wp2_with (go_at_call 29; refine stop10 ?_)
              unfold Hold10
              refine Calls.mono HP.out ?_
              rintro e w5 ⟨rfl, h5⟩
              have H5 : Hid (TJ w1 w5 d a b L (M ++ [s]) (.slice la L.length lc) (.slice ma M.length mc) L M) := h5
              clear h5 HP x2 c1 c2
              have HSrc : Hid (Src Try.prog 1 52 (.slice (some ⟨w5.heap.size, 0, none⟩) 1 1) 1 [cS s] (w5.alloc (.cells #[.string s] 9))) := one_str (Bk.new _ _ _)
              have HRow : Hid ((w5.alloc (.cells #[.string s] 9)).ownsRow w1.heap.size 9 1 (.slice ma M.length mc) M.length (M.map cS)) := by obtain ⟨T, _, _, r, _⟩ := H5.out; exact r.alloc _
              have hl12 : M.length ≤ 12 := by have := HS.out; omega
              have HZ5 : Hid (w1.heap.size ≤ w5.heap.size) := H5.out.bel.size
              go_wp2_with (first
                | (go_at_call 23; refine Calls.mono (HNu.out _ _) ?_; rintro e w9 ⟨rfl, hw9⟩; have hw9 := hw9.symm; subst hw9)
                | (at_builtin; refine wpList_append_src rfl _ _ 52 52 rfl w1.heap.size 9 i0 (.string ⟨#[]⟩) 1 16 Try.underlying52 HIn.out.1 HIn.out.2.1 HIn.out.2.2.1 HIn.out.2.2.2 rfl (.slice ma M.length mc) (.slice (some ⟨w5.heap.size, 0, none⟩) 1 1) M.length (M.map cS) 1 [cS s] rfl rfl HRow.out HSrc.out (by unfold maxLen; omega) (by omega) (by simp; have := HZ5.out; omega) ?_; intro v3 w3 hown3 hgr3 hsn3; have H6 : Hid (TJ w1 w3 d a b L (M ++ [s]) (.slice la L.length lc) v3 L (M ++ [s])) := H5.out.appB hown3 hgr3 hsn3; clear hown3 hgr3 hsn3)
                | (go_at_call 38; refine stop10 ?_))
              unfold Hold10
              refine Calls.mono H6.out.textsA ?_
              rintro e w7 ⟨v7, rfl, hr7, h7⟩
              have H7 : Hid (TJ w1 w7 d a b L (M ++ [s]) (.slice la L.length lc) v3 L (M ++ [s]) ∧ Or 9 cS w7 w3.heap.size v7 L) := ⟨h7, hr7⟩
              clear hr7 h7 H6 HSrc HRow H5
              have HE7 : Hid (Calls Try.prog 41 #[v7, .slice la L.length lc] w7 fun e w' => e = .returned (.bool true) ∧ TJ w1 w' d a b L (M ++ [s]) (.slice la L.length lc) v3 L (M ++ [s])) := H7.out.1.eqA H7.out.2 HSz.out.1
              go_wp2_with (go_at_call 41; refine stop10 ?_)
              unfold Hold10
              refine Calls.mono HE7.out ?_
              rintro e w8 ⟨rfl, h8⟩
              have H8 : Hid (TJ w1 w8 d a b L (M ++ [s]) (.slice la L.length lc) v3 L (M ++ [s])) := h8
              clear h8 HE7
              go_wp2_with (go_at_call 38; refine stop10 ?_)
              unfold Hold10
              refine Calls.mono H8.out.textsB ?_
              rintro e w10 ⟨v10, rfl, hr10, h10⟩
              have H10 : Hid (TJ w1 w10 d a b L (M ++ [s]) (.slice la L.length lc) v3 L (M ++ [s]) ∧ Or 9 cS w10 w8.heap.size v10 (M ++ [s])) := ⟨h10, hr10⟩
              clear hr10 h10
              have HE10 : Hid (Calls Try.prog 41 #[v10, v3] w10 fun e w' => e = .returned (.bool true) ∧ TJ w1 w' d a b L (M ++ [s]) (.slice la L.length lc) v3 L (M ++ [s])) := H10.out.1.eqB H10.out.2 HSz.out.2.1
              go_wp2_with (go_at_call 41; refine stop10 ?_)
              unfold Hold10
              refine Calls.mono HE10.out ?_
              rintro e w11 ⟨rfl, h11⟩
              have H11 : Hid (TJ w1 w11 d a b L (M ++ [s]) (.slice la L.length lc) v3 L (M ++ [s])) := h11
              clear h11 HE10
              go_wp2_with fail
              go_roundw
              case rel => exact ⟨k + 1, by omega, by go_num, L, M ++ [s], H11.out, HSz.out.1, HSz.out.2.1, HSz.out.2.2⟩
              case measure => simp [intOf]; omega
          · have hss' : (100 : Int) < (s.size : Int) := by omega
            go_wp2_with fail
            go_roundw
            case rel => exact ⟨k + 1, by omega, by go_num, L, M, HT.out, HS.out.1, HS.out.2.1, by have := HS.out; omega, by have := HS.out; omega⟩
            case measure => simp [intOf]; omega
        · have hlt2' : ¬ (k : Int) < 12 := by omega
          go_wp2_with (go_at_call 33; refine Calls.mono (HWk.out _) ?_; rintro e w9 ⟨rfl, hb9⟩)
          go_ret
          have hbr := HBr.out
          exact ⟨rfl, HB0.out.trans ((hbr.trans (hb9.mono hbr.size)).mono HB0.out.size)⟩
      · have hlt' : ¬ (k : Int) < (len : Int) := by omega
        go_wp2_with (go_at_call 33; refine Calls.mono (HWk.out _) ?_; rintro e w9 ⟨rfl, hb9⟩)
        go_ret
        have hbr := HBr.out
        exact ⟨rfl, HB0.out.trans ((hbr.trans (hb9.mono hbr.size)).mono HB0.out.size)⟩
end Go.Proofs.Ytjbhegakgdcldaa

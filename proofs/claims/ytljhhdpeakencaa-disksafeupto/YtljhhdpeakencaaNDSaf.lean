import Derived.Test.YtljhhdpeakencaaSaf9
import Derived.Test.YtljhhdpeakencaaJ10
import Derived.Test.YtljhhdpeakencaaJ7
import Derived.Test.YtljhhdpeakencaaNDExa
import Derived.Deep.CutBlock
set_option linter.unusedSimpArgs false
set_option linter.unusedVariables false
namespace Go.Proofs.Ytljhhdpeakencaa
open Go.RowKit

/-! tarnlaw9.DiskSafe, walked. -/
theorem d1SyncN {w W : World} {d : Nat} {O : Nat → Nat} {D : Ds} (h : D1 w W d O D) {q : Nat} (hf : Few D q) (hq : q ≤ 1000) (hs : SfI D) (f : Nat) (h8 : f < 8) :
    Calls Try.prog 38 #[.pointer (some ⟨d, 0, none⟩), .int .i64 (f : Int)] W fun e w' => e = .returned (.int .i64 0) ∧ ∃ O' D', D1 w w' d O' D' ∧ Fp O W O' w' ∧ SfI D' ∧ Few D' q := by
  have h9 := d1Sync h hf hq (f : Int)
  rw [(hs.cnt f h8).1] at h9
  exact h9.mono fun e w' ⟨q1, O', q2, q3⟩ => ⟨q1, O', _, q2, q3, hs.sy f h8, hf.psyD _⟩
theorem d1WriteN {w W : World} {d : Nat} {O : Nat → Nat} {D : Ds} (h : D1 w W d O D) {q : Nat} (hf : Few D q) (hq : q ≤ 1000) (hs : SfI D) (f a : Nat) (h8 : f < 8) (ha : a ≤ (D.now f).length) (h2 : f = 2 → a = (D.now 2).length) (ad : Option Addr) (bs : List UInt8) (n bc : Nat) (hn : n = bs.length) (hb : Rb W (.slice ad n bc) bs) (hO : bs.length ≠ 0 → ∀ b n, ad = some ⟨b, n, none⟩ → O b = 0) :
    Calls Try.prog 50 #[.pointer (some ⟨d, 0, none⟩), .int .i64 (f : Int), .int .i64 (a : Int), .slice ad n bc] W fun e w' => ∃ ev : Int, e = .returned (.int .i64 ev) ∧ (ev = 0 ∨ ev = 5) ∧ ∃ O' D', D1 w w' d O' D' ∧ Fp O W O' w' ∧ SfI D' ∧ Few D' (q + 1) := by
  subst hn
  obtain ⟨he, hi⟩ := hs.wr f a bs h8 ha h2
  exact (d1WriteS h hf hq (f : Int) (a : Int) ad bs bc hb hO).mono fun e w' ⟨q1, O', q2, q3⟩ => ⟨_, q1, he, O', _, q2, q3, hi, hf.wrD _ _ _⟩
def stB (l : List UInt8) : ByteArray := ⟨l.toArray⟩
theorem sf_sync {w W : World} {d Y : Nat} {O : Nat → Nat} (h : D1 w W d O sf1) (hY : O Y = 0) (hr : Rb W (.slice (some ⟨Y, 0, none⟩) 20 20) sf9) : Calls Try.prog 38 #[.pointer (some ⟨d, 0, none⟩), .int .i64 2] W fun e w' => e = .returned (.int .i64 0) ∧ ∃ O', D1 w w' d O' sf2 ∧ O' Y = 0 ∧ Rb w' (.slice (some ⟨Y, 0, none⟩) 20 20) sf9 := by
  have h9 := d1Sync h sf1_few (by omega) 2
  rw [sf_s] at h9
  exact h9.mono fun e w' ⟨q1, O', q2, q3⟩ => ⟨q1, O', q2, q3.old Y (rb_old hr (by decide) Y 0 rfl) hY, rb_fp9 hr q3 (fun _ b n e => by simp at e; rw [← e.1]; exact hY)⟩
theorem sf_size {w W : World} {d : Nat} {O : Nat → Nat} {D : Ds} (h : D1 w W d O D) (hs : SfI D) (f : Nat) (h8 : f < 8) : Calls Try.prog 30 #[.pointer (some ⟨d, 0, none⟩), .int .i64 (f : Int)] W fun e w' => e = .returned (.tuple #[.int .i64 ((D.now f).length : Int), .int .i64 0]) ∧ w' = W := by
  have h9 := d1Size h (f : Int)
  have e0 : fndE D.off (f : Int) = 0 := by unfold fndE; rw [if_neg (by rw [hs.off]; simp), if_neg (by omega)]
  have e1 : sizeV D (f : Int) = ((D.now f).length : Int) := by unfold sizeV; rw [if_pos e0]; rfl
  rw [e0, e1] at h9
  exact h9
/-- Under way in a round: the disk, the bytes that are safe, the act at hand. -/
structure SfW (w W : World) (d : Nat) (O : Nat → Nat) (D : Ds) (q Y X : Nat) (vs : Array Value) : Prop where
  d1 : D1 w W d O D
  sf : SfI D
  few : Few D q
  oy : O Y = 0
  ry : Rb W (.slice (some ⟨Y, 0, none⟩) 20 20) sf9
  bx : Bk W X vs 40
  ox : O X = 0
theorem SfW.step {w W W' : World} {d : Nat} {O O' : Nat → Nat} {D D' : Ds} {q q' Y X : Nat} {vs : Array Value} (h : SfW w W d O D q Y X vs) (h1 : D1 w W' d O' D') (hf : Fp O W O' W') (hs : SfI D') (hw : Few D' q') : SfW w W' d O' D' q' Y X vs :=
  ⟨h1, hs, hw, hf.old Y (rb_old h.ry (by decide) Y 0 rfl) h.oy, rb_fp9 h.ry hf (fun _ b n e => by simp at e; rw [← e.1]; exact h.oy), hf.bk h.bx h.ox, hf.old X h.bx.lt h.ox⟩
set_option maxRecDepth 100000 in
set_option maxHeartbeats 16000000 in
theorem diskSafe_walk (w : World) (fv lv : Value) (ls : List (List UInt8)) (xs : List Ac) (hF : Rl w fv ls) (hL : La w lv xs) (hn : ls.length ≤ 1048576) (hs : ∀ l ∈ ls, l.length ≤ 1048576) :
    Calls Try.prog 5 #[.agg #[fv, lv]] w fun e w' => e = .returned (.bool true) ∧ Below w.heap.size w w' := by
  have HF : Hid (Rl w fv ls) := hF
  have HL : Hid (La w lv xs) := hL
  have HS : Hid (ls.length ≤ 1048576 ∧ ∀ l ∈ ls, l.length ≤ 1048576) := ⟨hn, hs⟩
  have hnum : ∀ (n : Int) W, Calls Try.prog 26 #[.int .i64 n] W fun e w' => e = .returned (.int .i64 n) ∧ w' = W := fun n W => lnum n W
  have HNum : Hid _ := hnum
  obtain ⟨fa, fc, rfl, hF9⟩ := hF
  obtain ⟨la, lc, rfl, hlc, hlm, hat⟩ := hL
  clear hnum hF9 hat hs
  obtain ⟨m, hm⟩ : ∃ m, m = xs.length := ⟨_, rfl⟩
  have Hm : Hid (m = xs.length) := hm
  rw [← hm] at hlc hlm HL ⊢
  obtain ⟨fl, hfl⟩ : ∃ fl, fl = ls.length := ⟨_, rfl⟩
  rw [← hfl] at HF hn ⊢
  clear hm hfl
  go_enter Try.func5, Try.ntmps5
  go_upto_region 1 with fail
  obtain ⟨W0, hW0⟩ : ∃ W0, W0 = w.alloc (.cells #[.slice fa fl fc, .slice la m lc] 25) := ⟨_, rfl⟩
  rw [← hW0]
  have hX : Bk W0 w.heap.size #[.slice fa fl fc, .slice la m lc] 25 := by rw [hW0]; exact Bk.new _ _ _
  have hB0 : Below w.heap.size w W0 := by rw [hW0]; exact (Below.refl _ _).alloc (Nat.le_refl _) _
  have HB0 : Hid (Below w.heap.size w W0) := hB0
  clear hW0
  have x0 := hX.cell 0
  have x1 := hX.cell 1
  have xl := hX.lt
  simp only [List.getElem?_toArray, List.getElem?_cons_zero, List.getElem?_cons_succ] at x0 x1
  obtain ⟨X, hXx⟩ : ∃ X, X = w.heap.size := ⟨_, rfl⟩
  rw [← hXx] at x0 x1 xl ⊢
  replace HF : Hid (∀ W, Below W0.heap.size W0 W → Rl W (.slice fa fl fc) ls) := fun W hW => (HF.out.below hB0).below hW
  replace HL : Hid (∀ W, Below W0.heap.size W0 W → La W (.slice la m lc) xs) := fun W hW => (HL.out.below hB0).below hW
  clear hX hXx hB0
  have HHv : Hid (Calls Try.prog 22 #[.agg #[.slice fa fl fc, .slice la m lc]] W0 fun e w' => SomeB e ∧ Below W0.heap.size W0 w') := heavy9 W0 _ _ ls xs (HF.out _ (Below.refl _ _)) (HL.out _ (Below.refl _ _)) HS.out.1 HS.out.2
  go_wp2_with (go_at_call 22; refine stop9 ?_)
  unfold Hold9
  refine Calls.mono HHv.out ?_
  rintro e w1 ⟨⟨c, rfl⟩, hb1⟩
  replace x0 := (hb1.cell (p := ⟨X, 0, none⟩) xl).trans x0
  replace x1 := (hb1.cell (p := ⟨X, 1, none⟩) xl).trans x1
  have HB1 : Hid (Below W0.heap.size W0 w1) := hb1
  have xl1 : X < w1.heap.size := Nat.lt_of_lt_of_le xl hb1.size
  clear hb1 HHv
  cases c with
  | true =>
    go_wp2_with fail
    go_ret
    exact ⟨rfl, HB0.out.trans (HB1.out.mono HB0.out.size)⟩
  | false =>
    have HNew : Hid (Calls Try.prog 23 #[.slice none 0 0] w1 fun e w' => e = .returned (.tuple #[.pointer (some ⟨w1.heap.size, 0, none⟩), .int .i64 0]) ∧ Below w1.heap.size w1 w' ∧ ∃ O, D1 w1 w' w1.heap.size O (dsN [] 8)) := d1New w1 _ [] (Rl.nil9 w1) (.inl rfl) sml_nil
    have x1w : ∀ W, Below w1.heap.size w1 W → W.cell? ⟨X, 1, none⟩ = some (.slice la m lc) ∧ X < W.heap.size := fun W hW => ⟨(hW.cell (p := ⟨X, 1, none⟩) xl1).trans x1, Nat.lt_of_lt_of_le xl1 hW.size⟩
    have HX1 : Hid _ := x1w
    clear x0 x1 x1w xl xl1
    go_wp2_with (go_at_call 23; refine stop9 ?_)
    unfold Hold9
    refine Calls.mono HNew.out ?_
    rintro e w2 ⟨rfl, hb2, O, h2⟩
    have H2 : Hid (D1 w1 w2 w1.heap.size O (dsN [] 8)) := h2
    clear hb2 h2 HNew
    generalize hd : w1.heap.size = d at H2 ⊢
    have Hd : Hid (w1.heap.size = d) := hd
    clear hd
    have hk := kc9 w2 (bc sf9).toArray 20 20
    have hbc : (bc sf9).toArray = #[.int .u8 116, .int .u8 104, .int .u8 101, .int .u8 115, .int .u8 101, .int .u8 32, .int .u8 98, .int .u8 121, .int .u8 116, .int .u8 101, .int .u8 115, .int .u8 32, .int .u8 97, .int .u8 114, .int .u8 101, .int .u8 32, .int .u8 115, .int .u8 97, .int .u8 102, .int .u8 101] := rfl
    rw [hbc] at hk
    clear hbc
    go_upto_region 7 with (go_at_call 26; refine Calls.mono (HNum.out _ _) ?_; rintro e w9 ⟨rfl, e9⟩; have e9 := e9.symm; subst e9)
    obtain ⟨W, hW⟩ : ∃ W, W = w2.alloc (.cells #[.int .u8 116, .int .u8 104, .int .u8 101, .int .u8 115, .int .u8 101, .int .u8 32, .int .u8 98, .int .u8 121, .int .u8 116, .int .u8 101, .int .u8 115, .int .u8 32, .int .u8 97, .int .u8 114, .int .u8 101, .int .u8 32, .int .u8 115, .int .u8 97, .int .u8 102, .int .u8 101] 5 (20, 21)) := ⟨_, rfl⟩
    rw [← hW]
    have hrb : Rb W (.slice (some ⟨w2.heap.size, 0, none⟩) sf9.length 20) sf9 := by rw [hW]; exact rb_lit w2 sf9 (20, 21) (by decide)
    have hd2 : D1 w1 W d O (dsN [] 8) := by rw [hW]; exact H2.out.below ((Below.refl _ _).alloc (Nat.le_refl _) _)
    have ho2 : O w2.heap.size = 0 := H2.out.new (Nat.le_refl _)
    clear hW hk
    generalize w2.heap.size = Y at *
    have HW1 : Hid (Calls Try.prog 50 #[.pointer (some ⟨d, 0, none⟩), .int .i64 2, .int .i64 0, .slice (some ⟨Y, 0, none⟩) 20 20] W fun e w' => e = .returned (.int .i64 0) ∧ ∃ O', D1 w1 w' d O' sf1 ∧ O' Y = 0 ∧ Rb w' (.slice (some ⟨Y, 0, none⟩) 20 20) sf9) := by
      have h9 := d1Write hd2 (Few.new sml_nil 8 0) (by omega) 2 0 (some ⟨Y, 0, none⟩) sf9 20 hrb (fun b n e => by simp at e; rw [← e.1]; exact ho2)
      rw [sf_w] at h9
      exact h9.mono fun e w' ⟨q1, O', q2, q3⟩ => ⟨q1, O', q2, q3.old Y (rb_old hrb (by decide) Y 0 rfl) ho2, rb_fp9 hrb q3 (fun _ b n e => by simp at e; rw [← e.1]; exact ho2)⟩
    clear hrb hd2 ho2 H2
    go_wp2_with (first | (go_at_call 26; refine Calls.mono (HNum.out _ _) ?_; rintro e w9 ⟨rfl, e9⟩; have e9 := e9.symm; subst e9) | (go_at_call 50; refine Calls.mono HW1.out ?_; rintro e w3 ⟨rfl, O3, h3, ho3, hr3⟩; have H3 : Hid (D1 w1 w3 d O3 sf1 ∧ O3 Y = 0 ∧ Rb w3 (.slice (some ⟨Y, 0, none⟩) 20 20) sf9) := ⟨h3, ho3, hr3⟩; clear h3 ho3 hr3; have HS1 : Hid (Calls Try.prog 38 #[.pointer (some ⟨d, 0, none⟩), .int .i64 2] w3 fun e w' => e = .returned (.int .i64 0) ∧ ∃ O', D1 w1 w' d O' sf2 ∧ O' Y = 0 ∧ Rb w' (.slice (some ⟨Y, 0, none⟩) 20 20) sf9) := sf_sync H3.out.1 H3.out.2.1 H3.out.2.2) | (go_at_call 38; refine Calls.mono HS1.out ?_; rintro e w4 ⟨rfl, O4, h4, ho4, hr4⟩; have H4 : Hid (D1 w1 w4 d O4 sf2 ∧ O4 Y = 0 ∧ Rb w4 (.slice (some ⟨Y, 0, none⟩) 20 20) sf9) := ⟨h4, ho4, hr4⟩; clear h4 ho4 hr4))
    go_loopw [6] (fun i wr => ∃ (k : Nat) (O : Nat → Nat) (D : Ds), k ≤ m ∧ k ≤ 40 ∧ i = .int .i64 (k : Int) ∧ D1 w1 wr d O D ∧ SfI D ∧ Few D (k + 1) ∧ O Y = 0 ∧ Rb wr (.slice (some ⟨Y, 0, none⟩) 20 20) sf9) (fun i _ => m - (intOf i).toNat)
    case atStart => exact ⟨0, _, _, by omega, by omega, rfl, H4.out.1, sf2_inv, sf2_few, H4.out.2.1, H4.out.2.2⟩
    case round =>
      clear H4 HS1 H3 HW1
      obtain ⟨k, O, D, hk, hk40, rfl, hd1, hsf, hfew, hoY, hrY⟩ := hrel
      have HD : Hid (D1 w1 wr d O D ∧ SfI D ∧ Few D (k + 1) ∧ O Y = 0 ∧ Rb wr (.slice (some ⟨Y, 0, none⟩) 20 20) sf9) := ⟨hd1, hsf, hfew, hoY, hrY⟩
      obtain ⟨x1, xlr⟩ := HX1.out wr hd1.bel
      clear hd1 hsf hfew hoY hrY
      by_cases hlt : k < m
      · have hlt' : (k : Int) < (m : Int) := by omega
        by_cases h40 : k < 40
        · have h40' : (k : Int) < 40 := by omega
          have hix : k < xs.length := by have := Hm.out; omega
          obtain ⟨b, off, bv, pv, e3, hr, hbv, hpv, hw⟩ := la_at (HL.out w1 HB1.out) k hix
          subst e3
          have HBv : Hid (Rb w1 bv (xs[k]'hix).bs) := hbv
          have HW : Hid (Acw (xs[k]'hix)) := hw
          generalize xs[k]'hix = a at *
          have hr2 : ∀ j x, (acc a bv pv).toList[j]? = some x → wr.cell? ⟨b, off + k * 6 + j, none⟩ = some x := fun j x hx => (HD.out.1.bel.cell (World.block_lt_of_cell? w1 _ (hr j x hx))).trans (hr j x hx)
          have k0 := hr2 0 _ rfl
          have k1 := hr2 1 _ rfl
          have k2 := hr2 2 _ rfl
          have k3 := hr2 3 _ rfl
          have k4 := hr2 4 _ rfl
          have k5 := hr2 5 _ rfl
          rw [Nat.add_zero] at k0
          obtain ⟨ba, bc9, ebv, hb9⟩ := hbv
          subst ebv
          obtain ⟨pa, pc, epv, hp9⟩ := hpv
          subst epv
          clear hr hr2 hb9 hp9 hw
          obtain ⟨bl, hbl⟩ : ∃ bl, bl = a.bs.length := ⟨_, rfl⟩
          have Hbl : Hid (bl = a.bs.length) := hbl
          rw [← hbl] at HBv k4
          clear hbl
          generalize a.ps.length = pl at *
          go_upto_region 13 with fail
          obtain ⟨W, hW⟩ : ∃ W, W = wr.alloc (.cells (acc a (.slice ba bl bc9) (.slice pa pl pc)) 40) := ⟨_, rfl⟩
          rw [← hW]
          have hbx : Bk W wr.heap.size (acc a (.slice ba bl bc9) (.slice pa pl pc)) 40 := by rw [hW]; exact Bk.new _ _ _
          have hbW : Below wr.heap.size wr W := by rw [hW]; exact (Below.refl _ _).alloc (Nat.le_refl _) _
          have hox : O wr.heap.size = 0 := HD.out.1.new (Nat.le_refl _)
          have HD5 : Hid (SfW w1 W d O D (k + 1) Y wr.heap.size (acc a (.slice ba bl bc9) (.slice pa pl pc))) := ⟨HD.out.1.below hbW, HD.out.2.1, HD.out.2.2.1, HD.out.2.2.2.1, HD.out.2.2.2.2.below hbW, hbx, hox⟩
          have x0 := hbx.cell 0
          have x1 := hbx.cell 1
          have x2 := hbx.cell 2
          have x4 := hbx.cell 4
          have xl9 := hbx.lt
          simp only [List.getElem?_toArray, List.getElem?_cons_zero, List.getElem?_cons_succ] at x0 x1 x2 x4
          clear hW hbx hbW hox k0 k1 k2 k3 k4 k5 xlr HD
          generalize wr.heap.size = X9 at *
          have HWi := within9 a.n 8 (by omega) (by omega) W
          have HWi : Hid _ := HWi
          go_wp2_with (go_at_call 29; refine stop9 ?_)
          unfold Hold9
          refine Calls.mono HWi.out ?_
          rintro e w9 ⟨⟨f, hf8, rfl⟩, e9⟩
          have e9 := e9.symm
          subst e9
          have HSz : Hid (Calls Try.prog 30 #[.pointer (some ⟨d, 0, none⟩), .int .i64 (f : Int)] W fun e w' => e = .returned (.tuple #[.int .i64 ((D.now f).length : Int), .int .i64 0]) ∧ w' = W) := sf_size HD5.out.d1 HD5.out.sf f hf8
          have hnl : (D.now f).length ≤ 131072 := HD5.out.few.inv.len f hf8
          obtain ⟨nl, hnl9⟩ : ∃ nl, nl = (D.now f).length := ⟨_, rfl⟩
          have Hnl : Hid (nl = (D.now f).length) := hnl9
          rw [← hnl9] at HSz hnl
          clear hnl9 HWi
          go_wp2_with (go_at_call 30; refine Calls.mono HSz.out ?_; rintro e w9 ⟨rfl, e9⟩; have e9 := e9.symm; subst e9; refine stop9 ?_)
          unfold Hold9
          go_upto_if 73 with (go_at_call 26; refine Calls.mono (HNum.out _ _) ?_; rintro e w9 ⟨rfl, e9⟩; have e9 := e9.symm; subst e9)
          go_cut [11] (fun cc wx => ∃ at_ : Nat, cc = .int .i64 (at_ : Int) ∧ wx = W ∧ at_ ≤ nl ∧ (f = 2 → at_ = nl))
          case first =>
            by_cases hf2 : f = 2
            · subst hf2
              go_wp2_with fail
              go_meet
              exact ⟨nl, rfl, rfl, Nat.le_refl _, fun _ => rfl⟩
            · have hf2' : ((f : Int) == 2) = false := by rw [beq_eq_false_iff_ne]; omega
              have hf3 : ¬ (f : Int) = 2 := by omega
              have HW2 : Hid (Calls Try.prog 29 #[.int .i64 a.pos, .int .i64 ((nl + 1 : Nat) : Int)] W fun e w' => (∃ k : Nat, k < nl + 1 ∧ e = .returned (.int .i64 (k : Int))) ∧ w' = W) := within9 a.pos (nl + 1) (by omega) (by omega) W
              go_wp2_with (go_at_call 29; refine stop9 ?_)
              unfold Hold9
              refine Calls.mono HW2.out ?_
              rintro e w9 ⟨⟨k2, hk2, rfl⟩, e9⟩
              have e9 := e9.symm
              subst e9
              go_wp2_with fail
              go_meet
              exact ⟨k2, rfl, rfl, by omega, fun h => absurd h hf2⟩
          case rest =>
            obtain ⟨at_, hc, hw, hat, hat2⟩ := hcut
            replace hw := hw.symm
            subst hw
            subst hc
            have HWr : Hid (Calls Try.prog 50 #[.pointer (some ⟨d, 0, none⟩), .int .i64 (f : Int), .int .i64 (at_ : Int), .slice ba bl bc9] W fun e w' => ∃ ev : Int, e = .returned (.int .i64 ev) ∧ (ev = 0 ∨ ev = 5) ∧ ∃ O' D', D1 w1 w' d O' D' ∧ Fp O W O' w' ∧ SfI D' ∧ Few D' (k + 1 + 1)) := d1WriteN HD5.out.d1 HD5.out.few (by omega) HD5.out.sf f at_ hf8 (by rw [← Hnl.out]; exact hat) (fun h => by subst h; rw [hat2 rfl]; exact Hnl.out) ba a.bs bl bc9 Hbl.out (HBv.out.below HD5.out.d1.bel) (fun hn b n e => HD5.out.d1.old (rb_old HBv.out hn b n e))
            clear hat hat2 HSz
            go_wp2_with (go_at_call 50; refine stop9 ?_)
            unfold Hold9
            refine Calls.mono HWr.out ?_
            rintro e w5 ⟨ev, rfl, hev, O5, D5, h5, hf5, hs5, hw5⟩
            have hS5 := HD5.out.step h5 hf5 hs5 hw5
            have HS5 : Hid (SfW w1 w5 d O5 D5 (k + 1 + 1) Y X9 (acc a (.slice ba bl bc9) (.slice pa pl pc))) := hS5
            have y0 := hS5.bx.cell 0
            have yl := hS5.bx.lt
            simp only [List.getElem?_toArray, List.getElem?_cons_zero, List.getElem?_cons_succ] at y0
            have hsy : (f + 1) % 8 < 8 := Nat.mod_lt _ (by omega)
            have HSy : Hid (Calls Try.prog 38 #[.pointer (some ⟨d, 0, none⟩), .int .i64 (((f + 1) % 8 : Nat) : Int)] w5 fun e w' => e = .returned (.int .i64 0) ∧ ∃ O' D', D1 w1 w' d O' D' ∧ Fp O5 w5 O' w' ∧ SfI D' ∧ Few D' (k + 1 + 1)) := d1SyncN hS5.d1 hS5.few (by omega) hS5.sf _ hsy
            clear h5 hf5 hs5 hw5 hS5 HWr HD5 x0 x1 x2 x4 xl9 hsy
            have ht8 : Int.tmod ((f : Int) + 1) 8 = (((f + 1) % 8 : Nat) : Int) := by rw [Int.tmod_eq_emod_of_nonneg (by omega)]; omega
            have he8 : ((f : Int) + 1) % 8 = (((f + 1) % 8 : Nat) : Int) := by omega
            generalize (f + 1) % 8 = f8 at *
            by_cases h3 : Int.tmod a.op 3 = 0
            · have h3' : (Int.tmod a.op 3 == 0) = true := by rw [beq_iff_eq]; exact h3
              rcases hev with rfl | rfl
              · go_wp2_with (first | (go_at_call 26; refine Calls.mono (HNum.out _ _) ?_; rintro e w9 ⟨rfl, e9⟩; have e9 := e9.symm; subst e9) | (go_at_call 38; refine stop9 ?_))
                unfold Hold9
                refine Calls.mono HSy.out ?_
                rintro e w6 ⟨rfl, O6, D6, h6, hf6, hs6, hw6⟩
                have HS6 : Hid (SfW w1 w6 d O6 D6 (k + 1 + 1) Y X9 (acc a (.slice ba bl bc9) (.slice pa pl pc))) := HS5.out.step h6 hf6 hs6 hw6
                clear h6 hf6 hs6 hw6 HSy y0 yl
                go_wp2_with (go_at_call 26; refine Calls.mono (HNum.out _ _) ?_; rintro e w9 ⟨rfl, e9⟩; have e9 := e9.symm; subst e9)
                go_roundw
                case rel => exact ⟨k + 1, O6, D6, by omega, by omega, by go_num, HS6.out.d1, HS6.out.sf, HS6.out.few, HS6.out.oy, HS6.out.ry⟩
                case measure => simp [intOf]; omega
              · go_wp2_with (first | (go_at_call 26; refine Calls.mono (HNum.out _ _) ?_; rintro e w9 ⟨rfl, e9⟩; have e9 := e9.symm; subst e9) | (go_at_call 38; refine stop9 ?_))
                unfold Hold9
                refine Calls.mono HSy.out ?_
                rintro e w6 ⟨rfl, O6, D6, h6, hf6, hs6, hw6⟩
                have HS6 : Hid (SfW w1 w6 d O6 D6 (k + 1 + 1) Y X9 (acc a (.slice ba bl bc9) (.slice pa pl pc))) := HS5.out.step h6 hf6 hs6 hw6
                clear h6 hf6 hs6 hw6 HSy y0 yl
                go_wp2_with (go_at_call 26; refine Calls.mono (HNum.out _ _) ?_; rintro e w9 ⟨rfl, e9⟩; have e9 := e9.symm; subst e9)
                go_roundw
                case rel => exact ⟨k + 1, O6, D6, by omega, by omega, by go_num, HS6.out.d1, HS6.out.sf, HS6.out.few, HS6.out.oy, HS6.out.ry⟩
                case measure => simp [intOf]; omega
            · have h3' : (Int.tmod a.op 3 == 0) = false := by rw [beq_eq_false_iff_ne]; exact h3
              rcases hev with rfl | rfl
              · go_wp2_with (go_at_call 26; refine Calls.mono (HNum.out _ _) ?_; rintro e w9 ⟨rfl, e9⟩; have e9 := e9.symm; subst e9)
                go_roundw
                case rel => exact ⟨k + 1, O5, D5, by omega, by omega, by go_num, HS5.out.d1, HS5.out.sf, HS5.out.few, HS5.out.oy, HS5.out.ry⟩
                case measure => simp [intOf]; omega
              · go_wp2_with (go_at_call 26; refine Calls.mono (HNum.out _ _) ?_; rintro e w9 ⟨rfl, e9⟩; have e9 := e9.symm; subst e9)
                go_roundw
                case rel => exact ⟨k + 1, O5, D5, by omega, by omega, by go_num, HS5.out.d1, HS5.out.sf, HS5.out.few, HS5.out.oy, HS5.out.ry⟩
                case measure => simp [intOf]; omega
        · have h40' : ¬ (k : Int) < 40 := by omega
          have hm0 : 0 < m := by omega
          have hm1 : 0 < (m : Int) := by omega
          have hix : 0 < xs.length := by have := Hm.out; omega
          obtain ⟨b, off, bv, pv, e3, hr, hbv, hpv, hw⟩ := la_at (HL.out w1 HB1.out) 0 hix
          subst e3
          have k5 := (HD.out.1.bel.cell (World.block_lt_of_cell? w1 _ (hr 5 _ rfl))).trans (hr 5 _ rfl)
          have HPv : Hid (Rp w1 pv (xs[0]'hix).ps) := hpv
          obtain ⟨pa, pc, epv, hp9⟩ := hpv
          subst epv
          clear hr hbv hp9 hw
          generalize (xs[0]'hix).ps = ps at *
          rw [Nat.zero_mul, Nat.add_zero] at k5
          have HCr : Hid (Calls Try.prog 44 #[.pointer (some ⟨d, 0, none⟩), .slice pa ps.length pc] wr fun e w' => ∃ T rb, e = .returned (.slice (some ⟨rb, 0, none⟩) 8 8) ∧ Rows8 wr w' T rb (crash D ps) ∧ D1 w1 w' d O { D with off := true } ∧ Fp O wr O w') := d1Crash HD.out.1 HD.out.2.2.1 (by omega) _ ps (HPv.out.below HD.out.1.bel) (fun hn b n c e => HD.out.1.old (rp_old HPv.out hn b n c e))
          generalize ps.length = pn at *
          clear HX1
          go_wp2_with (go_at_call 44; refine stop9 ?_)
          unfold Hold9
          refine Calls.mono HCr.out ?_
          rintro e w7 ⟨T, rb, rfl, ⟨⟨pb, rv, pv7, hrw⟩, hT⟩, hd7, hf7⟩
          have hrY := rb_fp9 HD.out.2.2.2.2 hf7 (fun _ b n e => by simp at e; rw [← e.1]; exact HD.out.2.2.2.1)
          have hpre := HD.out.2.1.crash ps
          have ho2 := hrw.ow 2 (by omega)
          obtain ⟨xn, hxn⟩ : ∃ xn, xn = (crash D ps 2).length := ⟨_, rfl⟩
          obtain ⟨xa, xc, ev2, hcap⟩ := ho2.shape
          rw [ev2] at ho2
          have hx20 := hpre.len
          obtain ⟨xg, exa, _, _⟩ := ho2.pos9 (by omega)
          subst exa
          rw [← hxn] at ev2 ho2 hcap hx20
          have hx20i : (20 : Int) ≤ (xn : Int) := by omega
          have hx20d : decide ((20 : Int) ≤ (xn : Int)) = true := decide_eq_true hx20i
          have hxc20 : (20 : Int) ≤ (xc : Int) := by omega
          have hS7 : ∀ W', Below w7.heap.size w7 W' → W'.cell? ⟨rb, 2, none⟩ = some (.slice (some ⟨xg, 0, none⟩) xn xc) ∧ (convert 37 9 (.slice (some ⟨xg, 0, none⟩) 20 xc)).run Try.prog W' = .ok (.string (stB sf9)) W' ∧ (convert 37 9 (.slice (some ⟨Y, 0, none⟩) 20 20)).run Try.prog W' = .ok (.string (stB sf9)) W' := fun W' hW => by
            refine ⟨?_, ?_, ?_⟩
            · rw [← ev2]; exact ((hrw.below hW).blk.cell 2).trans (r8_at rv (by omega))
            · have h9 := ((ho2.below hW ho2.lt).cut 20 (by omega)).string
              rw [hpre] at h9
              exact h9
            · exact rb_string (hrY.below hW) (by decide)
          have hSz : ∀ W', Below w7.heap.size w7 W' → Calls Try.prog 30 #[.pointer (some ⟨d, 0, none⟩), .int .i64 2] W' fun e w' => e = .returned (.tuple #[.int .i64 0, .int .i64 13]) ∧ w' = W' := fun W' hW => d1Size (hd7.below hW) 2
          have HSw : Hid _ := hS7
          have HSz := hSz w7 (Below.refl _ _)
          have HSz : Hid _ := HSz
          have HB7 : Hid (Below W0.heap.size W0 w7) := HB1.out.trans (hd7.bel.mono HB1.out.size)
          clear hrw hT hd7 hf7 hrY hpre ho2 ev2 hxn hS7 hSz HD HCr
          generalize stB sf9 = sfs at *
          go_wp2_with (go_at_call 30; refine Calls.mono HSz.out ?_; rintro e w9 ⟨rfl, e9⟩; have e9 := e9.symm; subst e9; refine stop9 ?_)
          unfold Hold9
          go_upto_region 30 with fail
          refine wp_region_noPanic ?_
          refine wp_region_held_drew (S := fun W' => W'.cell? ⟨rb, 2, none⟩ = some (.slice (some ⟨xg, 0, none⟩) xn xc) ∧ (convert 37 9 (.slice (some ⟨xg, 0, none⟩) 20 xc)).run Try.prog W' = .ok (.string sfs) W' ∧ (convert 37 9 (.slice (some ⟨Y, 0, none⟩) 20 20)).run Try.prog W' = .ok (.string sfs) W') (by kernel_rfl) ?_ (fun hHeld => ?_)
          · ((try dsimp only); exact HSw.out _ (Below.refl _ _).drew)
          (try dsimp only at hHeld)
          refine wpAnyH_take (i := 0) (oi := ⟨some 122, _, _, _, _, _⟩) (v := ?_) rfl (by kernel_rfl) (by kernel_rfl) (by kernel_rfl) (fun _ _ _ h => h) (Or.inl ⟨by rfl, ?_⟩) (by assumption) ?_
          rotate_left
          · (intro w hSw; (try dsimp only at hSw); go_simp; try (with_reducible rfl))
          (try dsimp only); (try simp only [Act.put, List.setIfInBounds_toArray, List.set_cons_zero, List.set_cons_succ])
          refine wpAnyH_take (i := 1) (oi := ⟨some 123, _, _, _, _, _⟩) (v := ?_) rfl (by kernel_rfl) (by kernel_rfl) (by kernel_rfl) (fun _ _ _ h => h) (Or.inl ⟨by rfl, ?_⟩) (by assumption) ?_
          rotate_left
          · (intro w hSw; (try dsimp only at hSw); go_simp; try (with_reducible rfl))
          (try dsimp only); (try simp only [Act.put, List.setIfInBounds_toArray, List.set_cons_zero, List.set_cons_succ])
          refine wpAnyH_take (i := 2) (oi := ⟨some 124, _, _, _, _, _⟩) (v := ?_) rfl (by kernel_rfl) (by kernel_rfl) (by kernel_rfl) (fun _ _ _ h => h) (Or.inl ⟨by rfl, ?_⟩) (by assumption) ?_
          rotate_left
          · (intro w hSw; (try dsimp only at hSw); go_simp; try (with_reducible rfl))
          (try dsimp only); (try simp only [Act.put, List.setIfInBounds_toArray, List.set_cons_zero, List.set_cons_succ])
          refine wpAnyH_take (i := 3) (oi := ⟨some 125, _, _, _, _, _⟩) (v := ?_) rfl (by kernel_rfl) (by kernel_rfl) (by kernel_rfl) (fun _ _ _ h => h) (Or.inl ⟨by rfl, ?_⟩) (by assumption) ?_
          rotate_left
          · (intro w hSw; (try dsimp only at hSw); go_simp; try (with_reducible rfl))
          (try dsimp only); (try simp only [Act.put, List.setIfInBounds_toArray, List.set_cons_zero, List.set_cons_succ])
          refine wpAnyH_take (i := 4) (oi := ⟨some 126, _, _, _, _, _⟩) (v := ?_) rfl (by kernel_rfl) (by kernel_rfl) (by kernel_rfl) (fun _ _ _ h => h) (Or.inl ⟨by rfl, ?_⟩) (by assumption) ?_
          rotate_left
          · (intro w hSw; (try dsimp only at hSw); go_simp; try (with_reducible rfl))
          (try dsimp only); (try simp only [Act.put, List.setIfInBounds_toArray, List.set_cons_zero, List.set_cons_succ])
          refine wpAnyH_take (i := 5) (oi := ⟨some 127, _, _, _, _, _⟩) (v := ?_) rfl (by kernel_rfl) (by kernel_rfl) (by kernel_rfl) (fun _ _ _ h => h) (Or.inl ⟨by rfl, ?_⟩) (by assumption) ?_
          rotate_left
          · (intro w hSw; (try dsimp only at hSw); go_simp; try (with_reducible rfl))
          (try dsimp only); (try simp only [Act.put, List.setIfInBounds_toArray, List.set_cons_zero, List.set_cons_succ])
          refine wpAnyH_take (i := 6) (oi := ⟨some 128, _, _, _, _, _⟩) (v := ?_) rfl (by kernel_rfl) (by kernel_rfl) (by kernel_rfl) (fun _ _ _ h => h) (Or.inl ⟨by rfl, ?_⟩) (by assumption) ?_
          rotate_left
          · (intro w hSw; (try dsimp only at hSw); go_simp; try (with_reducible rfl))
          (try dsimp only); (try simp only [Act.put, List.setIfInBounds_toArray, List.set_cons_zero, List.set_cons_succ])
          refine wpAnyH_take (i := 7) (oi := ⟨some 129, _, _, _, _, _⟩) (v := ?_) rfl (by kernel_rfl) (by kernel_rfl) (by kernel_rfl) (fun _ _ _ h => h) (Or.inl ⟨by rfl, ?_⟩) (by assumption) ?_
          rotate_left
          · (intro w hSw; (try dsimp only at hSw); go_simp; try (with_reducible rfl))
          (try dsimp only); (try simp only [Act.put, List.setIfInBounds_toArray, List.set_cons_zero, List.set_cons_succ])
          refine wpAnyH_take (i := 8) (oi := ⟨some 130, _, _, _, _, _⟩) (v := ?_) rfl (by kernel_rfl) (by kernel_rfl) (by kernel_rfl) (fun _ _ _ h => h) (Or.inl ⟨by rfl, ?_⟩) (by assumption) ?_
          rotate_left
          · (intro w hSw; (try dsimp only at hSw); go_simp; try (with_reducible rfl))
          (try dsimp only); (try simp only [Act.put, List.setIfInBounds_toArray, List.set_cons_zero, List.set_cons_succ])
          refine wpAnyH_take (i := 9) (oi := ⟨some 131, _, _, _, _, _⟩) (v := ?_) rfl (by kernel_rfl) (by kernel_rfl) (by kernel_rfl) (fun _ _ _ h => h) (Or.inl ⟨by rfl, ?_⟩) (by assumption) ?_
          rotate_left
          · (intro w hSw; (try dsimp only at hSw); go_simp; try (with_reducible rfl))
          (try dsimp only); (try simp only [Act.put, List.setIfInBounds_toArray, List.set_cons_zero, List.set_cons_succ])
          refine wpAnyH_take (i := 10) (oi := ⟨some 132, _, _, _, _, _⟩) (v := ?_) rfl (by kernel_rfl) (by kernel_rfl) (by kernel_rfl) (fun _ _ _ h => h) (Or.inl ⟨by rfl, ?_⟩) (by assumption) ?_
          rotate_left
          · (intro w hSw; (try dsimp only at hSw); go_simp; try (with_reducible rfl))
          (try dsimp only); (try simp only [Act.put, List.setIfInBounds_toArray, List.set_cons_zero, List.set_cons_succ])
          refine wpAnyH_take (i := 11) (oi := ⟨some 133, _, _, _, _, _⟩) (v := ?_) rfl (by kernel_rfl) (by kernel_rfl) (by kernel_rfl) (fun _ _ _ h => h) (Or.inl ⟨by rfl, ?_⟩) (by assumption) ?_
          rotate_left
          · (intro w hSw; (try dsimp only at hSw); go_simp; try (with_reducible rfl))
          (try dsimp only); (try simp only [Act.put, List.setIfInBounds_toArray, List.set_cons_zero, List.set_cons_succ])
          refine wpAnyH_take (i := 12) (oi := ⟨some 134, _, _, _, _, _⟩) (v := ?_) rfl (by kernel_rfl) (by kernel_rfl) (by kernel_rfl) (fun _ _ _ h => h) (Or.inl ⟨by rfl, ?_⟩) (by assumption) ?_
          rotate_left
          · (intro w hSw; (try dsimp only at hSw); go_simp; try (with_reducible rfl))
          (try dsimp only); (try simp only [Act.put, List.setIfInBounds_toArray, List.set_cons_zero, List.set_cons_succ])
          refine wpAnyH_take (i := 13) (oi := ⟨some 135, _, _, _, _, _⟩) (v := ?_) rfl (by kernel_rfl) (by kernel_rfl) (by kernel_rfl) (fun _ _ _ h => h) (Or.inl ⟨by rfl, ?_⟩) (by assumption) ?_
          rotate_left
          · (intro w hSw; (try dsimp only at hSw); go_simp; try (with_reducible rfl))
          (try dsimp only); (try simp only [Act.put, List.setIfInBounds_toArray, List.set_cons_zero, List.set_cons_succ])
          refine wpAnyH_take (i := 14) (oi := ⟨some 136, _, _, _, _, _⟩) (v := ?_) rfl (by kernel_rfl) (by kernel_rfl) (by kernel_rfl) (fun _ _ _ h => h) (Or.inl ⟨by rfl, ?_⟩) (by assumption) ?_
          rotate_left
          · (intro w hSw; (try dsimp only at hSw); go_simp; try (with_reducible rfl))
          (try dsimp only); (try simp only [Act.put, List.setIfInBounds_toArray, List.set_cons_zero, List.set_cons_succ])
          refine wpAnyH_take (i := 15) (oi := ⟨some 137, _, _, _, _, _⟩) (v := ?_) rfl (by kernel_rfl) (by kernel_rfl) (by kernel_rfl) (fun _ _ _ h => h) (Or.inl ⟨by rfl, ?_⟩) (by assumption) ?_
          rotate_left
          · (intro w hSw; (try dsimp only at hSw); go_simp; try (with_reducible rfl))
          (try dsimp only); (try simp only [Act.put, List.setIfInBounds_toArray, List.set_cons_zero, List.set_cons_succ])
          refine wpAnyH_take (i := 16) (oi := ⟨some 138, _, _, _, _, _⟩) (v := ?_) rfl (by kernel_rfl) (by kernel_rfl) (by kernel_rfl) (fun _ _ _ h => h) (Or.inl ⟨by rfl, ?_⟩) (by assumption) ?_
          rotate_left
          · (intro w hSw; (try dsimp only at hSw); go_simp; try (with_reducible rfl))
          (try dsimp only); (try simp only [Act.put, List.setIfInBounds_toArray, List.set_cons_zero, List.set_cons_succ])
          refine wpAnyH_take (i := 17) (oi := ⟨some 139, _, _, _, _, _⟩) (v := ?_) rfl (by kernel_rfl) (by kernel_rfl) (by kernel_rfl) (fun _ _ _ h => h) (Or.inl ⟨by rfl, ?_⟩) (by assumption) ?_
          rotate_left
          · (intro w hSw; (try dsimp only at hSw); go_simp; try (with_reducible rfl))
          (try dsimp only); (try simp only [Act.put, List.setIfInBounds_toArray, List.set_cons_zero, List.set_cons_succ])
          refine wpAnyH_take (i := 18) (oi := ⟨some 140, _, _, _, _, _⟩) (v := ?_) rfl (by kernel_rfl) (by kernel_rfl) (by kernel_rfl) (fun _ _ _ h => h) (Or.inl ⟨by rfl, ?_⟩) (by assumption) ?_
          rotate_left
          · (intro w hSw; (try dsimp only at hSw); go_simp; try (with_reducible rfl))
          (try dsimp only); (try simp only [Act.put, List.setIfInBounds_toArray, List.set_cons_zero, List.set_cons_succ])
          refine wpAnyH_take (i := 19) (oi := ⟨some 141, _, _, _, _, _⟩) (v := ?_) rfl (by kernel_rfl) (by kernel_rfl) (by kernel_rfl) (fun _ _ _ h => h) (Or.inl ⟨by rfl, ?_⟩) (by assumption) ?_
          rotate_left
          · (intro w hSw; (try dsimp only at hSw); go_simp; try (with_reducible rfl))
          (try dsimp only); (try simp only [Act.put, List.setIfInBounds_toArray, List.set_cons_zero, List.set_cons_succ])
          refine wpAnyH_take (i := 20) (oi := ⟨some 142, _, _, _, _, _⟩) (v := ?_) rfl (by kernel_rfl) (by kernel_rfl) (by kernel_rfl) (fun _ _ _ h => h) (Or.inl ⟨by rfl, ?_⟩) (by assumption) ?_
          rotate_left
          · (intro w hSw; (try dsimp only at hSw); go_simp; try (with_reducible rfl))
          (try dsimp only); (try simp only [Act.put, List.setIfInBounds_toArray, List.set_cons_zero, List.set_cons_succ])
          refine wpAnyH_take (i := 21) (oi := ⟨some 143, _, _, _, _, _⟩) (v := ?_) rfl (by kernel_rfl) (by kernel_rfl) (by kernel_rfl) (fun _ _ _ h => h) (Or.inl ⟨by rfl, ?_⟩) (by assumption) ?_
          rotate_left
          · (intro w hSw; (try dsimp only at hSw); go_simp; try (with_reducible rfl))
          (try dsimp only); (try simp only [Act.put, List.setIfInBounds_toArray, List.set_cons_zero, List.set_cons_succ])
          refine wpAnyH_take (i := 22) (oi := ⟨some 144, _, _, _, _, _⟩) (v := ?_) rfl (by kernel_rfl) (by kernel_rfl) (by kernel_rfl) (fun _ _ _ h => h) (Or.inl ⟨by rfl, ?_⟩) (by assumption) ?_
          rotate_left
          · (intro w hSw; (try dsimp only at hSw); go_simp; try (with_reducible rfl))
          (try dsimp only); (try simp only [Act.put, List.setIfInBounds_toArray, List.set_cons_zero, List.set_cons_succ])
          refine wpAnyH_take (i := 23) (oi := ⟨some 145, _, _, _, _, _⟩) (v := ?_) rfl (by kernel_rfl) (by kernel_rfl) (by kernel_rfl) (fun _ _ _ h => h) (Or.inl ⟨by rfl, ?_⟩) (by assumption) ?_
          rotate_left
          · (intro w hSw; (try dsimp only at hSw); go_simp; try (with_reducible rfl))
          (try dsimp only); (try simp only [Act.put, List.setIfInBounds_toArray, List.set_cons_zero, List.set_cons_succ])
          refine wpAnyH_take (i := 24) (oi := ⟨some 146, _, _, _, _, _⟩) (v := ?_) rfl (by kernel_rfl) (by kernel_rfl) (by kernel_rfl) (fun _ _ _ h => h) (Or.inl ⟨by rfl, ?_⟩) (by assumption) ?_
          rotate_left
          · (intro w hSw; (try dsimp only at hSw); go_simp; try (with_reducible rfl))
          (try dsimp only); (try simp only [Act.put, List.setIfInBounds_toArray, List.set_cons_zero, List.set_cons_succ])
          refine wpAnyH_take (i := 25) (oi := ⟨some 147, _, _, _, _, _⟩) (v := ?_) rfl (by kernel_rfl) (by kernel_rfl) (by kernel_rfl) (fun _ _ _ h => h) (Or.inl ⟨by rfl, ?_⟩) (by assumption) ?_
          rotate_left
          · (intro w hSw; (try dsimp only at hSw); go_simp; try (with_reducible rfl))
          (try dsimp only); (try simp only [Act.put, List.setIfInBounds_toArray, List.set_cons_zero, List.set_cons_succ])
          refine wpAnyH_ready (rs := [26]) (by kernel_rfl) (by simp) ?_
          refine AllReadyH.cons (o := ⟨some 148, _, _, _, _, _⟩) rfl (fun K hK => ?_) AllReadyH.nil
          go_simp
          refine Calls.mono (HNum.out _ _) ?_
          rintro e w8 ⟨rfl, e8⟩
          have e8 := e8.symm
          subst e8
          refine hK.out _ _ hHeld (fun hHeld => ?_)
          clear hK K
          (try dsimp only); (try simp only [Act.put, List.setIfInBounds_toArray, List.set_cons_zero, List.set_cons_succ])
          refine wpAnyH_take (i := 27) (oi := ⟨some 149, _, _, _, _, _⟩) (v := ?_) rfl (by kernel_rfl) (by kernel_rfl) (by kernel_rfl) (fun _ _ _ h => h) (Or.inl ⟨by rfl, ?_⟩) (by assumption) ?_
          rotate_left
          · (intro w hSw; (try dsimp only at hSw); go_simp; try (with_reducible rfl))
          (try dsimp only); (try simp only [Act.put, List.setIfInBounds_toArray, List.set_cons_zero, List.set_cons_succ])
          refine wpAnyH_take (i := 28) (oi := ⟨some 150, _, _, _, _, _⟩) (v := ?_) rfl (by kernel_rfl) (by kernel_rfl) (by kernel_rfl) (fun _ _ _ h => h) (Or.inl ⟨by rfl, ?_⟩) (by assumption) ?_
          rotate_left
          · (intro w hSw; (try dsimp only at hSw); go_simp; try (with_reducible rfl))
          (try dsimp only); (try simp only [Act.put, List.setIfInBounds_toArray, List.set_cons_zero, List.set_cons_succ])
          refine wpAnyH_take (i := 29) (oi := ⟨some 151, _, _, _, _, _⟩) (v := ?_) rfl (by kernel_rfl) (by kernel_rfl) (by kernel_rfl) (fun _ _ _ h => h) (Or.inl ⟨by rfl, ?_⟩) (by assumption) ?_
          rotate_left
          · (intro w hSw; (try dsimp only at hSw); go_simp; try (with_reducible rfl))
          (try dsimp only); (try simp only [Act.put, List.setIfInBounds_toArray, List.set_cons_zero, List.set_cons_succ])
          refine wpAnyH_ready (rs := [30]) (by kernel_rfl) (by simp) ?_
          refine AllReadyH.cons (o := ⟨some 152, _, _, _, _, _⟩) rfl (fun K hK => ?_) AllReadyH.nil
          go_simp
          refine (wakes9 _).mono ?_
          rintro e w9 ⟨rfl, hb9⟩
          have HB9 : Hid (Below w7.heap.size w7 w9) := (Below.refl w7.heap.size w7).drew.trans hb9
          refine hK.out _ _ (HSw.out _ HB9.out) (fun hHeld => ?_)
          clear hK K hb9
          (try dsimp only); (try simp only [Act.put, List.setIfInBounds_toArray, List.set_cons_zero, List.set_cons_succ])
          refine wpAnyH_take (i := 31) (oi := ⟨some 153, _, _, _, _, _⟩) (v := ?_) rfl (by kernel_rfl) (by kernel_rfl) (by kernel_rfl) (fun _ _ _ h => h) (Or.inl ⟨by rfl, ?_⟩) (by assumption) ?_
          rotate_left
          · (intro w hSw; (try dsimp only at hSw); go_simp; try (with_reducible rfl))
          (try dsimp only); (try simp only [Act.put, List.setIfInBounds_toArray, List.set_cons_zero, List.set_cons_succ])
          refine wpAnyH_take (i := 32) (oi := ⟨some 2, _, _, _, _, _⟩) (v := ?_) rfl (by kernel_rfl) (by kernel_rfl) (by kernel_rfl) (fun _ _ _ h => h) (Or.inl ⟨by rfl, ?_⟩) (by assumption) ?_
          rotate_left
          · (intro w hSw; (try dsimp only at hSw); go_simp; try (with_reducible rfl))
          (try dsimp only); (try simp only [Act.put, List.setIfInBounds_toArray, List.set_cons_zero, List.set_cons_succ])
          refine wpAnyH_done (by kernel_rfl) ?_ _
          refine NoPanic.normal ?_
          clear hHeld
          go_wp2_with fail
          go_ret
          exact ⟨rfl, HB0.out.trans ((HB7.out.trans (HB9.out.mono HB7.out.size)).mono HB0.out.size)⟩
      · have hlt' : ¬ (k : Int) < (m : Int) := by omega
        rcases (show m = 0 ∨ 0 < m by omega) with hm0 | hm0
        · subst hm0
          have hm1 : ¬ 0 < ((0 : Nat) : Int) := by omega
          have HCr : Hid (Calls Try.prog 44 #[.pointer (some ⟨d, 0, none⟩), .slice none 0 0] wr fun e w' => ∃ T rb, e = .returned (.slice (some ⟨rb, 0, none⟩) 8 8) ∧ Rows8 wr w' T rb (crash D []) ∧ D1 w1 w' d O { D with off := true } ∧ Fp O wr O w') := d1Crash HD.out.1 HD.out.2.2.1 (by omega) _ [] (Rp.nil9 _) (fun h => absurd rfl h)
          clear HX1
          go_wp2_with (go_at_call 44; refine stop9 ?_)
          unfold Hold9
          refine Calls.mono HCr.out ?_
          rintro e w7 ⟨T, rb, rfl, ⟨⟨pb, rv, pv7, hrw⟩, hT⟩, hd7, hf7⟩
          have hrY := rb_fp9 HD.out.2.2.2.2 hf7 (fun _ b n e => by simp at e; rw [← e.1]; exact HD.out.2.2.2.1)
          have hpre := HD.out.2.1.crash []
          have ho2 := hrw.ow 2 (by omega)
          obtain ⟨xn, hxn⟩ : ∃ xn, xn = (crash D [] 2).length := ⟨_, rfl⟩
          obtain ⟨xa, xc, ev2, hcap⟩ := ho2.shape
          rw [ev2] at ho2
          have hx20 := hpre.len
          obtain ⟨xg, exa, _, _⟩ := ho2.pos9 (by omega)
          subst exa
          rw [← hxn] at ev2 ho2 hcap hx20
          have hx20i : (20 : Int) ≤ (xn : Int) := by omega
          have hx20d : decide ((20 : Int) ≤ (xn : Int)) = true := decide_eq_true hx20i
          have hxc20 : (20 : Int) ≤ (xc : Int) := by omega
          have hS7 : ∀ W', Below w7.heap.size w7 W' → W'.cell? ⟨rb, 2, none⟩ = some (.slice (some ⟨xg, 0, none⟩) xn xc) ∧ (convert 37 9 (.slice (some ⟨xg, 0, none⟩) 20 xc)).run Try.prog W' = .ok (.string (stB sf9)) W' ∧ (convert 37 9 (.slice (some ⟨Y, 0, none⟩) 20 20)).run Try.prog W' = .ok (.string (stB sf9)) W' := fun W' hW => by
            refine ⟨?_, ?_, ?_⟩
            · rw [← ev2]; exact ((hrw.below hW).blk.cell 2).trans (r8_at rv (by omega))
            · have h9 := ((ho2.below hW ho2.lt).cut 20 (by omega)).string
              rw [hpre] at h9
              exact h9
            · exact rb_string (hrY.below hW) (by decide)
          have hSz : ∀ W', Below w7.heap.size w7 W' → Calls Try.prog 30 #[.pointer (some ⟨d, 0, none⟩), .int .i64 2] W' fun e w' => e = .returned (.tuple #[.int .i64 0, .int .i64 13]) ∧ w' = W' := fun W' hW => d1Size (hd7.below hW) 2
          have HSw : Hid _ := hS7
          have HSz := hSz w7 (Below.refl _ _)
          have HSz : Hid _ := HSz
          have HB7 : Hid (Below W0.heap.size W0 w7) := HB1.out.trans (hd7.bel.mono HB1.out.size)
          clear hrw hT hd7 hf7 hrY hpre ho2 ev2 hxn hS7 hSz HD HCr
          generalize stB sf9 = sfs at *
          go_wp2_with (go_at_call 30; refine Calls.mono HSz.out ?_; rintro e w9 ⟨rfl, e9⟩; have e9 := e9.symm; subst e9; refine stop9 ?_)
          unfold Hold9
          go_upto_region 30 with fail
          refine wp_region_noPanic ?_
          refine wp_region_held_drew (S := fun W' => W'.cell? ⟨rb, 2, none⟩ = some (.slice (some ⟨xg, 0, none⟩) xn xc) ∧ (convert 37 9 (.slice (some ⟨xg, 0, none⟩) 20 xc)).run Try.prog W' = .ok (.string sfs) W' ∧ (convert 37 9 (.slice (some ⟨Y, 0, none⟩) 20 20)).run Try.prog W' = .ok (.string sfs) W') (by kernel_rfl) ?_ (fun hHeld => ?_)
          · ((try dsimp only); exact HSw.out _ (Below.refl _ _).drew)
          (try dsimp only at hHeld)
          refine wpAnyH_take (i := 0) (oi := ⟨some 122, _, _, _, _, _⟩) (v := ?_) rfl (by kernel_rfl) (by kernel_rfl) (by kernel_rfl) (fun _ _ _ h => h) (Or.inl ⟨by rfl, ?_⟩) (by assumption) ?_
          rotate_left
          · (intro w hSw; (try dsimp only at hSw); go_simp; try (with_reducible rfl))
          (try dsimp only); (try simp only [Act.put, List.setIfInBounds_toArray, List.set_cons_zero, List.set_cons_succ])
          refine wpAnyH_take (i := 1) (oi := ⟨some 123, _, _, _, _, _⟩) (v := ?_) rfl (by kernel_rfl) (by kernel_rfl) (by kernel_rfl) (fun _ _ _ h => h) (Or.inl ⟨by rfl, ?_⟩) (by assumption) ?_
          rotate_left
          · (intro w hSw; (try dsimp only at hSw); go_simp; try (with_reducible rfl))
          (try dsimp only); (try simp only [Act.put, List.setIfInBounds_toArray, List.set_cons_zero, List.set_cons_succ])
          refine wpAnyH_take (i := 2) (oi := ⟨some 124, _, _, _, _, _⟩) (v := ?_) rfl (by kernel_rfl) (by kernel_rfl) (by kernel_rfl) (fun _ _ _ h => h) (Or.inl ⟨by rfl, ?_⟩) (by assumption) ?_
          rotate_left
          · (intro w hSw; (try dsimp only at hSw); go_simp; try (with_reducible rfl))
          (try dsimp only); (try simp only [Act.put, List.setIfInBounds_toArray, List.set_cons_zero, List.set_cons_succ])
          refine wpAnyH_take (i := 3) (oi := ⟨some 125, _, _, _, _, _⟩) (v := ?_) rfl (by kernel_rfl) (by kernel_rfl) (by kernel_rfl) (fun _ _ _ h => h) (Or.inl ⟨by rfl, ?_⟩) (by assumption) ?_
          rotate_left
          · (intro w hSw; (try dsimp only at hSw); go_simp; try (with_reducible rfl))
          (try dsimp only); (try simp only [Act.put, List.setIfInBounds_toArray, List.set_cons_zero, List.set_cons_succ])
          refine wpAnyH_take (i := 4) (oi := ⟨some 126, _, _, _, _, _⟩) (v := ?_) rfl (by kernel_rfl) (by kernel_rfl) (by kernel_rfl) (fun _ _ _ h => h) (Or.inl ⟨by rfl, ?_⟩) (by assumption) ?_
          rotate_left
          · (intro w hSw; (try dsimp only at hSw); go_simp; try (with_reducible rfl))
          (try dsimp only); (try simp only [Act.put, List.setIfInBounds_toArray, List.set_cons_zero, List.set_cons_succ])
          refine wpAnyH_take (i := 5) (oi := ⟨some 127, _, _, _, _, _⟩) (v := ?_) rfl (by kernel_rfl) (by kernel_rfl) (by kernel_rfl) (fun _ _ _ h => h) (Or.inl ⟨by rfl, ?_⟩) (by assumption) ?_
          rotate_left
          · (intro w hSw; (try dsimp only at hSw); go_simp; try (with_reducible rfl))
          (try dsimp only); (try simp only [Act.put, List.setIfInBounds_toArray, List.set_cons_zero, List.set_cons_succ])
          refine wpAnyH_take (i := 6) (oi := ⟨some 128, _, _, _, _, _⟩) (v := ?_) rfl (by kernel_rfl) (by kernel_rfl) (by kernel_rfl) (fun _ _ _ h => h) (Or.inl ⟨by rfl, ?_⟩) (by assumption) ?_
          rotate_left
          · (intro w hSw; (try dsimp only at hSw); go_simp; try (with_reducible rfl))
          (try dsimp only); (try simp only [Act.put, List.setIfInBounds_toArray, List.set_cons_zero, List.set_cons_succ])
          refine wpAnyH_take (i := 7) (oi := ⟨some 129, _, _, _, _, _⟩) (v := ?_) rfl (by kernel_rfl) (by kernel_rfl) (by kernel_rfl) (fun _ _ _ h => h) (Or.inl ⟨by rfl, ?_⟩) (by assumption) ?_
          rotate_left
          · (intro w hSw; (try dsimp only at hSw); go_simp; try (with_reducible rfl))
          (try dsimp only); (try simp only [Act.put, List.setIfInBounds_toArray, List.set_cons_zero, List.set_cons_succ])
          refine wpAnyH_take (i := 8) (oi := ⟨some 130, _, _, _, _, _⟩) (v := ?_) rfl (by kernel_rfl) (by kernel_rfl) (by kernel_rfl) (fun _ _ _ h => h) (Or.inl ⟨by rfl, ?_⟩) (by assumption) ?_
          rotate_left
          · (intro w hSw; (try dsimp only at hSw); go_simp; try (with_reducible rfl))
          (try dsimp only); (try simp only [Act.put, List.setIfInBounds_toArray, List.set_cons_zero, List.set_cons_succ])
          refine wpAnyH_take (i := 9) (oi := ⟨some 131, _, _, _, _, _⟩) (v := ?_) rfl (by kernel_rfl) (by kernel_rfl) (by kernel_rfl) (fun _ _ _ h => h) (Or.inl ⟨by rfl, ?_⟩) (by assumption) ?_
          rotate_left
          · (intro w hSw; (try dsimp only at hSw); go_simp; try (with_reducible rfl))
          (try dsimp only); (try simp only [Act.put, List.setIfInBounds_toArray, List.set_cons_zero, List.set_cons_succ])
          refine wpAnyH_take (i := 10) (oi := ⟨some 132, _, _, _, _, _⟩) (v := ?_) rfl (by kernel_rfl) (by kernel_rfl) (by kernel_rfl) (fun _ _ _ h => h) (Or.inl ⟨by rfl, ?_⟩) (by assumption) ?_
          rotate_left
          · (intro w hSw; (try dsimp only at hSw); go_simp; try (with_reducible rfl))
          (try dsimp only); (try simp only [Act.put, List.setIfInBounds_toArray, List.set_cons_zero, List.set_cons_succ])
          refine wpAnyH_take (i := 11) (oi := ⟨some 133, _, _, _, _, _⟩) (v := ?_) rfl (by kernel_rfl) (by kernel_rfl) (by kernel_rfl) (fun _ _ _ h => h) (Or.inl ⟨by rfl, ?_⟩) (by assumption) ?_
          rotate_left
          · (intro w hSw; (try dsimp only at hSw); go_simp; try (with_reducible rfl))
          (try dsimp only); (try simp only [Act.put, List.setIfInBounds_toArray, List.set_cons_zero, List.set_cons_succ])
          refine wpAnyH_take (i := 12) (oi := ⟨some 134, _, _, _, _, _⟩) (v := ?_) rfl (by kernel_rfl) (by kernel_rfl) (by kernel_rfl) (fun _ _ _ h => h) (Or.inl ⟨by rfl, ?_⟩) (by assumption) ?_
          rotate_left
          · (intro w hSw; (try dsimp only at hSw); go_simp; try (with_reducible rfl))
          (try dsimp only); (try simp only [Act.put, List.setIfInBounds_toArray, List.set_cons_zero, List.set_cons_succ])
          refine wpAnyH_take (i := 13) (oi := ⟨some 135, _, _, _, _, _⟩) (v := ?_) rfl (by kernel_rfl) (by kernel_rfl) (by kernel_rfl) (fun _ _ _ h => h) (Or.inl ⟨by rfl, ?_⟩) (by assumption) ?_
          rotate_left
          · (intro w hSw; (try dsimp only at hSw); go_simp; try (with_reducible rfl))
          (try dsimp only); (try simp only [Act.put, List.setIfInBounds_toArray, List.set_cons_zero, List.set_cons_succ])
          refine wpAnyH_take (i := 14) (oi := ⟨some 136, _, _, _, _, _⟩) (v := ?_) rfl (by kernel_rfl) (by kernel_rfl) (by kernel_rfl) (fun _ _ _ h => h) (Or.inl ⟨by rfl, ?_⟩) (by assumption) ?_
          rotate_left
          · (intro w hSw; (try dsimp only at hSw); go_simp; try (with_reducible rfl))
          (try dsimp only); (try simp only [Act.put, List.setIfInBounds_toArray, List.set_cons_zero, List.set_cons_succ])
          refine wpAnyH_take (i := 15) (oi := ⟨some 137, _, _, _, _, _⟩) (v := ?_) rfl (by kernel_rfl) (by kernel_rfl) (by kernel_rfl) (fun _ _ _ h => h) (Or.inl ⟨by rfl, ?_⟩) (by assumption) ?_
          rotate_left
          · (intro w hSw; (try dsimp only at hSw); go_simp; try (with_reducible rfl))
          (try dsimp only); (try simp only [Act.put, List.setIfInBounds_toArray, List.set_cons_zero, List.set_cons_succ])
          refine wpAnyH_take (i := 16) (oi := ⟨some 138, _, _, _, _, _⟩) (v := ?_) rfl (by kernel_rfl) (by kernel_rfl) (by kernel_rfl) (fun _ _ _ h => h) (Or.inl ⟨by rfl, ?_⟩) (by assumption) ?_
          rotate_left
          · (intro w hSw; (try dsimp only at hSw); go_simp; try (with_reducible rfl))
          (try dsimp only); (try simp only [Act.put, List.setIfInBounds_toArray, List.set_cons_zero, List.set_cons_succ])
          refine wpAnyH_take (i := 17) (oi := ⟨some 139, _, _, _, _, _⟩) (v := ?_) rfl (by kernel_rfl) (by kernel_rfl) (by kernel_rfl) (fun _ _ _ h => h) (Or.inl ⟨by rfl, ?_⟩) (by assumption) ?_
          rotate_left
          · (intro w hSw; (try dsimp only at hSw); go_simp; try (with_reducible rfl))
          (try dsimp only); (try simp only [Act.put, List.setIfInBounds_toArray, List.set_cons_zero, List.set_cons_succ])
          refine wpAnyH_take (i := 18) (oi := ⟨some 140, _, _, _, _, _⟩) (v := ?_) rfl (by kernel_rfl) (by kernel_rfl) (by kernel_rfl) (fun _ _ _ h => h) (Or.inl ⟨by rfl, ?_⟩) (by assumption) ?_
          rotate_left
          · (intro w hSw; (try dsimp only at hSw); go_simp; try (with_reducible rfl))
          (try dsimp only); (try simp only [Act.put, List.setIfInBounds_toArray, List.set_cons_zero, List.set_cons_succ])
          refine wpAnyH_take (i := 19) (oi := ⟨some 141, _, _, _, _, _⟩) (v := ?_) rfl (by kernel_rfl) (by kernel_rfl) (by kernel_rfl) (fun _ _ _ h => h) (Or.inl ⟨by rfl, ?_⟩) (by assumption) ?_
          rotate_left
          · (intro w hSw; (try dsimp only at hSw); go_simp; try (with_reducible rfl))
          (try dsimp only); (try simp only [Act.put, List.setIfInBounds_toArray, List.set_cons_zero, List.set_cons_succ])
          refine wpAnyH_take (i := 20) (oi := ⟨some 142, _, _, _, _, _⟩) (v := ?_) rfl (by kernel_rfl) (by kernel_rfl) (by kernel_rfl) (fun _ _ _ h => h) (Or.inl ⟨by rfl, ?_⟩) (by assumption) ?_
          rotate_left
          · (intro w hSw; (try dsimp only at hSw); go_simp; try (with_reducible rfl))
          (try dsimp only); (try simp only [Act.put, List.setIfInBounds_toArray, List.set_cons_zero, List.set_cons_succ])
          refine wpAnyH_take (i := 21) (oi := ⟨some 143, _, _, _, _, _⟩) (v := ?_) rfl (by kernel_rfl) (by kernel_rfl) (by kernel_rfl) (fun _ _ _ h => h) (Or.inl ⟨by rfl, ?_⟩) (by assumption) ?_
          rotate_left
          · (intro w hSw; (try dsimp only at hSw); go_simp; try (with_reducible rfl))
          (try dsimp only); (try simp only [Act.put, List.setIfInBounds_toArray, List.set_cons_zero, List.set_cons_succ])
          refine wpAnyH_take (i := 22) (oi := ⟨some 144, _, _, _, _, _⟩) (v := ?_) rfl (by kernel_rfl) (by kernel_rfl) (by kernel_rfl) (fun _ _ _ h => h) (Or.inl ⟨by rfl, ?_⟩) (by assumption) ?_
          rotate_left
          · (intro w hSw; (try dsimp only at hSw); go_simp; try (with_reducible rfl))
          (try dsimp only); (try simp only [Act.put, List.setIfInBounds_toArray, List.set_cons_zero, List.set_cons_succ])
          refine wpAnyH_take (i := 23) (oi := ⟨some 145, _, _, _, _, _⟩) (v := ?_) rfl (by kernel_rfl) (by kernel_rfl) (by kernel_rfl) (fun _ _ _ h => h) (Or.inl ⟨by rfl, ?_⟩) (by assumption) ?_
          rotate_left
          · (intro w hSw; (try dsimp only at hSw); go_simp; try (with_reducible rfl))
          (try dsimp only); (try simp only [Act.put, List.setIfInBounds_toArray, List.set_cons_zero, List.set_cons_succ])
          refine wpAnyH_take (i := 24) (oi := ⟨some 146, _, _, _, _, _⟩) (v := ?_) rfl (by kernel_rfl) (by kernel_rfl) (by kernel_rfl) (fun _ _ _ h => h) (Or.inl ⟨by rfl, ?_⟩) (by assumption) ?_
          rotate_left
          · (intro w hSw; (try dsimp only at hSw); go_simp; try (with_reducible rfl))
          (try dsimp only); (try simp only [Act.put, List.setIfInBounds_toArray, List.set_cons_zero, List.set_cons_succ])
          refine wpAnyH_take (i := 25) (oi := ⟨some 147, _, _, _, _, _⟩) (v := ?_) rfl (by kernel_rfl) (by kernel_rfl) (by kernel_rfl) (fun _ _ _ h => h) (Or.inl ⟨by rfl, ?_⟩) (by assumption) ?_
          rotate_left
          · (intro w hSw; (try dsimp only at hSw); go_simp; try (with_reducible rfl))
          (try dsimp only); (try simp only [Act.put, List.setIfInBounds_toArray, List.set_cons_zero, List.set_cons_succ])
          refine wpAnyH_ready (rs := [26]) (by kernel_rfl) (by simp) ?_
          refine AllReadyH.cons (o := ⟨some 148, _, _, _, _, _⟩) rfl (fun K hK => ?_) AllReadyH.nil
          go_simp
          refine Calls.mono (HNum.out _ _) ?_
          rintro e w8 ⟨rfl, e8⟩
          have e8 := e8.symm
          subst e8
          refine hK.out _ _ hHeld (fun hHeld => ?_)
          clear hK K
          (try dsimp only); (try simp only [Act.put, List.setIfInBounds_toArray, List.set_cons_zero, List.set_cons_succ])
          refine wpAnyH_take (i := 27) (oi := ⟨some 149, _, _, _, _, _⟩) (v := ?_) rfl (by kernel_rfl) (by kernel_rfl) (by kernel_rfl) (fun _ _ _ h => h) (Or.inl ⟨by rfl, ?_⟩) (by assumption) ?_
          rotate_left
          · (intro w hSw; (try dsimp only at hSw); go_simp; try (with_reducible rfl))
          (try dsimp only); (try simp only [Act.put, List.setIfInBounds_toArray, List.set_cons_zero, List.set_cons_succ])
          refine wpAnyH_take (i := 28) (oi := ⟨some 150, _, _, _, _, _⟩) (v := ?_) rfl (by kernel_rfl) (by kernel_rfl) (by kernel_rfl) (fun _ _ _ h => h) (Or.inl ⟨by rfl, ?_⟩) (by assumption) ?_
          rotate_left
          · (intro w hSw; (try dsimp only at hSw); go_simp; try (with_reducible rfl))
          (try dsimp only); (try simp only [Act.put, List.setIfInBounds_toArray, List.set_cons_zero, List.set_cons_succ])
          refine wpAnyH_take (i := 29) (oi := ⟨some 151, _, _, _, _, _⟩) (v := ?_) rfl (by kernel_rfl) (by kernel_rfl) (by kernel_rfl) (fun _ _ _ h => h) (Or.inl ⟨by rfl, ?_⟩) (by assumption) ?_
          rotate_left
          · (intro w hSw; (try dsimp only at hSw); go_simp; try (with_reducible rfl))
          (try dsimp only); (try simp only [Act.put, List.setIfInBounds_toArray, List.set_cons_zero, List.set_cons_succ])
          refine wpAnyH_ready (rs := [30]) (by kernel_rfl) (by simp) ?_
          refine AllReadyH.cons (o := ⟨some 152, _, _, _, _, _⟩) rfl (fun K hK => ?_) AllReadyH.nil
          go_simp
          refine (wakes9 _).mono ?_
          rintro e w9 ⟨rfl, hb9⟩
          have HB9 : Hid (Below w7.heap.size w7 w9) := (Below.refl w7.heap.size w7).drew.trans hb9
          refine hK.out _ _ (HSw.out _ HB9.out) (fun hHeld => ?_)
          clear hK K hb9
          (try dsimp only); (try simp only [Act.put, List.setIfInBounds_toArray, List.set_cons_zero, List.set_cons_succ])
          refine wpAnyH_take (i := 31) (oi := ⟨some 153, _, _, _, _, _⟩) (v := ?_) rfl (by kernel_rfl) (by kernel_rfl) (by kernel_rfl) (fun _ _ _ h => h) (Or.inl ⟨by rfl, ?_⟩) (by assumption) ?_
          rotate_left
          · (intro w hSw; (try dsimp only at hSw); go_simp; try (with_reducible rfl))
          (try dsimp only); (try simp only [Act.put, List.setIfInBounds_toArray, List.set_cons_zero, List.set_cons_succ])
          refine wpAnyH_take (i := 32) (oi := ⟨some 2, _, _, _, _, _⟩) (v := ?_) rfl (by kernel_rfl) (by kernel_rfl) (by kernel_rfl) (fun _ _ _ h => h) (Or.inl ⟨by rfl, ?_⟩) (by assumption) ?_
          rotate_left
          · (intro w hSw; (try dsimp only at hSw); go_simp; try (with_reducible rfl))
          (try dsimp only); (try simp only [Act.put, List.setIfInBounds_toArray, List.set_cons_zero, List.set_cons_succ])
          refine wpAnyH_done (by kernel_rfl) ?_ _
          refine NoPanic.normal ?_
          clear hHeld
          go_wp2_with fail
          go_ret
          exact ⟨rfl, HB0.out.trans ((HB7.out.trans (HB9.out.mono HB7.out.size)).mono HB0.out.size)⟩
        · have hm1 : 0 < (m : Int) := by omega
          have hix : 0 < xs.length := by have := Hm.out; omega
          obtain ⟨b, off, bv, pv, e3, hr, hbv, hpv, hw⟩ := la_at (HL.out w1 HB1.out) 0 hix
          subst e3
          have k5 := (HD.out.1.bel.cell (World.block_lt_of_cell? w1 _ (hr 5 _ rfl))).trans (hr 5 _ rfl)
          have HPv : Hid (Rp w1 pv (xs[0]'hix).ps) := hpv
          obtain ⟨pa, pc, epv, hp9⟩ := hpv
          subst epv
          clear hr hbv hp9 hw
          generalize (xs[0]'hix).ps = ps at *
          rw [Nat.zero_mul, Nat.add_zero] at k5
          have HCr : Hid (Calls Try.prog 44 #[.pointer (some ⟨d, 0, none⟩), .slice pa ps.length pc] wr fun e w' => ∃ T rb, e = .returned (.slice (some ⟨rb, 0, none⟩) 8 8) ∧ Rows8 wr w' T rb (crash D ps) ∧ D1 w1 w' d O { D with off := true } ∧ Fp O wr O w') := d1Crash HD.out.1 HD.out.2.2.1 (by omega) _ ps (HPv.out.below HD.out.1.bel) (fun hn b n c e => HD.out.1.old (rp_old HPv.out hn b n c e))
          generalize ps.length = pn at *
          clear HX1
          go_wp2_with (go_at_call 44; refine stop9 ?_)
          unfold Hold9
          refine Calls.mono HCr.out ?_
          rintro e w7 ⟨T, rb, rfl, ⟨⟨pb, rv, pv7, hrw⟩, hT⟩, hd7, hf7⟩
          have hrY := rb_fp9 HD.out.2.2.2.2 hf7 (fun _ b n e => by simp at e; rw [← e.1]; exact HD.out.2.2.2.1)
          have hpre := HD.out.2.1.crash ps
          have ho2 := hrw.ow 2 (by omega)
          obtain ⟨xn, hxn⟩ : ∃ xn, xn = (crash D ps 2).length := ⟨_, rfl⟩
          obtain ⟨xa, xc, ev2, hcap⟩ := ho2.shape
          rw [ev2] at ho2
          have hx20 := hpre.len
          obtain ⟨xg, exa, _, _⟩ := ho2.pos9 (by omega)
          subst exa
          rw [← hxn] at ev2 ho2 hcap hx20
          have hx20i : (20 : Int) ≤ (xn : Int) := by omega
          have hx20d : decide ((20 : Int) ≤ (xn : Int)) = true := decide_eq_true hx20i
          have hxc20 : (20 : Int) ≤ (xc : Int) := by omega
          have hS7 : ∀ W', Below w7.heap.size w7 W' → W'.cell? ⟨rb, 2, none⟩ = some (.slice (some ⟨xg, 0, none⟩) xn xc) ∧ (convert 37 9 (.slice (some ⟨xg, 0, none⟩) 20 xc)).run Try.prog W' = .ok (.string (stB sf9)) W' ∧ (convert 37 9 (.slice (some ⟨Y, 0, none⟩) 20 20)).run Try.prog W' = .ok (.string (stB sf9)) W' := fun W' hW => by
            refine ⟨?_, ?_, ?_⟩
            · rw [← ev2]; exact ((hrw.below hW).blk.cell 2).trans (r8_at rv (by omega))
            · have h9 := ((ho2.below hW ho2.lt).cut 20 (by omega)).string
              rw [hpre] at h9
              exact h9
            · exact rb_string (hrY.below hW) (by decide)
          have hSz : ∀ W', Below w7.heap.size w7 W' → Calls Try.prog 30 #[.pointer (some ⟨d, 0, none⟩), .int .i64 2] W' fun e w' => e = .returned (.tuple #[.int .i64 0, .int .i64 13]) ∧ w' = W' := fun W' hW => d1Size (hd7.below hW) 2
          have HSw : Hid _ := hS7
          have HSz := hSz w7 (Below.refl _ _)
          have HSz : Hid _ := HSz
          have HB7 : Hid (Below W0.heap.size W0 w7) := HB1.out.trans (hd7.bel.mono HB1.out.size)
          clear hrw hT hd7 hf7 hrY hpre ho2 ev2 hxn hS7 hSz HD HCr
          generalize stB sf9 = sfs at *
          go_wp2_with (go_at_call 30; refine Calls.mono HSz.out ?_; rintro e w9 ⟨rfl, e9⟩; have e9 := e9.symm; subst e9; refine stop9 ?_)
          unfold Hold9
          go_upto_region 30 with fail
          refine wp_region_noPanic ?_
          refine wp_region_held_drew (S := fun W' => W'.cell? ⟨rb, 2, none⟩ = some (.slice (some ⟨xg, 0, none⟩) xn xc) ∧ (convert 37 9 (.slice (some ⟨xg, 0, none⟩) 20 xc)).run Try.prog W' = .ok (.string sfs) W' ∧ (convert 37 9 (.slice (some ⟨Y, 0, none⟩) 20 20)).run Try.prog W' = .ok (.string sfs) W') (by kernel_rfl) ?_ (fun hHeld => ?_)
          · ((try dsimp only); exact HSw.out _ (Below.refl _ _).drew)
          (try dsimp only at hHeld)
          refine wpAnyH_take (i := 0) (oi := ⟨some 122, _, _, _, _, _⟩) (v := ?_) rfl (by kernel_rfl) (by kernel_rfl) (by kernel_rfl) (fun _ _ _ h => h) (Or.inl ⟨by rfl, ?_⟩) (by assumption) ?_
          rotate_left
          · (intro w hSw; (try dsimp only at hSw); go_simp; try (with_reducible rfl))
          (try dsimp only); (try simp only [Act.put, List.setIfInBounds_toArray, List.set_cons_zero, List.set_cons_succ])
          refine wpAnyH_take (i := 1) (oi := ⟨some 123, _, _, _, _, _⟩) (v := ?_) rfl (by kernel_rfl) (by kernel_rfl) (by kernel_rfl) (fun _ _ _ h => h) (Or.inl ⟨by rfl, ?_⟩) (by assumption) ?_
          rotate_left
          · (intro w hSw; (try dsimp only at hSw); go_simp; try (with_reducible rfl))
          (try dsimp only); (try simp only [Act.put, List.setIfInBounds_toArray, List.set_cons_zero, List.set_cons_succ])
          refine wpAnyH_take (i := 2) (oi := ⟨some 124, _, _, _, _, _⟩) (v := ?_) rfl (by kernel_rfl) (by kernel_rfl) (by kernel_rfl) (fun _ _ _ h => h) (Or.inl ⟨by rfl, ?_⟩) (by assumption) ?_
          rotate_left
          · (intro w hSw; (try dsimp only at hSw); go_simp; try (with_reducible rfl))
          (try dsimp only); (try simp only [Act.put, List.setIfInBounds_toArray, List.set_cons_zero, List.set_cons_succ])
          refine wpAnyH_take (i := 3) (oi := ⟨some 125, _, _, _, _, _⟩) (v := ?_) rfl (by kernel_rfl) (by kernel_rfl) (by kernel_rfl) (fun _ _ _ h => h) (Or.inl ⟨by rfl, ?_⟩) (by assumption) ?_
          rotate_left
          · (intro w hSw; (try dsimp only at hSw); go_simp; try (with_reducible rfl))
          (try dsimp only); (try simp only [Act.put, List.setIfInBounds_toArray, List.set_cons_zero, List.set_cons_succ])
          refine wpAnyH_take (i := 4) (oi := ⟨some 126, _, _, _, _, _⟩) (v := ?_) rfl (by kernel_rfl) (by kernel_rfl) (by kernel_rfl) (fun _ _ _ h => h) (Or.inl ⟨by rfl, ?_⟩) (by assumption) ?_
          rotate_left
          · (intro w hSw; (try dsimp only at hSw); go_simp; try (with_reducible rfl))
          (try dsimp only); (try simp only [Act.put, List.setIfInBounds_toArray, List.set_cons_zero, List.set_cons_succ])
          refine wpAnyH_take (i := 5) (oi := ⟨some 127, _, _, _, _, _⟩) (v := ?_) rfl (by kernel_rfl) (by kernel_rfl) (by kernel_rfl) (fun _ _ _ h => h) (Or.inl ⟨by rfl, ?_⟩) (by assumption) ?_
          rotate_left
          · (intro w hSw; (try dsimp only at hSw); go_simp; try (with_reducible rfl))
          (try dsimp only); (try simp only [Act.put, List.setIfInBounds_toArray, List.set_cons_zero, List.set_cons_succ])
          refine wpAnyH_take (i := 6) (oi := ⟨some 128, _, _, _, _, _⟩) (v := ?_) rfl (by kernel_rfl) (by kernel_rfl) (by kernel_rfl) (fun _ _ _ h => h) (Or.inl ⟨by rfl, ?_⟩) (by assumption) ?_
          rotate_left
          · (intro w hSw; (try dsimp only at hSw); go_simp; try (with_reducible rfl))
          (try dsimp only); (try simp only [Act.put, List.setIfInBounds_toArray, List.set_cons_zero, List.set_cons_succ])
          refine wpAnyH_take (i := 7) (oi := ⟨some 129, _, _, _, _, _⟩) (v := ?_) rfl (by kernel_rfl) (by kernel_rfl) (by kernel_rfl) (fun _ _ _ h => h) (Or.inl ⟨by rfl, ?_⟩) (by assumption) ?_
          rotate_left
          · (intro w hSw; (try dsimp only at hSw); go_simp; try (with_reducible rfl))
          (try dsimp only); (try simp only [Act.put, List.setIfInBounds_toArray, List.set_cons_zero, List.set_cons_succ])
          refine wpAnyH_take (i := 8) (oi := ⟨some 130, _, _, _, _, _⟩) (v := ?_) rfl (by kernel_rfl) (by kernel_rfl) (by kernel_rfl) (fun _ _ _ h => h) (Or.inl ⟨by rfl, ?_⟩) (by assumption) ?_
          rotate_left
          · (intro w hSw; (try dsimp only at hSw); go_simp; try (with_reducible rfl))
          (try dsimp only); (try simp only [Act.put, List.setIfInBounds_toArray, List.set_cons_zero, List.set_cons_succ])
          refine wpAnyH_take (i := 9) (oi := ⟨some 131, _, _, _, _, _⟩) (v := ?_) rfl (by kernel_rfl) (by kernel_rfl) (by kernel_rfl) (fun _ _ _ h => h) (Or.inl ⟨by rfl, ?_⟩) (by assumption) ?_
          rotate_left
          · (intro w hSw; (try dsimp only at hSw); go_simp; try (with_reducible rfl))
          (try dsimp only); (try simp only [Act.put, List.setIfInBounds_toArray, List.set_cons_zero, List.set_cons_succ])
          refine wpAnyH_take (i := 10) (oi := ⟨some 132, _, _, _, _, _⟩) (v := ?_) rfl (by kernel_rfl) (by kernel_rfl) (by kernel_rfl) (fun _ _ _ h => h) (Or.inl ⟨by rfl, ?_⟩) (by assumption) ?_
          rotate_left
          · (intro w hSw; (try dsimp only at hSw); go_simp; try (with_reducible rfl))
          (try dsimp only); (try simp only [Act.put, List.setIfInBounds_toArray, List.set_cons_zero, List.set_cons_succ])
          refine wpAnyH_take (i := 11) (oi := ⟨some 133, _, _, _, _, _⟩) (v := ?_) rfl (by kernel_rfl) (by kernel_rfl) (by kernel_rfl) (fun _ _ _ h => h) (Or.inl ⟨by rfl, ?_⟩) (by assumption) ?_
          rotate_left
          · (intro w hSw; (try dsimp only at hSw); go_simp; try (with_reducible rfl))
          (try dsimp only); (try simp only [Act.put, List.setIfInBounds_toArray, List.set_cons_zero, List.set_cons_succ])
          refine wpAnyH_take (i := 12) (oi := ⟨some 134, _, _, _, _, _⟩) (v := ?_) rfl (by kernel_rfl) (by kernel_rfl) (by kernel_rfl) (fun _ _ _ h => h) (Or.inl ⟨by rfl, ?_⟩) (by assumption) ?_
          rotate_left
          · (intro w hSw; (try dsimp only at hSw); go_simp; try (with_reducible rfl))
          (try dsimp only); (try simp only [Act.put, List.setIfInBounds_toArray, List.set_cons_zero, List.set_cons_succ])
          refine wpAnyH_take (i := 13) (oi := ⟨some 135, _, _, _, _, _⟩) (v := ?_) rfl (by kernel_rfl) (by kernel_rfl) (by kernel_rfl) (fun _ _ _ h => h) (Or.inl ⟨by rfl, ?_⟩) (by assumption) ?_
          rotate_left
          · (intro w hSw; (try dsimp only at hSw); go_simp; try (with_reducible rfl))
          (try dsimp only); (try simp only [Act.put, List.setIfInBounds_toArray, List.set_cons_zero, List.set_cons_succ])
          refine wpAnyH_take (i := 14) (oi := ⟨some 136, _, _, _, _, _⟩) (v := ?_) rfl (by kernel_rfl) (by kernel_rfl) (by kernel_rfl) (fun _ _ _ h => h) (Or.inl ⟨by rfl, ?_⟩) (by assumption) ?_
          rotate_left
          · (intro w hSw; (try dsimp only at hSw); go_simp; try (with_reducible rfl))
          (try dsimp only); (try simp only [Act.put, List.setIfInBounds_toArray, List.set_cons_zero, List.set_cons_succ])
          refine wpAnyH_take (i := 15) (oi := ⟨some 137, _, _, _, _, _⟩) (v := ?_) rfl (by kernel_rfl) (by kernel_rfl) (by kernel_rfl) (fun _ _ _ h => h) (Or.inl ⟨by rfl, ?_⟩) (by assumption) ?_
          rotate_left
          · (intro w hSw; (try dsimp only at hSw); go_simp; try (with_reducible rfl))
          (try dsimp only); (try simp only [Act.put, List.setIfInBounds_toArray, List.set_cons_zero, List.set_cons_succ])
          refine wpAnyH_take (i := 16) (oi := ⟨some 138, _, _, _, _, _⟩) (v := ?_) rfl (by kernel_rfl) (by kernel_rfl) (by kernel_rfl) (fun _ _ _ h => h) (Or.inl ⟨by rfl, ?_⟩) (by assumption) ?_
          rotate_left
          · (intro w hSw; (try dsimp only at hSw); go_simp; try (with_reducible rfl))
          (try dsimp only); (try simp only [Act.put, List.setIfInBounds_toArray, List.set_cons_zero, List.set_cons_succ])
          refine wpAnyH_take (i := 17) (oi := ⟨some 139, _, _, _, _, _⟩) (v := ?_) rfl (by kernel_rfl) (by kernel_rfl) (by kernel_rfl) (fun _ _ _ h => h) (Or.inl ⟨by rfl, ?_⟩) (by assumption) ?_
          rotate_left
          · (intro w hSw; (try dsimp only at hSw); go_simp; try (with_reducible rfl))
          (try dsimp only); (try simp only [Act.put, List.setIfInBounds_toArray, List.set_cons_zero, List.set_cons_succ])
          refine wpAnyH_take (i := 18) (oi := ⟨some 140, _, _, _, _, _⟩) (v := ?_) rfl (by kernel_rfl) (by kernel_rfl) (by kernel_rfl) (fun _ _ _ h => h) (Or.inl ⟨by rfl, ?_⟩) (by assumption) ?_
          rotate_left
          · (intro w hSw; (try dsimp only at hSw); go_simp; try (with_reducible rfl))
          (try dsimp only); (try simp only [Act.put, List.setIfInBounds_toArray, List.set_cons_zero, List.set_cons_succ])
          refine wpAnyH_take (i := 19) (oi := ⟨some 141, _, _, _, _, _⟩) (v := ?_) rfl (by kernel_rfl) (by kernel_rfl) (by kernel_rfl) (fun _ _ _ h => h) (Or.inl ⟨by rfl, ?_⟩) (by assumption) ?_
          rotate_left
          · (intro w hSw; (try dsimp only at hSw); go_simp; try (with_reducible rfl))
          (try dsimp only); (try simp only [Act.put, List.setIfInBounds_toArray, List.set_cons_zero, List.set_cons_succ])
          refine wpAnyH_take (i := 20) (oi := ⟨some 142, _, _, _, _, _⟩) (v := ?_) rfl (by kernel_rfl) (by kernel_rfl) (by kernel_rfl) (fun _ _ _ h => h) (Or.inl ⟨by rfl, ?_⟩) (by assumption) ?_
          rotate_left
          · (intro w hSw; (try dsimp only at hSw); go_simp; try (with_reducible rfl))
          (try dsimp only); (try simp only [Act.put, List.setIfInBounds_toArray, List.set_cons_zero, List.set_cons_succ])
          refine wpAnyH_take (i := 21) (oi := ⟨some 143, _, _, _, _, _⟩) (v := ?_) rfl (by kernel_rfl) (by kernel_rfl) (by kernel_rfl) (fun _ _ _ h => h) (Or.inl ⟨by rfl, ?_⟩) (by assumption) ?_
          rotate_left
          · (intro w hSw; (try dsimp only at hSw); go_simp; try (with_reducible rfl))
          (try dsimp only); (try simp only [Act.put, List.setIfInBounds_toArray, List.set_cons_zero, List.set_cons_succ])
          refine wpAnyH_take (i := 22) (oi := ⟨some 144, _, _, _, _, _⟩) (v := ?_) rfl (by kernel_rfl) (by kernel_rfl) (by kernel_rfl) (fun _ _ _ h => h) (Or.inl ⟨by rfl, ?_⟩) (by assumption) ?_
          rotate_left
          · (intro w hSw; (try dsimp only at hSw); go_simp; try (with_reducible rfl))
          (try dsimp only); (try simp only [Act.put, List.setIfInBounds_toArray, List.set_cons_zero, List.set_cons_succ])
          refine wpAnyH_take (i := 23) (oi := ⟨some 145, _, _, _, _, _⟩) (v := ?_) rfl (by kernel_rfl) (by kernel_rfl) (by kernel_rfl) (fun _ _ _ h => h) (Or.inl ⟨by rfl, ?_⟩) (by assumption) ?_
          rotate_left
          · (intro w hSw; (try dsimp only at hSw); go_simp; try (with_reducible rfl))
          (try dsimp only); (try simp only [Act.put, List.setIfInBounds_toArray, List.set_cons_zero, List.set_cons_succ])
          refine wpAnyH_take (i := 24) (oi := ⟨some 146, _, _, _, _, _⟩) (v := ?_) rfl (by kernel_rfl) (by kernel_rfl) (by kernel_rfl) (fun _ _ _ h => h) (Or.inl ⟨by rfl, ?_⟩) (by assumption) ?_
          rotate_left
          · (intro w hSw; (try dsimp only at hSw); go_simp; try (with_reducible rfl))
          (try dsimp only); (try simp only [Act.put, List.setIfInBounds_toArray, List.set_cons_zero, List.set_cons_succ])
          refine wpAnyH_take (i := 25) (oi := ⟨some 147, _, _, _, _, _⟩) (v := ?_) rfl (by kernel_rfl) (by kernel_rfl) (by kernel_rfl) (fun _ _ _ h => h) (Or.inl ⟨by rfl, ?_⟩) (by assumption) ?_
          rotate_left
          · (intro w hSw; (try dsimp only at hSw); go_simp; try (with_reducible rfl))
          (try dsimp only); (try simp only [Act.put, List.setIfInBounds_toArray, List.set_cons_zero, List.set_cons_succ])
          refine wpAnyH_ready (rs := [26]) (by kernel_rfl) (by simp) ?_
          refine AllReadyH.cons (o := ⟨some 148, _, _, _, _, _⟩) rfl (fun K hK => ?_) AllReadyH.nil
          go_simp
          refine Calls.mono (HNum.out _ _) ?_
          rintro e w8 ⟨rfl, e8⟩
          have e8 := e8.symm
          subst e8
          refine hK.out _ _ hHeld (fun hHeld => ?_)
          clear hK K
          (try dsimp only); (try simp only [Act.put, List.setIfInBounds_toArray, List.set_cons_zero, List.set_cons_succ])
          refine wpAnyH_take (i := 27) (oi := ⟨some 149, _, _, _, _, _⟩) (v := ?_) rfl (by kernel_rfl) (by kernel_rfl) (by kernel_rfl) (fun _ _ _ h => h) (Or.inl ⟨by rfl, ?_⟩) (by assumption) ?_
          rotate_left
          · (intro w hSw; (try dsimp only at hSw); go_simp; try (with_reducible rfl))
          (try dsimp only); (try simp only [Act.put, List.setIfInBounds_toArray, List.set_cons_zero, List.set_cons_succ])
          refine wpAnyH_take (i := 28) (oi := ⟨some 150, _, _, _, _, _⟩) (v := ?_) rfl (by kernel_rfl) (by kernel_rfl) (by kernel_rfl) (fun _ _ _ h => h) (Or.inl ⟨by rfl, ?_⟩) (by assumption) ?_
          rotate_left
          · (intro w hSw; (try dsimp only at hSw); go_simp; try (with_reducible rfl))
          (try dsimp only); (try simp only [Act.put, List.setIfInBounds_toArray, List.set_cons_zero, List.set_cons_succ])
          refine wpAnyH_take (i := 29) (oi := ⟨some 151, _, _, _, _, _⟩) (v := ?_) rfl (by kernel_rfl) (by kernel_rfl) (by kernel_rfl) (fun _ _ _ h => h) (Or.inl ⟨by rfl, ?_⟩) (by assumption) ?_
          rotate_left
          · (intro w hSw; (try dsimp only at hSw); go_simp; try (with_reducible rfl))
          (try dsimp only); (try simp only [Act.put, List.setIfInBounds_toArray, List.set_cons_zero, List.set_cons_succ])
          refine wpAnyH_ready (rs := [30]) (by kernel_rfl) (by simp) ?_
          refine AllReadyH.cons (o := ⟨some 152, _, _, _, _, _⟩) rfl (fun K hK => ?_) AllReadyH.nil
          go_simp
          refine (wakes9 _).mono ?_
          rintro e w9 ⟨rfl, hb9⟩
          have HB9 : Hid (Below w7.heap.size w7 w9) := (Below.refl w7.heap.size w7).drew.trans hb9
          refine hK.out _ _ (HSw.out _ HB9.out) (fun hHeld => ?_)
          clear hK K hb9
          (try dsimp only); (try simp only [Act.put, List.setIfInBounds_toArray, List.set_cons_zero, List.set_cons_succ])
          refine wpAnyH_take (i := 31) (oi := ⟨some 153, _, _, _, _, _⟩) (v := ?_) rfl (by kernel_rfl) (by kernel_rfl) (by kernel_rfl) (fun _ _ _ h => h) (Or.inl ⟨by rfl, ?_⟩) (by assumption) ?_
          rotate_left
          · (intro w hSw; (try dsimp only at hSw); go_simp; try (with_reducible rfl))
          (try dsimp only); (try simp only [Act.put, List.setIfInBounds_toArray, List.set_cons_zero, List.set_cons_succ])
          refine wpAnyH_take (i := 32) (oi := ⟨some 2, _, _, _, _, _⟩) (v := ?_) rfl (by kernel_rfl) (by kernel_rfl) (by kernel_rfl) (fun _ _ _ h => h) (Or.inl ⟨by rfl, ?_⟩) (by assumption) ?_
          rotate_left
          · (intro w hSw; (try dsimp only at hSw); go_simp; try (with_reducible rfl))
          (try dsimp only); (try simp only [Act.put, List.setIfInBounds_toArray, List.set_cons_zero, List.set_cons_succ])
          refine wpAnyH_done (by kernel_rfl) ?_ _
          refine NoPanic.normal ?_
          clear hHeld
          go_wp2_with fail
          go_ret
          exact ⟨rfl, HB0.out.trans ((HB7.out.trans (HB9.out.mono HB7.out.size)).mono HB0.out.size)⟩
end Go.Proofs.Ytljhhdpeakencaa

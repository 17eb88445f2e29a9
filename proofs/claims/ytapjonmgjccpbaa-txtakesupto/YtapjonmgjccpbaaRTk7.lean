import Derived.Test.YtapjonmgjccpbaaPg7
import Derived.Test.YtapjonmgjccpbaaMkE
import Derived.Test.YtapjonmgjccpbaaRTk
import Derived.Test.YtapjonmgjccpbaaJ21
import Derived.Test.YtapjonmgjccpbaaJ9
import Derived.Test.YtapjonmgjccpbaaJ14
import Derived.Deep.DeepCutAuto
import Derived.Maps.AppendAt
set_option linter.unusedSimpArgs false
set_option linter.unusedVariables false
set_option maxRecDepth 100000
namespace Go.Proofs.Ytapjonmgjccpbaa
open Go.RowKit

/-! tarnref7.Take. -/
theorem cell_blk2 {w : World} {g : Nat} {x : Value} {t : TypeId} (h : Bk w g #[x] t) : ∀ j u, [x][j]? = some u → w.cell? ((⟨g, 0, none⟩ : Addr).add j) = some u := fun j u hj => by
  match j, hj with
  | 0, hj =>
    simp at hj
    subst hj
    have : (⟨g, 0, none⟩ : Addr).add 0 = ⟨g, 0, none⟩ := by unfold Addr.add; simp
    rw [this]
    exact h.cell 0
theorem wpList_store_fld7 {ops : Array Oper} {rest : List Oper} {op : Oper} {a : Act} {w : World} {Q : Exit → Act → World → Prop} (hgd : op.guard = none) (x y : Operand) (ho : op.op = .store 26 x y)
    {R o : Nat} (hx : a.eval x = .pointer (some ⟨R, o, none⟩)) {x0 x1 x2 x3 : Int} (hy : a.eval y = .agg (A4 x0 x1 x2 x3)) {old new : Array Value} (h : Bk w R old 30) (hs : o + 4 ≤ old.size)
    (hn : (((old.setIfInBounds o (.int .u64 x0)).setIfInBounds (o + 1) (.int .u64 x1)).setIfInBounds (o + 1 + 1) (.int .u64 x2)).setIfInBounds (o + 1 + 1 + 1) (.int .u64 x3) = new)
    (hk : ∀ W, Stored w W R new 30 → wpList Try.prog ops Q rest (a.put op.dst undef) W) : wpList Try.prog ops Q (op :: rest) a w := by
  refine wpList_store_mid hgd 26 x y ho R o (A4 x0 x1 x2 x3) hx hy (fun j hj => ?_) infoU7 (by simp [Value.oneCell']) (hk _ ⟨?_, fun c hc => setCells_block hc _ _ _, fun B w0 hB hb => setCells_below hB _ _ _ hb, setCells_size _ _ _⟩)
  · have hj : j < 4 := hj
    have := h.there (o + j) (by omega)
    rwa [Nat.zero_add] at this
  · rw [← hn]
    exact (((h.set o _ rfl).set (o + 1) _ rfl).set (o + 1 + 1) _ rfl).set (o + 1 + 1 + 1) _ rfl
set_option maxHeartbeats 8000000 in
theorem rtake7 (s : ByteArray) (w : World) (hs : s.size ≤ 1000000) :
    Calls Try.prog 12 #[.string s] w fun e w' => (∃ a b c d, e = .returned (.tuple #[.agg (txc (tkT s) (.slice a (tkT s).hs.length b) (.slice c (tkT s).bs.length d)), .bool (decide (tkOk s))]) ∧ OT w' w.heap.size (tkT s) (.slice a (tkT s).hs.length b) (.slice c (tkT s).bs.length d)) ∧ Below w.heap.size w w' := by
  have HTk : Hid (∀ w, Calls Try.prog 39 #[.string s] w (TaQ0 s w)) := fun w => rTake s w (by omega)
  have HIff : Hid (tkOk s ↔ pgA s ∧ pgB (tk0 s).1.items ∧ pgC (tk0 s).1.items ∧ pgD (tk0 s).1.items ∧ TxOk (pgT (tk0 s).1.items)) := pg_iff s
  have hsz : s.size ≤ 1000000 := hs
  obtain ⟨i9, hi9, hy0, hy1, hy2⟩ := info_of infoS
  obtain ⟨iU, hiU, hz0, hz1, hz2⟩ := info_of infoU
  have HI9 : Hid (Try.prog.info? 9 = some i9 ∧ i9.zero = some (.string ⟨#[]⟩) ∧ i9.size = 1 ∧ i9.bytes = 16) := ⟨hi9, hy0, hy1, hy2⟩
  have HIU : Hid (Try.prog.info? 24 = some iU ∧ iU.zero = some (.int .u64 0) ∧ iU.size = 1 ∧ iU.bytes = 8) := ⟨hiU, hz0, hz1, hz2⟩
  clear hi9 hy0 hy1 hy2 hiU hz0 hz1 hz2
  go_enter Try.func12, Try.ntmps12
  go_upto_region 1 with fail
  obtain ⟨wr, hwr⟩ : ∃ wr, wr = w.alloc (.cells z21 30) := ⟨_, rfl⟩
  rw [show w.alloc (.cells #[.int .i64 0, .int .i64 0, .int .u64 0, .int .u64 0, .int .u64 0, .int .u64 0, .int .u64 0, .int .u64 0, .int .u64 0, .int .u64 0, .int .u64 0, .int .u64 0, .int .u64 0, .int .u64 0, .int .u64 0, .int .u64 0, .int .u64 0, .int .u64 0, .int .i64 0, .slice none 0 0, .slice none 0 0] 30) = wr from hwr.symm]
  obtain ⟨R, hR⟩ : ∃ R, R = w.heap.size := ⟨_, rfl⟩
  have bR : Bk wr R z21 30 := by rw [hwr, hR]; exact Bk.new _ _ _
  have hB : Below w.heap.size w wr := by rw [hwr]; exact (Below.refl _ _).alloc (Nat.le_refl _) _
  have hRl : R < wr.heap.size := bR.lt
  have hR0 : w.heap.size ≤ R := by omega
  rw [← hR]
  clear hwr hR
  have HNz : Hid (Bk (wr.alloc (.cells z21 30)) wr.heap.size z21 30) := Bk.new _ _ _
  have HR : Hid (Bk wr R z21 30) := bR
  have HB : Hid (Below w.heap.size w wr) := hB
  have HR0 : Hid (w.heap.size ≤ R ∧ R < wr.heap.size) := ⟨hR0, hRl⟩
  clear bR hB hRl hR0
  go_upto_region 2 with (refine wpList_store_tx (t := zTX) (aH := none) (aB := none) (nH := 0) (cH := 0) (nB := 0) (cB := 0) rfl _ _ rfl rfl (by rw [z21_txc]; rfl) HNz.out rfl ?_; intro W1 hS1)
  obtain ⟨Z, hZ⟩ : ∃ Z, Z = wr.heap.size := ⟨_, rfl⟩
  rw [← hZ] at hS1 ⊢
  have HRZ : Hid (Bk W1 R z21 30 ∧ Bk W1 Z (txc zTX (.slice none 0 0) (.slice none 0 0)) 30) := ⟨hS1.other (HR.out.alloc _) (by have := HR0.out.2; omega), hS1.bR⟩
  replace HB : Hid (Below w.heap.size w W1) := hS1.below _ _ (by have := HB.out.size; omega) (HB.out.alloc HB.out.size _)
  have HRw : Hid (w.heap.size ≤ R ∧ R ≠ Z ∧ R < W1.heap.size ∧ Z < W1.heap.size) := ⟨HR0.out.1, by have := HR0.out.2; omega, HRZ.out.1.lt, HRZ.out.2.lt⟩
  clear hS1 hZ HNz HR HR0
  go_wp2_with fail
  refine (HTk.out _).mono ?_
  rintro e w1 ⟨⟨ad, ln, cp, rfl, hrd⟩, hb1⟩
  have HRd0 : Hid (RdP w1 (· < w1.heap.size) 18 (tk0 s).1.items (.slice ad ln cp)) := hrd.rd.P
  replace HRZ : Hid (Bk w1 R z21 30 ∧ Bk w1 Z (txc zTX (.slice none 0 0) (.slice none 0 0)) 30) := ⟨HRZ.out.1.below hb1 HRw.out.2.2.1, HRZ.out.2.below hb1 HRw.out.2.2.2⟩
  replace HB : Hid (Below w.heap.size w w1) := HB.out.trans (hb1.mono HB.out.size)
  replace HRw : Hid (w.heap.size ≤ R ∧ R ≠ Z ∧ R < w1.heap.size ∧ Z < w1.heap.size) := ⟨HRw.out.1, HRw.out.2.1, HRZ.out.1.lt, HRZ.out.2.lt⟩
  clear hrd hb1 HTk
  have HA0 : Hid (pgA s ↔ (tk0 s).2.2 = 0 ∧ (tk0 s).2.1 = s.size ∧ (tk0 s).1.list = true ∧ (tk0 s).1.items.length = 9 ∧ (atI (tk0 s).1.items 7).list = true ∧ (atI (tk0 s).1.items 8).list = true) := Iff.rfl
  have HXz0 : Hid (pgA s → (pz s).1.items = (tk0 s).1.items) := fun h => by rw [pz_fst ((pz_of s).2 ⟨h.1, h.2.1⟩)]
  have HSm0 : Hid (pgA s → ∀ i, i < 9 → (∀ y ∈ (atI (tk0 s).1.items i).items, y.text.size ≤ 1048576) ∧ (atI (tk0 s).1.items i).items.length ≤ 1048576) := fun h i hi => ⟨pg_small s h i hi, pg_len s h i hi⟩
  generalize tk0 s = TT at HRd0 HIff HA0 HSm0 HXz0 ⊢
  obtain ⟨⟨L, t, xs⟩, k, en⟩ := TT
  have HRd : Hid (RdP w1 (· < w1.heap.size) 18 xs (.slice ad ln cp)) := HRd0
  have HPg : Hid (tkOk s ↔ pgA s ∧ pgB xs ∧ pgC xs ∧ pgD xs ∧ TxOk (pgT xs)) := HIff
  have HA : Hid (pgA s ↔ en = 0 ∧ k = s.size ∧ L = true ∧ xs.length = 9 ∧ (atI xs 7).list = true ∧ (atI xs 8).list = true) := HA0
  have HSm : Hid (pgA s → ∀ i, i < 9 → (∀ y ∈ (atI xs i).items, y.text.size ≤ 1048576) ∧ (atI xs i).items.length ≤ 1048576) := HSm0
  have HXz : Hid (pgA s → (pz s).1.items = xs) := HXz0
  clear HRd0 HIff HA0 HSm0 HXz0
  obtain ⟨m, hm, ad', cp', hv, hxl, hat⟩ := HRd.out.at
  obtain rfl : m = 17 := by omega
  simp only [Value.slice.injEq] at hv
  obtain ⟨rfl, rfl, rfl⟩ := hv
  have HAt : Hid (∀ i (hi : i < xs.length), ∃ b off, ad = some ⟨b, off, none⟩ ∧ b < w1.heap.size ∧ ∃ a l c, w1.cell? ⟨b, off + i * 3, none⟩ = some (.bool xs[i].list) ∧ w1.cell? ⟨b, off + i * 3 + 1, none⟩ = some (.string xs[i].text) ∧ w1.cell? ⟨b, off + i * 3 + 2, none⟩ = some (.slice a l c) ∧ RdP w1 (· < w1.heap.size) 17 xs[i].items (.slice a l c)) := hat
  clear hat hm HRd
  dsimp only [IT.list, IT.text, IT.items]
  obtain ⟨W2, hW2⟩ : ∃ W, W = w1.alloc (.cells #[.bool L, .string t, .slice ad xs.length cp] 70) := ⟨_, rfl⟩
  obtain ⟨I, hI⟩ : ∃ I, I = w1.heap.size := ⟨_, rfl⟩
  have HW2 : Hid (W2 = w1.alloc (.cells #[.bool L, .string t, .slice ad xs.length cp] 70) ∧ I = w1.heap.size) := ⟨hW2, hI⟩
  clear hW2 hI
  go_upto_region 3 with fail
  rw [← HW2.out.1, ← HW2.out.2]
  have hb2 : Below w1.heap.size w1 W2 := by rw [HW2.out.1]; exact (Below.refl _ _).alloc (Nat.le_refl _) _
  have bI : Bk W2 I #[.bool L, .string t, .slice ad xs.length cp] 70 := by rw [HW2.out.1, HW2.out.2]; exact Bk.new _ _ _
  have HK : Hid (Below w1.heap.size w1 W2) := hb2
  have HbI : Hid (Bk W2 I #[.bool L, .string t, .slice ad xs.length cp] 70) := bI
  clear hb2 bI HW2
  go_cut [57] (fun c wx => (∃ b : Bool, c = .bool b ∧ (b = false ↔ pgA s)) ∧ wx = W2)
  case first =>
    obtain ⟨i0, i1, i2⟩ := box_cells HbI.out
    by_cases h1 : en = 0
    · have e1 : ((en : Int) != 0) = false := by rw [h1]; rfl
      have H1 : Hid (en = 0) := h1
      clear h1
      by_cases h2 : k = s.size
      · have e2 : ((k : Int) != (s.size : Int)) = false := by rw [h2]; simp
        have H2 : Hid (k = s.size) := h2
        clear h2
        cases L with
        | true =>
          by_cases h4 : xs.length = 9
          · have e4 : ((xs.length : Int) != 9) = false := by rw [h4]; rfl
            obtain ⟨b, off, rfl, hbl, x1, x2, x3, c0, -⟩ := HAt.out 7 (by omega)
            obtain ⟨b', off', he, hbl', y1, y2, y3, d0, -⟩ := HAt.out 8 (by omega)
            simp only [Option.some.injEq, Addr.mk.injEq, and_true] at he
            obtain ⟨rfl, rfl⟩ := he
            have q7 : atI xs 7 = xs[7] := by unfold atI; simp [List.getD_eq_getElem?_getD, List.getElem?_eq_getElem (show 7 < xs.length by omega)]
            have q8 : atI xs 8 = xs[8] := by unfold atI; simp [List.getD_eq_getElem?_getD, List.getElem?_eq_getElem (show 8 < xs.length by omega)]
            replace c0 := (HK.out.cell (p := ⟨b, off + 7 * 3, none⟩) hbl).trans c0
            replace d0 := (HK.out.cell (p := ⟨b, off + 8 * 3, none⟩) hbl).trans d0
            simp only [Nat.reduceMul] at c0 d0
            have g7 : (7 : Int) < (xs.length : Int) := by omega
            have g8 : (8 : Int) < (xs.length : Int) := by omega
            have HAx : Hid _ := HA.out
            rw [q7, q8] at HAx
            have HL : Hid (xs.length = 9) := h4
            generalize xs[7].list = b7 at *
            generalize xs[8].list = b8 at *
            clear q7 q8 h4
            cases b7 with
            | true =>
              cases b8 with
              | true =>
                have hA : pgA s := HAx.out.2 ⟨H1.out, H2.out, rfl, HL.out, rfl, rfl⟩
                go_wp2_with fail
                go_meet
                exact ⟨⟨false, rfl, fun _ => hA, fun _ => rfl⟩, rfl⟩
              | false =>
                have hnA : ¬ pgA s := fun h => absurd (HAx.out.1 h).2.2.2.2.2 (by decide)
                go_wp2_with fail
                go_meet
                exact ⟨⟨true, rfl, fun h => absurd h (by decide), fun h => absurd h hnA⟩, rfl⟩
            | false =>
              have hnA : ¬ pgA s := fun h => absurd (HAx.out.1 h).2.2.2.2.1 (by decide)
              go_wp2_with fail
              go_meet
              exact ⟨⟨true, rfl, fun h => absurd h (by decide), fun h => absurd h hnA⟩, rfl⟩
          · have hnA : ¬ pgA s := fun h => h4 (HA.out.1 h).2.2.2.1
            have e4 : ((xs.length : Int) != 9) = true := by rw [bne_iff_ne]; omega
            go_wp2_with fail
            go_meet
            exact ⟨⟨true, rfl, fun h => absurd h (by decide), fun h => absurd h hnA⟩, rfl⟩
        | false =>
          have hnA : ¬ pgA s := fun h => absurd (HA.out.1 h).2.2.1 (by decide)
          go_wp2_with fail
          go_meet
          exact ⟨⟨true, rfl, fun h => absurd h (by decide), fun h => absurd h hnA⟩, rfl⟩
      · have hnA : ¬ pgA s := fun h => h2 (HA.out.1 h).2.1
        have e2 : ((k : Int) != (s.size : Int)) = true := by rw [bne_iff_ne]; omega
        go_wp2_with fail
        go_meet
        exact ⟨⟨true, rfl, fun h => absurd h (by decide), fun h => absurd h hnA⟩, rfl⟩
    · have hnA : ¬ pgA s := fun h => h1 (HA.out.1 h).1
      have e1 : ((en : Int) != 0) = true := by rw [bne_iff_ne]; omega
      go_wp2_with fail
      go_meet
      exact ⟨⟨true, rfl, fun h => absurd h (by decide), fun h => absurd h hnA⟩, rfl⟩
  case rest =>
    obtain ⟨⟨g, rfl, hg⟩, rfl⟩ := hcut
    cases g with
    | true =>
      have hno : ¬ tkOk s := fun h => absurd (hg.2 (HPg.out.1 h).1) (by decide)
      have HRZ2 : Hid (Bk wc R z21 30 ∧ Bk wc Z (txc zTX (.slice none 0 0) (.slice none 0 0)) 30) := ⟨HRZ.out.1.below HK.out HRw.out.2.2.1, HRZ.out.2.below HK.out HRw.out.2.2.2⟩
      have HB2 : Hid (Below w.heap.size w wc) := HB.out.trans (HK.out.mono HB.out.size)
      have HR0 : Hid (w.heap.size ≤ R) := HRw.out.1
      clear hg
      have HV : Hid (tkT s = zTX ∧ decide (tkOk s) = false) := (fun h : ¬ tkOk s => ⟨if_neg h, decide_eq_false h⟩) hno
      go_wp2_with (first
        | (refine wpList_load_tx rfl _ rfl rfl HRZ2.out.2 ?_)
        | (refine wpList_store_tx (t := zTX) (aH := none) (aB := none) (nH := 0) (cH := 0) (nB := 0) (cB := 0) rfl _ _ rfl rfl rfl HRZ2.out.1 rfl ?_; intro WF hSF))
      have hld := run_loadVar_mid (P := Try.prog) WF R 0 30 (txc zTX (.slice none 0 0) (.slice none 0 0)).toList _ (fun j x hx => by rw [Nat.zero_add, hSF.bR.cell]; simpa using hx) Try.underlying30 rfl infoT
      refine bodyPost_ret (v := .tuple #[.agg (txc zTX (.slice none 0 0) (.slice none 0 0)), .bool false]) ?_ rfl ⟨⟨none, 0, none, 0, by rw [HV.out.1, HV.out.2]; rfl, by rw [HV.out.1]; exact ⟨Or.nil _ _ _ _, Or.nil _ _ _ _⟩⟩, hSF.below _ _ HR0.out HB2.out⟩
      simp only [results, Try.results12, Act.put]
      simp [asAddr, hld]
    | false =>
      have HA2 : Hid (pgA s) := hg.1 rfl
      clear hg
      obtain ⟨-, -, hL, h9, -, -⟩ := HA.out.1 HA2.out
      subst hL
      have HC0 : Hid (∃ b off, ad = some ⟨b, off, none⟩ ∧ b < w1.heap.size ∧ ∀ i, i < 9 → ∃ a l c, w1.cell? ⟨b, off + i * 3, none⟩ = some (.bool (atI xs i).list) ∧ w1.cell? ⟨b, off + i * 3 + 1, none⟩ = some (.string (atI xs i).text) ∧ w1.cell? ⟨b, off + i * 3 + 2, none⟩ = some (.slice a l c) ∧ RdP w1 (· < w1.heap.size) 17 (atI xs i).items (.slice a l c)) := by
        obtain ⟨b, off, h1, h2, -⟩ := HAt.out 0 (by omega)
        refine ⟨b, off, h1, h2, fun i hi => ?_⟩
        obtain ⟨b', off', h1', h2', h3⟩ := HAt.out i (by omega)
        rw [h1] at h1'
        simp only [Option.some.injEq, Addr.mk.injEq, and_true] at h1'
        obtain ⟨rfl, rfl⟩ := h1'
        have q : atI xs i = xs[i] := by unfold atI; simp [List.getD_eq_getElem?_getD, List.getElem?_eq_getElem (show i < xs.length by omega)]
        rw [q]
        exact h3
      obtain ⟨b, off, rfl, hbl, hC⟩ := HC0.out
      have HC : Hid (∀ i, i < 9 → ∃ a l c, w1.cell? ⟨b, off + i * 3, none⟩ = some (.bool (atI xs i).list) ∧ w1.cell? ⟨b, off + i * 3 + 1, none⟩ = some (.string (atI xs i).text) ∧ w1.cell? ⟨b, off + i * 3 + 2, none⟩ = some (.slice a l c) ∧ RdP w1 (· < w1.heap.size) 17 (atI xs i).items (.slice a l c)) := hC
      have HX9 : Hid (xs.length = 9) := h9
      obtain ⟨i0, i1, i2⟩ := box_cells HbI.out
      rw [h9] at i2
      clear hC HC0 HAt hxl h9 HbI
      go_upto_region 8 with fail
      obtain ⟨W4, hW4⟩ : ∃ W, W = (wc.alloc (.cells z21 30)).alloc (.cells #[.bool false, .bool false, .bool false, .bool false, .bool false, .bool false, .bool false] 76) := ⟨_, rfl⟩
      rw [show (wc.alloc (.cells #[.int .i64 0, .int .i64 0, .int .u64 0, .int .u64 0, .int .u64 0, .int .u64 0, .int .u64 0, .int .u64 0, .int .u64 0, .int .u64 0, .int .u64 0, .int .u64 0, .int .u64 0, .int .u64 0, .int .u64 0, .int .u64 0, .int .u64 0, .int .u64 0, .int .i64 0, .slice none 0 0, .slice none 0 0] 30)).alloc (.cells #[.bool false, .bool false, .bool false, .bool false, .bool false, .bool false, .bool false] 76) = W4 from hW4.symm]
      obtain ⟨Tb, hTb⟩ : ∃ x, x = wc.heap.size := ⟨_, rfl⟩
      obtain ⟨Kb, hKb⟩ : ∃ x, x = wc.heap.size + 1 := ⟨_, rfl⟩
      have hT4 : Bk W4 Tb (txc zTX (.slice none 0 0) (.slice none 0 0)) 30 := by rw [hW4, hTb, z21_txc]; exact (Bk.new _ _ _).alloc _
      have hK4 : Bk W4 Kb #[.bool false, .bool false, .bool false, .bool false, .bool false, .bool false, .bool false] 76 := by rw [hW4, hKb]; exact Bk.new' _ _ _ (by simp)
      have hTK : Tb ≠ Kb := by omega
      have h1T : w1.heap.size ≤ Tb := by have := HK.out.size; omega
      have h1K : w1.heap.size ≤ Kb := by omega
      have hK5 : Below w1.heap.size w1 W4 := by rw [hW4]; exact (HK.out.alloc HK.out.size _).alloc (by simp; have := HK.out.size; omega) _
      rw [← hTb, show Tb + 1 = Kb by omega]
      clear HK hW4 hTb hKb i0 i1 i2
      have HK : Hid (Below w1.heap.size w1 W4) := hK5
      have HT : Hid (Bk W4 Tb (txc zTX (.slice none 0 0) (.slice none 0 0)) 30) := hT4
      have HKb : Hid (Bk W4 Kb #[.bool false, .bool false, .bool false, .bool false, .bool false, .bool false, .bool false] 76) := hK4
      clear hK5 hT4 hK4
      have HS0 : Hid (∀ (a : Option Addr) (l c : Nat) (w : World), Calls Try.prog 40 #[.agg #[.bool (atI xs 0).list, .string (atI xs 0).text, .slice a l c], .int .i64 8] w fun e w' => e = .returned (.tuple #[.int .i64 (smV (atI xs 0).list (atI xs 0).text 8), .bool (decide (smP (atI xs 0).list (atI xs 0).text 8))]) ∧ Below w.heap.size w w') := fun a l c w => rsmall _ _ a l c 8 w
      have HS1 : Hid (∀ (a : Option Addr) (l c : Nat) (w : World), Calls Try.prog 40 #[.agg #[.bool (atI xs 1).list, .string (atI xs 1).text, .slice a l c], .int .i64 1099511627776] w fun e w' => e = .returned (.tuple #[.int .i64 (smV (atI xs 1).list (atI xs 1).text 1099511627776), .bool (decide (smP (atI xs 1).list (atI xs 1).text 1099511627776))]) ∧ Below w.heap.size w w') := fun a l c w => rsmall _ _ a l c 1099511627776 w
      have HS2 : Hid (∀ (a : Option Addr) (l c : Nat) (w : World), Calls Try.prog 41 #[.agg #[.bool (atI xs 2).list, .string (atI xs 2).text, .slice a l c]] w fun e w' => e = .returned (.tuple #[V (wdV (atI xs 2).list (atI xs 2).text), .bool (wdOk (atI xs 2).list (atI xs 2).text)]) ∧ Below w.heap.size w w') := fun a l c w => rwide _ _ a l c w
      have HS3 : Hid (∀ (a : Option Addr) (l c : Nat) (w : World), Calls Try.prog 41 #[.agg #[.bool (atI xs 3).list, .string (atI xs 3).text, .slice a l c]] w fun e w' => e = .returned (.tuple #[V (wdV (atI xs 3).list (atI xs 3).text), .bool (wdOk (atI xs 3).list (atI xs 3).text)]) ∧ Below w.heap.size w w') := fun a l c w => rwide _ _ a l c w
      have HS4 : Hid (∀ (a : Option Addr) (l c : Nat) (w : World), Calls Try.prog 41 #[.agg #[.bool (atI xs 4).list, .string (atI xs 4).text, .slice a l c]] w fun e w' => e = .returned (.tuple #[V (wdV (atI xs 4).list (atI xs 4).text), .bool (wdOk (atI xs 4).list (atI xs 4).text)]) ∧ Below w.heap.size w w') := fun a l c w => rwide _ _ a l c w
      have HS5 : Hid (∀ (a : Option Addr) (l c : Nat) (w : World), Calls Try.prog 41 #[.agg #[.bool (atI xs 5).list, .string (atI xs 5).text, .slice a l c]] w fun e w' => e = .returned (.tuple #[V (wdV (atI xs 5).list (atI xs 5).text), .bool (wdOk (atI xs 5).list (atI xs 5).text)]) ∧ Below w.heap.size w w') := fun a l c w => rwide _ _ a l c w
      have HS6 : Hid (∀ (a : Option Addr) (l c : Nat) (w : World), Calls Try.prog 40 #[.agg #[.bool (atI xs 6).list, .string (atI xs 6).text, .slice a l c], .int .i64 1073741824] w fun e w' => e = .returned (.tuple #[.int .i64 (smV (atI xs 6).list (atI xs 6).text 1073741824), .bool (decide (smP (atI xs 6).list (atI xs 6).text 1073741824))]) ∧ Below w.heap.size w w') := fun a l c w => rsmall _ _ a l c 1073741824 w
      have HVs : Hid (pgT xs = ⟨smV (atI xs 0).list (atI xs 0).text 8, smV (atI xs 1).list (atI xs 1).text 1099511627776, wdV (atI xs 2).list (atI xs 2).text, wdV (atI xs 3).list (atI xs 3).text, wdV (atI xs 4).list (atI xs 4).text, wdV (atI xs 5).list (atI xs 5).text, smV (atI xs 6).list (atI xs 6).text 1073741824, (atI xs 7).items.map (fun y => mtV y.text), (atI xs 8).items.map (fun y => y.text)⟩) := rfl
      have HKs : Hid (pgB xs ↔ decide (smP (atI xs 0).list (atI xs 0).text 8) = true ∧ decide (smP (atI xs 1).list (atI xs 1).text 1099511627776) = true ∧ wdOk (atI xs 2).list (atI xs 2).text = true ∧ wdOk (atI xs 3).list (atI xs 3).text = true ∧ wdOk (atI xs 4).list (atI xs 4).text = true ∧ wdOk (atI xs 5).list (atI xs 5).text = true ∧ decide (smP (atI xs 6).list (atI xs 6).text 1073741824) = true) := ⟨fun h => ⟨decide_eq_true h.b0, decide_eq_true h.b1, h.b2, h.b3, h.b4, h.b5, decide_eq_true h.b6⟩, fun ⟨h0, h1, h2, h3, h4, h5, h6⟩ => ⟨of_decide_eq_true h0, of_decide_eq_true h1, h2, h3, h4, h5, of_decide_eq_true h6⟩⟩
      generalize smV (atI xs 0).list (atI xs 0).text 8 = v0 at HS0 HVs
      generalize decide (smP (atI xs 0).list (atI xs 0).text 8) = k0 at HS0 HKs
      generalize smV (atI xs 1).list (atI xs 1).text 1099511627776 = v1 at HS1 HVs
      generalize decide (smP (atI xs 1).list (atI xs 1).text 1099511627776) = k1 at HS1 HKs
      generalize wdV (atI xs 2).list (atI xs 2).text = x2 at HS2 HVs
      generalize wdOk (atI xs 2).list (atI xs 2).text = k2 at HS2 HKs
      generalize wdV (atI xs 3).list (atI xs 3).text = x3 at HS3 HVs
      generalize wdOk (atI xs 3).list (atI xs 3).text = k3 at HS3 HKs
      generalize wdV (atI xs 4).list (atI xs 4).text = x4 at HS4 HVs
      generalize wdOk (atI xs 4).list (atI xs 4).text = k4 at HS4 HKs
      generalize wdV (atI xs 5).list (atI xs 5).text = x5 at HS5 HVs
      generalize wdOk (atI xs 5).list (atI xs 5).text = k5 at HS5 HKs
      generalize smV (atI xs 6).list (atI xs 6).text 1073741824 = v6 at HS6 HVs
      generalize decide (smP (atI xs 6).list (atI xs 6).text 1073741824) = k6 at HS6 HKs
      obtain ⟨a0, l0, c0, p0, p1, p2, -⟩ := HC.out 0 (by omega)
      simp only [Nat.zero_mul, Nat.add_zero] at p0 p1 p2
      replace p0 := (HK.out.cell (p := ⟨b, off, none⟩) hbl).trans p0
      replace p1 := (HK.out.cell (p := ⟨b, off + 1, none⟩) hbl).trans p1
      replace p2 := (HK.out.cell (p := ⟨b, off + 2, none⟩) hbl).trans p2
      go_wp2_with fail
      refine (HS0.out _ _ _ _).mono ?_
      rintro e wA ⟨rfl, hbA⟩
      replace HT : Hid (Bk wA Tb (txc (⟨0, 0, 0, 0, 0, 0, 0, [], []⟩ : TX) (.slice none 0 0) (.slice none 0 0)) 30) := HT.out.below hbA HT.out.lt
      replace HKb : Hid (Bk wA Kb #[.bool false, .bool false, .bool false, .bool false, .bool false, .bool false, .bool false] 76) := HKb.out.below hbA HKb.out.lt
      replace HK : Hid (Below w1.heap.size w1 wA) := HK.out.trans (hbA.mono HK.out.size)
      clear hbA p0 p1 p2 HS0
      have n0 := HT.out.cell 0
      have nf0 := HT.out.frozen 0
      have k00 := HKb.out.cell 0
      have kf0 := HKb.out.frozen 0
      simp only [List.getElem?_toArray, List.getElem?_cons_zero, List.getElem?_cons_succ] at n0 k00
      go_upto_region 9 with fail
      have hT9 : Bk ((wA.setCell ⟨Tb, 0, none⟩ (.int .i64 v0)).setCell ⟨Kb, 0, none⟩ (.bool k0)) Tb (txc (⟨v0, 0, 0, 0, 0, 0, 0, [], []⟩ : TX) (.slice none 0 0) (.slice none 0 0)) 30 := (HT.out.set 0 (.int .i64 v0) rfl).other (a := ⟨Kb, 0, none⟩) hTK _
      have hKb9 : Bk ((wA.setCell ⟨Tb, 0, none⟩ (.int .i64 v0)).setCell ⟨Kb, 0, none⟩ (.bool k0)) Kb #[.bool k0, .bool false, .bool false, .bool false, .bool false, .bool false, .bool false] 76 := (HKb.out.other (a := ⟨Tb, 0, none⟩) (Ne.symm hTK) _).set 0 (.bool k0) rfl
      have hK9 : Below w1.heap.size w1 ((wA.setCell ⟨Tb, 0, none⟩ (.int .i64 v0)).setCell ⟨Kb, 0, none⟩ (.bool k0)) := (HK.out.setCell (p := ⟨Tb, 0, none⟩) h1T _).setCell (p := ⟨Kb, 0, none⟩) h1K _
      clear HT HKb HK n0 nf0 k00 kf0
      generalize ((wA.setCell ⟨Tb, 0, none⟩ (.int .i64 v0)).setCell ⟨Kb, 0, none⟩ (.bool k0)) = X0 at *
      have HT : Hid (Bk X0 Tb (txc (⟨v0, 0, 0, 0, 0, 0, 0, [], []⟩ : TX) (.slice none 0 0) (.slice none 0 0)) 30) := hT9
      have HKb : Hid (Bk X0 Kb #[.bool k0, .bool false, .bool false, .bool false, .bool false, .bool false, .bool false] 76) := hKb9
      have HK : Hid (Below w1.heap.size w1 X0) := hK9
      clear hT9 hKb9 hK9
      obtain ⟨a1, l1, c1, p0, p1, p2, -⟩ := HC.out 1 (by omega)
      simp only [Nat.one_mul] at p0 p1 p2
      replace p0 := (HK.out.cell (p := ⟨b, off + 3, none⟩) hbl).trans p0
      replace p1 := (HK.out.cell (p := ⟨b, off + 3 + 1, none⟩) hbl).trans p1
      replace p2 := (HK.out.cell (p := ⟨b, off + 3 + 2, none⟩) hbl).trans p2
      go_wp2_with fail
      refine (HS1.out _ _ _ _).mono ?_
      rintro e wA ⟨rfl, hbA⟩
      replace HT : Hid (Bk wA Tb (txc (⟨v0, 0, 0, 0, 0, 0, 0, [], []⟩ : TX) (.slice none 0 0) (.slice none 0 0)) 30) := HT.out.below hbA HT.out.lt
      replace HKb : Hid (Bk wA Kb #[.bool k0, .bool false, .bool false, .bool false, .bool false, .bool false, .bool false] 76) := HKb.out.below hbA HKb.out.lt
      replace HK : Hid (Below w1.heap.size w1 wA) := HK.out.trans (hbA.mono HK.out.size)
      clear hbA p0 p1 p2 HS1
      have n0 := HT.out.cell 1
      have nf0 := HT.out.frozen 1
      have k00 := HKb.out.cell 1
      have kf0 := HKb.out.frozen 1
      simp only [List.getElem?_toArray, List.getElem?_cons_zero, List.getElem?_cons_succ] at n0 k00
      go_upto_region 10 with fail
      have hT9 : Bk ((wA.setCell ⟨Tb, 1, none⟩ (.int .i64 v1)).setCell ⟨Kb, 1, none⟩ (.bool k1)) Tb (txc (⟨v0, v1, 0, 0, 0, 0, 0, [], []⟩ : TX) (.slice none 0 0) (.slice none 0 0)) 30 := (HT.out.set 1 (.int .i64 v1) rfl).other (a := ⟨Kb, 1, none⟩) hTK _
      have hKb9 : Bk ((wA.setCell ⟨Tb, 1, none⟩ (.int .i64 v1)).setCell ⟨Kb, 1, none⟩ (.bool k1)) Kb #[.bool k0, .bool k1, .bool false, .bool false, .bool false, .bool false, .bool false] 76 := (HKb.out.other (a := ⟨Tb, 1, none⟩) (Ne.symm hTK) _).set 1 (.bool k1) rfl
      have hK9 : Below w1.heap.size w1 ((wA.setCell ⟨Tb, 1, none⟩ (.int .i64 v1)).setCell ⟨Kb, 1, none⟩ (.bool k1)) := (HK.out.setCell (p := ⟨Tb, 1, none⟩) h1T _).setCell (p := ⟨Kb, 1, none⟩) h1K _
      clear HT HKb HK n0 nf0 k00 kf0
      generalize ((wA.setCell ⟨Tb, 1, none⟩ (.int .i64 v1)).setCell ⟨Kb, 1, none⟩ (.bool k1)) = X1 at *
      have HT : Hid (Bk X1 Tb (txc (⟨v0, v1, 0, 0, 0, 0, 0, [], []⟩ : TX) (.slice none 0 0) (.slice none 0 0)) 30) := hT9
      have HKb : Hid (Bk X1 Kb #[.bool k0, .bool k1, .bool false, .bool false, .bool false, .bool false, .bool false] 76) := hKb9
      have HK : Hid (Below w1.heap.size w1 X1) := hK9
      clear hT9 hKb9 hK9
      obtain ⟨a2, l2, c2, p0, p1, p2, -⟩ := HC.out 2 (by omega)
      simp only [Nat.reduceMul] at p0 p1 p2
      replace p0 := (HK.out.cell (p := ⟨b, off + 6, none⟩) hbl).trans p0
      replace p1 := (HK.out.cell (p := ⟨b, off + 6 + 1, none⟩) hbl).trans p1
      replace p2 := (HK.out.cell (p := ⟨b, off + 6 + 2, none⟩) hbl).trans p2
      go_wp2_with fail
      refine (HS2.out _ _ _ _).mono ?_
      rintro e wA ⟨rfl, hbA⟩
      replace HT : Hid (Bk wA Tb (txc (⟨v0, v1, 0, 0, 0, 0, 0, [], []⟩ : TX) (.slice none 0 0) (.slice none 0 0)) 30) := HT.out.below hbA HT.out.lt
      replace HKb : Hid (Bk wA Kb #[.bool k0, .bool k1, .bool false, .bool false, .bool false, .bool false, .bool false] 76) := HKb.out.below hbA HKb.out.lt
      replace HK : Hid (Below w1.heap.size w1 wA) := HK.out.trans (hbA.mono HK.out.size)
      clear hbA p0 p1 p2 HS2
      have hnew : (((((txc (⟨v0, v1, 0, 0, 0, 0, 0, [], []⟩ : TX) (.slice none 0 0) (.slice none 0 0)).setIfInBounds 2 (.int .u64 (lb x2 0))).setIfInBounds (2 + 1) (.int .u64 (lb x2 1))).setIfInBounds (2 + 1 + 1) (.int .u64 (lb x2 2))).setIfInBounds (2 + 1 + 1 + 1) (.int .u64 (lb x2 3))) = txc (⟨v0, v1, x2, 0, 0, 0, 0, [], []⟩ : TX) (.slice none 0 0) (.slice none 0 0) := rfl
      go_upto_region 11 with (refine wpList_store_fld7 (o := 2) rfl _ _ rfl rfl rfl HT.out (by show _ ≤ 21; omega) hnew ?_; intro W5 hS5; have hKb5 := hS5.other HKb.out (Ne.symm hTK); have k00 := hKb5.cell 2; have kf0 := hKb5.frozen 2; simp only [List.getElem?_toArray, List.getElem?_cons_zero, List.getElem?_cons_succ] at k00)
      have hT9 : Bk (W5.setCell ⟨Kb, 2, none⟩ (.bool k2)) Tb (txc (⟨v0, v1, x2, 0, 0, 0, 0, [], []⟩ : TX) (.slice none 0 0) (.slice none 0 0)) 30 := hS5.bR.other (a := ⟨Kb, 2, none⟩) hTK _
      have hKb9 : Bk (W5.setCell ⟨Kb, 2, none⟩ (.bool k2)) Kb #[.bool k0, .bool k1, .bool k2, .bool false, .bool false, .bool false, .bool false] 76 := hKb5.set 2 (.bool k2) rfl
      have hK9 : Below w1.heap.size w1 (W5.setCell ⟨Kb, 2, none⟩ (.bool k2)) := (hS5.below _ _ h1T HK.out).setCell (p := ⟨Kb, 2, none⟩) h1K _
      clear HT HKb HK hnew hKb5 k00 kf0 hS5
      generalize (W5.setCell ⟨Kb, 2, none⟩ (.bool k2)) = X2 at *
      have HT : Hid (Bk X2 Tb (txc (⟨v0, v1, x2, 0, 0, 0, 0, [], []⟩ : TX) (.slice none 0 0) (.slice none 0 0)) 30) := hT9
      have HKb : Hid (Bk X2 Kb #[.bool k0, .bool k1, .bool k2, .bool false, .bool false, .bool false, .bool false] 76) := hKb9
      have HK : Hid (Below w1.heap.size w1 X2) := hK9
      clear hT9 hKb9 hK9
      obtain ⟨a3, l3, c3, p0, p1, p2, -⟩ := HC.out 3 (by omega)
      simp only [Nat.reduceMul] at p0 p1 p2
      replace p0 := (HK.out.cell (p := ⟨b, off + 9, none⟩) hbl).trans p0
      replace p1 := (HK.out.cell (p := ⟨b, off + 9 + 1, none⟩) hbl).trans p1
      replace p2 := (HK.out.cell (p := ⟨b, off + 9 + 2, none⟩) hbl).trans p2
      go_wp2_with fail
      refine (HS3.out _ _ _ _).mono ?_
      rintro e wA ⟨rfl, hbA⟩
      replace HT : Hid (Bk wA Tb (txc (⟨v0, v1, x2, 0, 0, 0, 0, [], []⟩ : TX) (.slice none 0 0) (.slice none 0 0)) 30) := HT.out.below hbA HT.out.lt
      replace HKb : Hid (Bk wA Kb #[.bool k0, .bool k1, .bool k2, .bool false, .bool false, .bool false, .bool false] 76) := HKb.out.below hbA HKb.out.lt
      replace HK : Hid (Below w1.heap.size w1 wA) := HK.out.trans (hbA.mono HK.out.size)
      clear hbA p0 p1 p2 HS3
      have hnew : (((((txc (⟨v0, v1, x2, 0, 0, 0, 0, [], []⟩ : TX) (.slice none 0 0) (.slice none 0 0)).setIfInBounds 6 (.int .u64 (lb x3 0))).setIfInBounds (6 + 1) (.int .u64 (lb x3 1))).setIfInBounds (6 + 1 + 1) (.int .u64 (lb x3 2))).setIfInBounds (6 + 1 + 1 + 1) (.int .u64 (lb x3 3))) = txc (⟨v0, v1, x2, x3, 0, 0, 0, [], []⟩ : TX) (.slice none 0 0) (.slice none 0 0) := rfl
      go_upto_region 12 with (refine wpList_store_fld7 (o := 6) rfl _ _ rfl rfl rfl HT.out (by show _ ≤ 21; omega) hnew ?_; intro W5 hS5; have hKb5 := hS5.other HKb.out (Ne.symm hTK); have k00 := hKb5.cell 3; have kf0 := hKb5.frozen 3; simp only [List.getElem?_toArray, List.getElem?_cons_zero, List.getElem?_cons_succ] at k00)
      have hT9 : Bk (W5.setCell ⟨Kb, 3, none⟩ (.bool k3)) Tb (txc (⟨v0, v1, x2, x3, 0, 0, 0, [], []⟩ : TX) (.slice none 0 0) (.slice none 0 0)) 30 := hS5.bR.other (a := ⟨Kb, 3, none⟩) hTK _
      have hKb9 : Bk (W5.setCell ⟨Kb, 3, none⟩ (.bool k3)) Kb #[.bool k0, .bool k1, .bool k2, .bool k3, .bool false, .bool false, .bool false] 76 := hKb5.set 3 (.bool k3) rfl
      have hK9 : Below w1.heap.size w1 (W5.setCell ⟨Kb, 3, none⟩ (.bool k3)) := (hS5.below _ _ h1T HK.out).setCell (p := ⟨Kb, 3, none⟩) h1K _
      clear HT HKb HK hnew hKb5 k00 kf0 hS5
      generalize (W5.setCell ⟨Kb, 3, none⟩ (.bool k3)) = X3 at *
      have HT : Hid (Bk X3 Tb (txc (⟨v0, v1, x2, x3, 0, 0, 0, [], []⟩ : TX) (.slice none 0 0) (.slice none 0 0)) 30) := hT9
      have HKb : Hid (Bk X3 Kb #[.bool k0, .bool k1, .bool k2, .bool k3, .bool false, .bool false, .bool false] 76) := hKb9
      have HK : Hid (Below w1.heap.size w1 X3) := hK9
      clear hT9 hKb9 hK9
      obtain ⟨a4, l4, c4, p0, p1, p2, -⟩ := HC.out 4 (by omega)
      simp only [Nat.reduceMul] at p0 p1 p2
      replace p0 := (HK.out.cell (p := ⟨b, off + 12, none⟩) hbl).trans p0
      replace p1 := (HK.out.cell (p := ⟨b, off + 12 + 1, none⟩) hbl).trans p1
      replace p2 := (HK.out.cell (p := ⟨b, off + 12 + 2, none⟩) hbl).trans p2
      go_wp2_with fail
      refine (HS4.out _ _ _ _).mono ?_
      rintro e wA ⟨rfl, hbA⟩
      replace HT : Hid (Bk wA Tb (txc (⟨v0, v1, x2, x3, 0, 0, 0, [], []⟩ : TX) (.slice none 0 0) (.slice none 0 0)) 30) := HT.out.below hbA HT.out.lt
      replace HKb : Hid (Bk wA Kb #[.bool k0, .bool k1, .bool k2, .bool k3, .bool false, .bool false, .bool false] 76) := HKb.out.below hbA HKb.out.lt
      replace HK : Hid (Below w1.heap.size w1 wA) := HK.out.trans (hbA.mono HK.out.size)
      clear hbA p0 p1 p2 HS4
      have hnew : (((((txc (⟨v0, v1, x2, x3, 0, 0, 0, [], []⟩ : TX) (.slice none 0 0) (.slice none 0 0)).setIfInBounds 10 (.int .u64 (lb x4 0))).setIfInBounds (10 + 1) (.int .u64 (lb x4 1))).setIfInBounds (10 + 1 + 1) (.int .u64 (lb x4 2))).setIfInBounds (10 + 1 + 1 + 1) (.int .u64 (lb x4 3))) = txc (⟨v0, v1, x2, x3, x4, 0, 0, [], []⟩ : TX) (.slice none 0 0) (.slice none 0 0) := rfl
      go_upto_region 13 with (refine wpList_store_fld7 (o := 10) rfl _ _ rfl rfl rfl HT.out (by show _ ≤ 21; omega) hnew ?_; intro W5 hS5; have hKb5 := hS5.other HKb.out (Ne.symm hTK); have k00 := hKb5.cell 4; have kf0 := hKb5.frozen 4; simp only [List.getElem?_toArray, List.getElem?_cons_zero, List.getElem?_cons_succ] at k00)
      have hT9 : Bk (W5.setCell ⟨Kb, 4, none⟩ (.bool k4)) Tb (txc (⟨v0, v1, x2, x3, x4, 0, 0, [], []⟩ : TX) (.slice none 0 0) (.slice none 0 0)) 30 := hS5.bR.other (a := ⟨Kb, 4, none⟩) hTK _
      have hKb9 : Bk (W5.setCell ⟨Kb, 4, none⟩ (.bool k4)) Kb #[.bool k0, .bool k1, .bool k2, .bool k3, .bool k4, .bool false, .bool false] 76 := hKb5.set 4 (.bool k4) rfl
      have hK9 : Below w1.heap.size w1 (W5.setCell ⟨Kb, 4, none⟩ (.bool k4)) := (hS5.below _ _ h1T HK.out).setCell (p := ⟨Kb, 4, none⟩) h1K _
      clear HT HKb HK hnew hKb5 k00 kf0 hS5
      generalize (W5.setCell ⟨Kb, 4, none⟩ (.bool k4)) = X4 at *
      have HT : Hid (Bk X4 Tb (txc (⟨v0, v1, x2, x3, x4, 0, 0, [], []⟩ : TX) (.slice none 0 0) (.slice none 0 0)) 30) := hT9
      have HKb : Hid (Bk X4 Kb #[.bool k0, .bool k1, .bool k2, .bool k3, .bool k4, .bool false, .bool false] 76) := hKb9
      have HK : Hid (Below w1.heap.size w1 X4) := hK9
      clear hT9 hKb9 hK9
      obtain ⟨a5, l5, c5, p0, p1, p2, -⟩ := HC.out 5 (by omega)
      simp only [Nat.reduceMul] at p0 p1 p2
      replace p0 := (HK.out.cell (p := ⟨b, off + 15, none⟩) hbl).trans p0
      replace p1 := (HK.out.cell (p := ⟨b, off + 15 + 1, none⟩) hbl).trans p1
      replace p2 := (HK.out.cell (p := ⟨b, off + 15 + 2, none⟩) hbl).trans p2
      go_wp2_with fail
      refine (HS5.out _ _ _ _).mono ?_
      rintro e wA ⟨rfl, hbA⟩
      replace HT : Hid (Bk wA Tb (txc (⟨v0, v1, x2, x3, x4, 0, 0, [], []⟩ : TX) (.slice none 0 0) (.slice none 0 0)) 30) := HT.out.below hbA HT.out.lt
      replace HKb : Hid (Bk wA Kb #[.bool k0, .bool k1, .bool k2, .bool k3, .bool k4, .bool false, .bool false] 76) := HKb.out.below hbA HKb.out.lt
      replace HK : Hid (Below w1.heap.size w1 wA) := HK.out.trans (hbA.mono HK.out.size)
      clear hbA p0 p1 p2 HS5
      have hnew : (((((txc (⟨v0, v1, x2, x3, x4, 0, 0, [], []⟩ : TX) (.slice none 0 0) (.slice none 0 0)).setIfInBounds 14 (.int .u64 (lb x5 0))).setIfInBounds (14 + 1) (.int .u64 (lb x5 1))).setIfInBounds (14 + 1 + 1) (.int .u64 (lb x5 2))).setIfInBounds (14 + 1 + 1 + 1) (.int .u64 (lb x5 3))) = txc (⟨v0, v1, x2, x3, x4, x5, 0, [], []⟩ : TX) (.slice none 0 0) (.slice none 0 0) := rfl
      go_upto_region 14 with (refine wpList_store_fld7 (o := 14) rfl _ _ rfl rfl rfl HT.out (by show _ ≤ 21; omega) hnew ?_; intro W5 hS5; have hKb5 := hS5.other HKb.out (Ne.symm hTK); have k00 := hKb5.cell 5; have kf0 := hKb5.frozen 5; simp only [List.getElem?_toArray, List.getElem?_cons_zero, List.getElem?_cons_succ] at k00)
      have hT9 : Bk (W5.setCell ⟨Kb, 5, none⟩ (.bool k5)) Tb (txc (⟨v0, v1, x2, x3, x4, x5, 0, [], []⟩ : TX) (.slice none 0 0) (.slice none 0 0)) 30 := hS5.bR.other (a := ⟨Kb, 5, none⟩) hTK _
      have hKb9 : Bk (W5.setCell ⟨Kb, 5, none⟩ (.bool k5)) Kb #[.bool k0, .bool k1, .bool k2, .bool k3, .bool k4, .bool k5, .bool false] 76 := hKb5.set 5 (.bool k5) rfl
      have hK9 : Below w1.heap.size w1 (W5.setCell ⟨Kb, 5, none⟩ (.bool k5)) := (hS5.below _ _ h1T HK.out).setCell (p := ⟨Kb, 5, none⟩) h1K _
      clear HT HKb HK hnew hKb5 k00 kf0 hS5
      generalize (W5.setCell ⟨Kb, 5, none⟩ (.bool k5)) = X5 at *
      have HT : Hid (Bk X5 Tb (txc (⟨v0, v1, x2, x3, x4, x5, 0, [], []⟩ : TX) (.slice none 0 0) (.slice none 0 0)) 30) := hT9
      have HKb : Hid (Bk X5 Kb #[.bool k0, .bool k1, .bool k2, .bool k3, .bool k4, .bool k5, .bool false] 76) := hKb9
      have HK : Hid (Below w1.heap.size w1 X5) := hK9
      clear hT9 hKb9 hK9
      obtain ⟨a6, l6, c6, p0, p1, p2, -⟩ := HC.out 6 (by omega)
      simp only [Nat.reduceMul] at p0 p1 p2
      replace p0 := (HK.out.cell (p := ⟨b, off + 18, none⟩) hbl).trans p0
      replace p1 := (HK.out.cell (p := ⟨b, off + 18 + 1, none⟩) hbl).trans p1
      replace p2 := (HK.out.cell (p := ⟨b, off + 18 + 2, none⟩) hbl).trans p2
      go_wp2_with fail
      refine (HS6.out _ _ _ _).mono ?_
      rintro e wA ⟨rfl, hbA⟩
      replace HT : Hid (Bk wA Tb (txc (⟨v0, v1, x2, x3, x4, x5, 0, [], []⟩ : TX) (.slice none 0 0) (.slice none 0 0)) 30) := HT.out.below hbA HT.out.lt
      replace HKb : Hid (Bk wA Kb #[.bool k0, .bool k1, .bool k2, .bool k3, .bool k4, .bool k5, .bool false] 76) := HKb.out.below hbA HKb.out.lt
      replace HK : Hid (Below w1.heap.size w1 wA) := HK.out.trans (hbA.mono HK.out.size)
      clear hbA p0 p1 p2 HS6
      have n0 := HT.out.cell 18
      have nf0 := HT.out.frozen 18
      have k00 := HKb.out.cell 6
      have kf0 := HKb.out.frozen 6
      simp only [List.getElem?_toArray, List.getElem?_cons_zero, List.getElem?_cons_succ] at n0 k00
      go_upto_region 15 with fail
      have hT9 : Bk ((wA.setCell ⟨Tb, 18, none⟩ (.int .i64 v6)).setCell ⟨Kb, 6, none⟩ (.bool k6)) Tb (txc (⟨v0, v1, x2, x3, x4, x5, v6, [], []⟩ : TX) (.slice none 0 0) (.slice none 0 0)) 30 := (HT.out.set 18 (.int .i64 v6) rfl).other (a := ⟨Kb, 6, none⟩) hTK _
      have hKb9 : Bk ((wA.setCell ⟨Tb, 18, none⟩ (.int .i64 v6)).setCell ⟨Kb, 6, none⟩ (.bool k6)) Kb #[.bool k0, .bool k1, .bool k2, .bool k3, .bool k4, .bool k5, .bool k6] 76 := (HKb.out.other (a := ⟨Tb, 18, none⟩) (Ne.symm hTK) _).set 6 (.bool k6) rfl
      have hK9 : Below w1.heap.size w1 ((wA.setCell ⟨Tb, 18, none⟩ (.int .i64 v6)).setCell ⟨Kb, 6, none⟩ (.bool k6)) := (HK.out.setCell (p := ⟨Tb, 18, none⟩) h1T _).setCell (p := ⟨Kb, 6, none⟩) h1K _
      clear HT HKb HK n0 nf0 k00 kf0
      generalize ((wA.setCell ⟨Tb, 18, none⟩ (.int .i64 v6)).setCell ⟨Kb, 6, none⟩ (.bool k6)) = X6 at *
      have HT : Hid (Bk X6 Tb (txc (⟨v0, v1, x2, x3, x4, x5, v6, [], []⟩ : TX) (.slice none 0 0) (.slice none 0 0)) 30) := hT9
      have HKb : Hid (Bk X6 Kb #[.bool k0, .bool k1, .bool k2, .bool k3, .bool k4, .bool k5, .bool k6] 76) := hKb9
      have HK : Hid (Below w1.heap.size w1 X6) := hK9
      clear hT9 hKb9 hK9
      go_wp2_with fail
      go_loopw [11] (fun i wq => ∃ j : Nat, j ≤ 7 ∧ i = .int .i64 j ∧ ((0 < j → k0 = true) ∧ (1 < j → k1 = true) ∧ (2 < j → k2 = true) ∧ (3 < j → k3 = true) ∧ (4 < j → k4 = true) ∧ (5 < j → k5 = true) ∧ (6 < j → k6 = true)) ∧ Bk wq Tb (txc (⟨v0, v1, x2, x3, x4, x5, v6, [], []⟩ : TX) (.slice none 0 0) (.slice none 0 0)) 30 ∧ Bk wq Kb #[.bool k0, .bool k1, .bool k2, .bool k3, .bool k4, .bool k5, .bool k6] 76 ∧ Below w1.heap.size w1 wq) (fun i _ => 7 - (intOf i).toNat)
      case atStart => exact ⟨0, by omega, rfl, ⟨fun h => absurd h (by omega), fun h => absurd h (by omega), fun h => absurd h (by omega), fun h => absurd h (by omega), fun h => absurd h (by omega), fun h => absurd h (by omega), fun h => absurd h (by omega)⟩, HT.out, HKb.out, HK.out⟩
      case round =>
        clear HT HKb HK
        obtain ⟨j, hj, rfl, hka, hT, hKb, hK⟩ := hrel
        have HKA : Hid ((0 < j → k0 = true) ∧ (1 < j → k1 = true) ∧ (2 < j → k2 = true) ∧ (3 < j → k3 = true) ∧ (4 < j → k4 = true) ∧ (5 < j → k5 = true) ∧ (6 < j → k6 = true)) := hka
        have HT : Hid (Bk wr Tb (txc (⟨v0, v1, x2, x3, x4, x5, v6, [], []⟩ : TX) (.slice none 0 0) (.slice none 0 0)) 30) := hT
        have HKb : Hid (Bk wr Kb #[.bool k0, .bool k1, .bool k2, .bool k3, .bool k4, .bool k5, .bool k6] 76) := hKb
        have HK : Hid (Below w1.heap.size w1 wr) := hK
        clear hka hT hKb hK
        have hc8 : j = 0 ∨ j = 1 ∨ j = 2 ∨ j = 3 ∨ j = 4 ∨ j = 5 ∨ j = 6 ∨ j = 7 := by omega
        rcases hc8 with rfl | rfl | rfl | rfl | rfl | rfl | rfl | rfl
        · have kc := HKb.out.cell 0
          simp only [List.getElem?_toArray, List.getElem?_cons_zero, List.getElem?_cons_succ] at kc
          cases k0 with
          | true =>
            go_wp2_with fail
            go_roundw
            case rel => exact ⟨1, by omega, by first | rfl | go_num, ⟨fun _ => by first | rfl | trivial, fun h => absurd h (by omega), fun h => absurd h (by omega), fun h => absurd h (by omega), fun h => absurd h (by omega), fun h => absurd h (by omega), fun h => absurd h (by omega)⟩, HT.out, HKb.out, HK.out⟩
            case measure => simp [intOf]
          | false =>
            have hno : ¬ tkOk s := fun h => absurd (HKs.out.1 (HPg.out.1 h).2.1).1 (by decide)
            have HRZ2 : Hid (Bk wr R z21 30 ∧ Bk wr Z (txc zTX (.slice none 0 0) (.slice none 0 0)) 30) := ⟨HRZ.out.1.below HK.out HRw.out.2.2.1, HRZ.out.2.below HK.out HRw.out.2.2.2⟩
            have HB2 : Hid (Below w.heap.size w wr) := HB.out.trans (HK.out.mono HB.out.size)
            have HR0 : Hid (w.heap.size ≤ R) := HRw.out.1
            clear HVs HKs HPg HC
            have HV : Hid (tkT s = zTX ∧ decide (tkOk s) = false) := (fun h : ¬ tkOk s => ⟨if_neg h, decide_eq_false h⟩) hno
            go_wp2_with (first
              | (refine wpList_load_tx rfl _ rfl rfl HRZ2.out.2 ?_)
              | (refine wpList_store_tx (t := zTX) (aH := none) (aB := none) (nH := 0) (cH := 0) (nB := 0) (cB := 0) rfl _ _ rfl rfl rfl HRZ2.out.1 rfl ?_; intro WF hSF))
            have hld := run_loadVar_mid (P := Try.prog) WF R 0 30 (txc zTX (.slice none 0 0) (.slice none 0 0)).toList _ (fun j x hx => by rw [Nat.zero_add, hSF.bR.cell]; simpa using hx) Try.underlying30 rfl infoT
            refine bodyPost_ret (v := .tuple #[.agg (txc zTX (.slice none 0 0) (.slice none 0 0)), .bool false]) ?_ rfl ⟨⟨none, 0, none, 0, by rw [HV.out.1, HV.out.2]; rfl, by rw [HV.out.1]; exact ⟨Or.nil _ _ _ _, Or.nil _ _ _ _⟩⟩, hSF.below _ _ HR0.out HB2.out⟩
            simp only [results, Try.results12, Act.put]
            simp [asAddr, hld]
        · have kc := HKb.out.cell 1
          simp only [List.getElem?_toArray, List.getElem?_cons_zero, List.getElem?_cons_succ] at kc
          cases k1 with
          | true =>
            go_wp2_with fail
            go_roundw
            case rel => exact ⟨2, by omega, by first | rfl | go_num, ⟨fun _ => HKA.out.1 (by omega), fun _ => by first | rfl | trivial, fun h => absurd h (by omega), fun h => absurd h (by omega), fun h => absurd h (by omega), fun h => absurd h (by omega), fun h => absurd h (by omega)⟩, HT.out, HKb.out, HK.out⟩
            case measure => simp [intOf]
          | false =>
            have hno : ¬ tkOk s := fun h => absurd (HKs.out.1 (HPg.out.1 h).2.1).2.1 (by decide)
            have HRZ2 : Hid (Bk wr R z21 30 ∧ Bk wr Z (txc zTX (.slice none 0 0) (.slice none 0 0)) 30) := ⟨HRZ.out.1.below HK.out HRw.out.2.2.1, HRZ.out.2.below HK.out HRw.out.2.2.2⟩
            have HB2 : Hid (Below w.heap.size w wr) := HB.out.trans (HK.out.mono HB.out.size)
            have HR0 : Hid (w.heap.size ≤ R) := HRw.out.1
            clear HVs HKs HPg HC
            have HV : Hid (tkT s = zTX ∧ decide (tkOk s) = false) := (fun h : ¬ tkOk s => ⟨if_neg h, decide_eq_false h⟩) hno
            go_wp2_with (first
              | (refine wpList_load_tx rfl _ rfl rfl HRZ2.out.2 ?_)
              | (refine wpList_store_tx (t := zTX) (aH := none) (aB := none) (nH := 0) (cH := 0) (nB := 0) (cB := 0) rfl _ _ rfl rfl rfl HRZ2.out.1 rfl ?_; intro WF hSF))
            have hld := run_loadVar_mid (P := Try.prog) WF R 0 30 (txc zTX (.slice none 0 0) (.slice none 0 0)).toList _ (fun j x hx => by rw [Nat.zero_add, hSF.bR.cell]; simpa using hx) Try.underlying30 rfl infoT
            refine bodyPost_ret (v := .tuple #[.agg (txc zTX (.slice none 0 0) (.slice none 0 0)), .bool false]) ?_ rfl ⟨⟨none, 0, none, 0, by rw [HV.out.1, HV.out.2]; rfl, by rw [HV.out.1]; exact ⟨Or.nil _ _ _ _, Or.nil _ _ _ _⟩⟩, hSF.below _ _ HR0.out HB2.out⟩
            simp only [results, Try.results12, Act.put]
            simp [asAddr, hld]
        · have kc := HKb.out.cell 2
          simp only [List.getElem?_toArray, List.getElem?_cons_zero, List.getElem?_cons_succ] at kc
          cases k2 with
          | true =>
            go_wp2_with fail
            go_roundw
            case rel => exact ⟨3, by omega, by first | rfl | go_num, ⟨fun _ => HKA.out.1 (by omega), fun _ => HKA.out.2.1 (by omega), fun _ => by first | rfl | trivial, fun h => absurd h (by omega), fun h => absurd h (by omega), fun h => absurd h (by omega), fun h => absurd h (by omega)⟩, HT.out, HKb.out, HK.out⟩
            case measure => simp [intOf]
          | false =>
            have hno : ¬ tkOk s := fun h => absurd (HKs.out.1 (HPg.out.1 h).2.1).2.2.1 (by decide)
            have HRZ2 : Hid (Bk wr R z21 30 ∧ Bk wr Z (txc zTX (.slice none 0 0) (.slice none 0 0)) 30) := ⟨HRZ.out.1.below HK.out HRw.out.2.2.1, HRZ.out.2.below HK.out HRw.out.2.2.2⟩
            have HB2 : Hid (Below w.heap.size w wr) := HB.out.trans (HK.out.mono HB.out.size)
            have HR0 : Hid (w.heap.size ≤ R) := HRw.out.1
            clear HVs HKs HPg HC
            have HV : Hid (tkT s = zTX ∧ decide (tkOk s) = false) := (fun h : ¬ tkOk s => ⟨if_neg h, decide_eq_false h⟩) hno
            go_wp2_with (first
              | (refine wpList_load_tx rfl _ rfl rfl HRZ2.out.2 ?_)
              | (refine wpList_store_tx (t := zTX) (aH := none) (aB := none) (nH := 0) (cH := 0) (nB := 0) (cB := 0) rfl _ _ rfl rfl rfl HRZ2.out.1 rfl ?_; intro WF hSF))
            have hld := run_loadVar_mid (P := Try.prog) WF R 0 30 (txc zTX (.slice none 0 0) (.slice none 0 0)).toList _ (fun j x hx => by rw [Nat.zero_add, hSF.bR.cell]; simpa using hx) Try.underlying30 rfl infoT
            refine bodyPost_ret (v := .tuple #[.agg (txc zTX (.slice none 0 0) (.slice none 0 0)), .bool false]) ?_ rfl ⟨⟨none, 0, none, 0, by rw [HV.out.1, HV.out.2]; rfl, by rw [HV.out.1]; exact ⟨Or.nil _ _ _ _, Or.nil _ _ _ _⟩⟩, hSF.below _ _ HR0.out HB2.out⟩
            simp only [results, Try.results12, Act.put]
            simp [asAddr, hld]
        · have kc := HKb.out.cell 3
          simp only [List.getElem?_toArray, List.getElem?_cons_zero, List.getElem?_cons_succ] at kc
          cases k3 with
          | true =>
            go_wp2_with fail
            go_roundw
            case rel => exact ⟨4, by omega, by first | rfl | go_num, ⟨fun _ => HKA.out.1 (by omega), fun _ => HKA.out.2.1 (by omega), fun _ => HKA.out.2.2.1 (by omega), fun _ => by first | rfl | trivial, fun h => absurd h (by omega), fun h => absurd h (by omega), fun h => absurd h (by omega)⟩, HT.out, HKb.out, HK.out⟩
            case measure => simp [intOf]
          | false =>
            have hno : ¬ tkOk s := fun h => absurd (HKs.out.1 (HPg.out.1 h).2.1).2.2.2.1 (by decide)
            have HRZ2 : Hid (Bk wr R z21 30 ∧ Bk wr Z (txc zTX (.slice none 0 0) (.slice none 0 0)) 30) := ⟨HRZ.out.1.below HK.out HRw.out.2.2.1, HRZ.out.2.below HK.out HRw.out.2.2.2⟩
            have HB2 : Hid (Below w.heap.size w wr) := HB.out.trans (HK.out.mono HB.out.size)
            have HR0 : Hid (w.heap.size ≤ R) := HRw.out.1
            clear HVs HKs HPg HC
            have HV : Hid (tkT s = zTX ∧ decide (tkOk s) = false) := (fun h : ¬ tkOk s => ⟨if_neg h, decide_eq_false h⟩) hno
            go_wp2_with (first
              | (refine wpList_load_tx rfl _ rfl rfl HRZ2.out.2 ?_)
              | (refine wpList_store_tx (t := zTX) (aH := none) (aB := none) (nH := 0) (cH := 0) (nB := 0) (cB := 0) rfl _ _ rfl rfl rfl HRZ2.out.1 rfl ?_; intro WF hSF))
            have hld := run_loadVar_mid (P := Try.prog) WF R 0 30 (txc zTX (.slice none 0 0) (.slice none 0 0)).toList _ (fun j x hx => by rw [Nat.zero_add, hSF.bR.cell]; simpa using hx) Try.underlying30 rfl infoT
            refine bodyPost_ret (v := .tuple #[.agg (txc zTX (.slice none 0 0) (.slice none 0 0)), .bool false]) ?_ rfl ⟨⟨none, 0, none, 0, by rw [HV.out.1, HV.out.2]; rfl, by rw [HV.out.1]; exact ⟨Or.nil _ _ _ _, Or.nil _ _ _ _⟩⟩, hSF.below _ _ HR0.out HB2.out⟩
            simp only [results, Try.results12, Act.put]
            simp [asAddr, hld]
        · have kc := HKb.out.cell 4
          simp only [List.getElem?_toArray, List.getElem?_cons_zero, List.getElem?_cons_succ] at kc
          cases k4 with
          | true =>
            go_wp2_with fail
            go_roundw
            case rel => exact ⟨5, by omega, by first | rfl | go_num, ⟨fun _ => HKA.out.1 (by omega), fun _ => HKA.out.2.1 (by omega), fun _ => HKA.out.2.2.1 (by omega), fun _ => HKA.out.2.2.2.1 (by omega), fun _ => by first | rfl | trivial, fun h => absurd h (by omega), fun h => absurd h (by omega)⟩, HT.out, HKb.out, HK.out⟩
            case measure => simp [intOf]
          | false =>
            have hno : ¬ tkOk s := fun h => absurd (HKs.out.1 (HPg.out.1 h).2.1).2.2.2.2.1 (by decide)
            have HRZ2 : Hid (Bk wr R z21 30 ∧ Bk wr Z (txc zTX (.slice none 0 0) (.slice none 0 0)) 30) := ⟨HRZ.out.1.below HK.out HRw.out.2.2.1, HRZ.out.2.below HK.out HRw.out.2.2.2⟩
            have HB2 : Hid (Below w.heap.size w wr) := HB.out.trans (HK.out.mono HB.out.size)
            have HR0 : Hid (w.heap.size ≤ R) := HRw.out.1
            clear HVs HKs HPg HC
            have HV : Hid (tkT s = zTX ∧ decide (tkOk s) = false) := (fun h : ¬ tkOk s => ⟨if_neg h, decide_eq_false h⟩) hno
            go_wp2_with (first
              | (refine wpList_load_tx rfl _ rfl rfl HRZ2.out.2 ?_)
              | (refine wpList_store_tx (t := zTX) (aH := none) (aB := none) (nH := 0) (cH := 0) (nB := 0) (cB := 0) rfl _ _ rfl rfl rfl HRZ2.out.1 rfl ?_; intro WF hSF))
            have hld := run_loadVar_mid (P := Try.prog) WF R 0 30 (txc zTX (.slice none 0 0) (.slice none 0 0)).toList _ (fun j x hx => by rw [Nat.zero_add, hSF.bR.cell]; simpa using hx) Try.underlying30 rfl infoT
            refine bodyPost_ret (v := .tuple #[.agg (txc zTX (.slice none 0 0) (.slice none 0 0)), .bool false]) ?_ rfl ⟨⟨none, 0, none, 0, by rw [HV.out.1, HV.out.2]; rfl, by rw [HV.out.1]; exact ⟨Or.nil _ _ _ _, Or.nil _ _ _ _⟩⟩, hSF.below _ _ HR0.out HB2.out⟩
            simp only [results, Try.results12, Act.put]
            simp [asAddr, hld]
        · have kc := HKb.out.cell 5
          simp only [List.getElem?_toArray, List.getElem?_cons_zero, List.getElem?_cons_succ] at kc
          cases k5 with
          | true =>
            go_wp2_with fail
            go_roundw
            case rel => exact ⟨6, by omega, by first | rfl | go_num, ⟨fun _ => HKA.out.1 (by omega), fun _ => HKA.out.2.1 (by omega), fun _ => HKA.out.2.2.1 (by omega), fun _ => HKA.out.2.2.2.1 (by omega), fun _ => HKA.out.2.2.2.2.1 (by omega), fun _ => by first | rfl | trivial, fun h => absurd h (by omega)⟩, HT.out, HKb.out, HK.out⟩
            case measure => simp [intOf]
          | false =>
            have hno : ¬ tkOk s := fun h => absurd (HKs.out.1 (HPg.out.1 h).2.1).2.2.2.2.2.1 (by decide)
            have HRZ2 : Hid (Bk wr R z21 30 ∧ Bk wr Z (txc zTX (.slice none 0 0) (.slice none 0 0)) 30) := ⟨HRZ.out.1.below HK.out HRw.out.2.2.1, HRZ.out.2.below HK.out HRw.out.2.2.2⟩
            have HB2 : Hid (Below w.heap.size w wr) := HB.out.trans (HK.out.mono HB.out.size)
            have HR0 : Hid (w.heap.size ≤ R) := HRw.out.1
            clear HVs HKs HPg HC
            have HV : Hid (tkT s = zTX ∧ decide (tkOk s) = false) := (fun h : ¬ tkOk s => ⟨if_neg h, decide_eq_false h⟩) hno
            go_wp2_with (first
              | (refine wpList_load_tx rfl _ rfl rfl HRZ2.out.2 ?_)
              | (refine wpList_store_tx (t := zTX) (aH := none) (aB := none) (nH := 0) (cH := 0) (nB := 0) (cB := 0) rfl _ _ rfl rfl rfl HRZ2.out.1 rfl ?_; intro WF hSF))
            have hld := run_loadVar_mid (P := Try.prog) WF R 0 30 (txc zTX (.slice none 0 0) (.slice none 0 0)).toList _ (fun j x hx => by rw [Nat.zero_add, hSF.bR.cell]; simpa using hx) Try.underlying30 rfl infoT
            refine bodyPost_ret (v := .tuple #[.agg (txc zTX (.slice none 0 0) (.slice none 0 0)), .bool false]) ?_ rfl ⟨⟨none, 0, none, 0, by rw [HV.out.1, HV.out.2]; rfl, by rw [HV.out.1]; exact ⟨Or.nil _ _ _ _, Or.nil _ _ _ _⟩⟩, hSF.below _ _ HR0.out HB2.out⟩
            simp only [results, Try.results12, Act.put]
            simp [asAddr, hld]
        · have kc := HKb.out.cell 6
          simp only [List.getElem?_toArray, List.getElem?_cons_zero, List.getElem?_cons_succ] at kc
          cases k6 with
          | true =>
            go_wp2_with fail
            go_roundw
            case rel => exact ⟨7, by omega, by first | rfl | go_num, ⟨fun _ => HKA.out.1 (by omega), fun _ => HKA.out.2.1 (by omega), fun _ => HKA.out.2.2.1 (by omega), fun _ => HKA.out.2.2.2.1 (by omega), fun _ => HKA.out.2.2.2.2.1 (by omega), fun _ => HKA.out.2.2.2.2.2.1 (by omega), fun _ => by first | rfl | trivial⟩, HT.out, HKb.out, HK.out⟩
            case measure => simp [intOf]
          | false =>
            have hno : ¬ tkOk s := fun h => absurd (HKs.out.1 (HPg.out.1 h).2.1).2.2.2.2.2.2 (by decide)
            have HRZ2 : Hid (Bk wr R z21 30 ∧ Bk wr Z (txc zTX (.slice none 0 0) (.slice none 0 0)) 30) := ⟨HRZ.out.1.below HK.out HRw.out.2.2.1, HRZ.out.2.below HK.out HRw.out.2.2.2⟩
            have HB2 : Hid (Below w.heap.size w wr) := HB.out.trans (HK.out.mono HB.out.size)
            have HR0 : Hid (w.heap.size ≤ R) := HRw.out.1
            clear HVs HKs HPg HC
            have HV : Hid (tkT s = zTX ∧ decide (tkOk s) = false) := (fun h : ¬ tkOk s => ⟨if_neg h, decide_eq_false h⟩) hno
            go_wp2_with (first
              | (refine wpList_load_tx rfl _ rfl rfl HRZ2.out.2 ?_)
              | (refine wpList_store_tx (t := zTX) (aH := none) (aB := none) (nH := 0) (cH := 0) (nB := 0) (cB := 0) rfl _ _ rfl rfl rfl HRZ2.out.1 rfl ?_; intro WF hSF))
            have hld := run_loadVar_mid (P := Try.prog) WF R 0 30 (txc zTX (.slice none 0 0) (.slice none 0 0)).toList _ (fun j x hx => by rw [Nat.zero_add, hSF.bR.cell]; simpa using hx) Try.underlying30 rfl infoT
            refine bodyPost_ret (v := .tuple #[.agg (txc zTX (.slice none 0 0) (.slice none 0 0)), .bool false]) ?_ rfl ⟨⟨none, 0, none, 0, by rw [HV.out.1, HV.out.2]; rfl, by rw [HV.out.1]; exact ⟨Or.nil _ _ _ _, Or.nil _ _ _ _⟩⟩, hSF.below _ _ HR0.out HB2.out⟩
            simp only [results, Try.results12, Act.put]
            simp [asAddr, hld]
        · have hB : pgB xs := HKs.out.2 ⟨HKA.out.1 (by omega), HKA.out.2.1 (by omega), HKA.out.2.2.1 (by omega), HKA.out.2.2.2.1 (by omega), HKA.out.2.2.2.2.1 (by omega), HKA.out.2.2.2.2.2.1 (by omega), HKA.out.2.2.2.2.2.2 (by omega)⟩
          have HPB : Hid (pgB xs) := hB
          clear HKA HKs HKb hB
          rw [show ((7 : Nat) : Int) = (7 : Int) from rfl]
          obtain ⟨a7, l7, c7, -, -, p2, r7⟩ := HC.out 7 (by omega)
          obtain ⟨m7, -, ad7, cp7, hv7, hyl, hat⟩ := r7.at
          simp only [Value.slice.injEq] at hv7
          obtain ⟨rfl, rfl, rfl⟩ := hv7
          have HS7 : Hid (∀ y ∈ (atI xs 7).items, y.text.size ≤ 1048576) := (HSm.out HA2.out 7 (by omega)).1
          have hy7 := (HSm.out HA2.out 7 (by omega)).2
          obtain ⟨ys, hys⟩ : ∃ ys, ys = (atI xs 7).items := ⟨_, rfl⟩
          have HYs : Hid (ys = (atI xs 7).items) := hys
          rw [← hys] at p2 hyl hat HS7 hy7
          clear hys r7
          simp only [Nat.reduceMul] at p2
          have HP2 : Hid (w1.cell? ⟨b, off + 21 + 2, none⟩ = some (.slice a7 ys.length c7)) := p2
          have HYt : Hid (∀ i (hi : i < ys.length), ∃ b off, a7 = some ⟨b, off, none⟩ ∧ b < w1.heap.size ∧ ∃ a l c, w1.cell? ⟨b, off + i * 3, none⟩ = some (.bool ys[i].list) ∧ w1.cell? ⟨b, off + i * 3 + 1, none⟩ = some (.string ys[i].text) ∧ w1.cell? ⟨b, off + i * 3 + 2, none⟩ = some (.slice a l c) ∧ RdP w1 (· < w1.heap.size) m7 ys[i].items (.slice a l c)) := hat
          clear p2 hat
          go_wp2_with fail
          go_loopw [12] (fun i wq => ∃ (j : Nat) (u : Value), j ≤ ys.length ∧ i = .int .i64 j ∧ Bk wq Tb (txc (⟨v0, v1, x2, x3, x4, x5, v6, [], []⟩ : TX) u (.slice none 0 0)) 30 ∧ Or 24 cU wq w1.heap.size u ((ys.take j).map fun y => mtV y.text) ∧ (∀ y ∈ ys.take j, y.text.size = 8) ∧ Below w1.heap.size w1 wq) (fun i _ => ys.length - (intOf i).toNat)
          case atStart => exact ⟨0, _, by omega, rfl, HT.out, by simpa using Or.nil _ _ _ _, fun y hy => by simp at hy, HK.out⟩
          case round =>
            clear HT HK
            obtain ⟨j, u, hj, rfl, hT, hO, hall, hK⟩ := hrel
            have HT : Hid (Bk wr Tb (txc (⟨v0, v1, x2, x3, x4, x5, v6, [], []⟩ : TX) u (.slice none 0 0)) 30) := hT
            have HK : Hid (Below w1.heap.size w1 wr) := hK
            have HAll : Hid (∀ y ∈ ys.take j, y.text.size = 8) := hall
            have HO : Hid (Or 24 cU wr w1.heap.size u ((ys.take j).map fun y => mtV y.text)) := hO
            clear hT hK hall hO
            have p2 := (HK.out.cell (p := ⟨b, off + 21 + 2, none⟩) hbl).trans HP2.out
            by_cases hjl : j < ys.length
            · have hjl' : (j : Int) < (ys.length : Int) := by omega
              obtain ⟨by_, oy, rfl, hbyl, -, -, -, -, q1, -, -⟩ := HYt.out j hjl
              replace q1 := (HK.out.cell (p := ⟨by_, oy + j * 3 + 1, none⟩) hbyl).trans q1
              have hm8 := HS7.out ys[j] (List.getElem_mem hjl)
              have hlen : ((ys.take j).map fun y => mtV y.text).length = j := by simp; omega
              obtain ⟨aU, cU2, rfl, -⟩ := HO.out.shape
              rw [hlen] at HO HT
              have etk : ys.take (j + 1) = ys.take j ++ [ys[j]] := by rw [List.take_add_one, List.getElem?_eq_getElem hjl]; rfl
              have HEt : Hid (ys.take (j + 1) = ys.take j ++ [ys[j]]) := etk
              have HMem : Hid (ys[j] ∈ ys) := List.getElem_mem hjl
              clear etk
              generalize hyj : ys[j] = yj at *
              clear hyj
              go_wp2_with fail
              refine (rmtake yj.text (by omega) _).mono ?_
              rintro e wA ⟨rfl, hbA⟩
              replace HT : Hid (Bk wA Tb (txc (⟨v0, v1, x2, x3, x4, x5, v6, [], []⟩ : TX) (.slice aU j cU2) (.slice none 0 0)) 30) := HT.out.below hbA HT.out.lt
              replace HO : Hid (Or 24 cU wA w1.heap.size (.slice aU j cU2) ((ys.take j).map fun y => mtV y.text)) := HO.out.below' hbA
              replace HK : Hid (Below w1.heap.size w1 wA) := HK.out.trans (hbA.mono HK.out.size)
              clear hbA p2 q1
              by_cases h8 : yj.text.size = 8
              · rw [show (yj.text.size == 8) = true by rw [h8]; rfl]
                have H8 : Hid (yj.text.size = 8) := h8
                clear h8 hm8
                have hmv := mtV_lt yj.text
                have c19 := HT.out.cell 19
                simp only [List.getElem?_toArray, List.getElem?_cons_zero, List.getElem?_cons_succ] at c19
                have hown : wA.ownsRow w1.heap.size 24 1 (.slice aU j cU2) j (((ys.take j).map fun y => mtV y.text).map cU) := by have := HO.out; unfold Or at this; rw [hlen] at this; exact this
                have hzw := HK.out.size
                go_wp2_with (at_builtin; refine wpList_append_own _ rfl _ _ 27 rfl w1.heap.size 24 iU (.int .u64 0) 1 8 Try.underlying27 HIU.out.1 HIU.out.2.1 HIU.out.2.2.1 HIU.out.2.2.2 rfl (by decide) _ j _ rfl (hown.alloc _) ⟨wA.heap.size, 0, none⟩ 1 1 [cU (mtV yj.text)] rfl rfl (cell_one_new _ _ _) (by simp [Value.oneCell']) (by unfold maxLen; omega) (by omega) (by simp; omega) ?_; intro v1 w3 hown1 hgrow1 hnil1; obtain ⟨aN, cN, rfl⟩ := own_shp8 hown1; obtain ⟨hX3, hO3, hne3, hB3⟩ := row_push (x := mtV yj.text) (HO.out.alloc _) (HT.out.alloc _) (by decide) (by rw [hlen]; exact hown1) hgrow1 (by simp; omega) (HK.out.alloc HK.out.size _); have c19 := hX3.cell 19; have f19 := hX3.frozen 19; simp only [List.getElem?_toArray, List.getElem?_cons_zero, List.getElem?_cons_succ] at c19; have lX := hX3.lt)
                go_roundw
                case rel =>
                  refine ⟨j + 1, .slice aN (j + 1) cN, by omega, by go_num, hX3.set 19 _ rfl, ?_, fun y hy => ?_, hB3.setCell (p := ⟨Tb, 19, none⟩) h1T _⟩
                  · rw [HEt.out, List.map_append]
                    exact hO3.other ⟨Tb, 19, none⟩ _ (.inr hne3)
                  · rw [HEt.out] at hy
                    rcases List.mem_append.1 hy with h | h
                    · exact HAll.out y h
                    · simp at h; rw [h]; exact H8.out
                case measure => simp [intOf]; omega
              · rw [show (yj.text.size == 8) = false by rw [beq_eq_false_iff_ne]; exact h8]
                have hno : ¬ tkOk s := fun h => h8 ((HPg.out.1 h).2.2.1 yj (by rw [← HYs.out]; exact HMem.out))
                have HRZ2 : Hid (Bk wA R z21 30 ∧ Bk wA Z (txc zTX (.slice none 0 0) (.slice none 0 0)) 30) := ⟨HRZ.out.1.below HK.out HRw.out.2.2.1, HRZ.out.2.below HK.out HRw.out.2.2.2⟩
                have HB2 : Hid (Below w.heap.size w wA) := HB.out.trans (HK.out.mono HB.out.size)
                have HR0 : Hid (w.heap.size ≤ R) := HRw.out.1
                clear h8 hm8 HYs HS7 HPg HSm HVs HPB HC HMem HAll HEt
                have HV : Hid (tkT s = zTX ∧ decide (tkOk s) = false) := (fun h : ¬ tkOk s => ⟨if_neg h, decide_eq_false h⟩) hno
                go_wp2_with (first
                  | (refine wpList_load_tx rfl _ rfl rfl HRZ2.out.2 ?_)
                  | (refine wpList_store_tx (t := zTX) (aH := none) (aB := none) (nH := 0) (cH := 0) (nB := 0) (cB := 0) rfl _ _ rfl rfl rfl HRZ2.out.1 rfl ?_; intro WF hSF))
                have hld := run_loadVar_mid (P := Try.prog) WF R 0 30 (txc zTX (.slice none 0 0) (.slice none 0 0)).toList _ (fun j x hx => by rw [Nat.zero_add, hSF.bR.cell]; simpa using hx) Try.underlying30 rfl infoT
                refine bodyPost_ret (v := .tuple #[.agg (txc zTX (.slice none 0 0) (.slice none 0 0)), .bool false]) ?_ rfl ⟨⟨none, 0, none, 0, by rw [HV.out.1, HV.out.2]; rfl, by rw [HV.out.1]; exact ⟨Or.nil _ _ _ _, Or.nil _ _ _ _⟩⟩, hSF.below _ _ HR0.out HB2.out⟩
                simp only [results, Try.results12, Act.put]
                simp [asAddr, hld]
            · have hjl' : ¬ (j : Int) < (ys.length : Int) := by omega
              obtain rfl : j = ys.length := by omega
              have hCC : pgC xs := fun y hy => HAll.out y (by rw [List.take_length]; rw [HYs.out]; exact hy)
              have HPC : Hid (pgC xs) := hCC
              have HO7 : Hid (Or 24 cU wr w1.heap.size u ((atI xs 7).items.map fun y => mtV y.text)) := by show Or _ _ _ _ _ _; have := HO.out; rw [List.take_length, HYs.out] at this; exact this
              clear hCC HAll HO HYt HS7
              obtain ⟨aU, cU2, rfl, -⟩ := HO7.out.shape
              obtain ⟨nU, hnU⟩ : ∃ n, n = ((atI xs 7).items.map fun y => mtV y.text).length := ⟨_, rfl⟩
              rw [← hnU] at HO7 HT
              have HNU : Hid (nU = ((atI xs 7).items.map fun y => mtV y.text).length) := hnU
              clear hnU
              obtain ⟨a8, l8, c8, -, -, p3, r8⟩ := HC.out 8 (by omega)
              obtain ⟨m8, -, ad8, cp8, hv8, hzl, hat⟩ := r8.at
              simp only [Value.slice.injEq] at hv8
              obtain ⟨rfl, rfl, rfl⟩ := hv8
              obtain ⟨hS8, hz8⟩ := HSm.out HA2.out 8 (by omega)
              obtain ⟨zs, hzs⟩ : ∃ zs, zs = (atI xs 8).items := ⟨_, rfl⟩
              have HZs : Hid (zs = (atI xs 8).items) := hzs
              rw [← hzs] at p3 hzl hat hS8 hz8
              clear hzs r8
              have HS8 : Hid (∀ y ∈ zs, y.text.size ≤ 1048576) := hS8
              clear hS8
              simp only [Nat.reduceMul] at p3
              have HP3 : Hid (w1.cell? ⟨b, off + 24 + 2, none⟩ = some (.slice a8 zs.length c8)) := p3
              have HZt : Hid (∀ i (hi : i < zs.length), ∃ b off, a8 = some ⟨b, off, none⟩ ∧ b < w1.heap.size ∧ ∃ a l c, w1.cell? ⟨b, off + i * 3, none⟩ = some (.bool zs[i].list) ∧ w1.cell? ⟨b, off + i * 3 + 1, none⟩ = some (.string zs[i].text) ∧ w1.cell? ⟨b, off + i * 3 + 2, none⟩ = some (.slice a l c) ∧ RdP w1 (· < w1.heap.size) m8 zs[i].items (.slice a l c)) := hat
              clear p3 hat
              have p2 := (HK.out.cell (p := ⟨b, off + 21 + 2, none⟩) hbl).trans HP2.out
              go_wp2_with fail
              clear p2 HP2
              go_loopw [15] (fun i wq => ∃ (j : Nat) (v : Value), j ≤ zs.length ∧ i = .int .i64 j ∧ Bk wq Tb (txc (⟨v0, v1, x2, x3, x4, x5, v6, [], []⟩ : TX) (.slice aU nU cU2) v) 30 ∧ Or 24 cU wq w1.heap.size (.slice aU nU cU2) ((atI xs 7).items.map fun y => mtV y.text) ∧ Or 9 cS wq w1.heap.size v ((zs.take j).map fun y => y.text) ∧ (∀ y ∈ zs.take j, y.list = false) ∧ Below w1.heap.size w1 wq) (fun i _ => zs.length - (intOf i).toNat)
              case atStart => exact ⟨0, _, by omega, rfl, HT.out, HO7.out, by simpa using Or.nil _ _ _ _, fun y hy => by simp at hy, HK.out⟩
              case round =>
                clear HT HK HO7
                obtain ⟨j, v, hj, rfl, hT, hO7, hO, hall, hK⟩ := hrel
                have HT : Hid (Bk wr Tb (txc (⟨v0, v1, x2, x3, x4, x5, v6, [], []⟩ : TX) (.slice aU nU cU2) v) 30) := hT
                have HK : Hid (Below w1.heap.size w1 wr) := hK
                have HAll : Hid (∀ y ∈ zs.take j, y.list = false) := hall
                have HO7 : Hid (Or 24 cU wr w1.heap.size (.slice aU nU cU2) ((atI xs 7).items.map fun y => mtV y.text)) := hO7
                have HO : Hid (Or 9 cS wr w1.heap.size v ((zs.take j).map fun y => y.text)) := hO
                clear hT hK hall hO hO7
                have p3 := (HK.out.cell (p := ⟨b, off + 24 + 2, none⟩) hbl).trans HP3.out
                by_cases hjl : j < zs.length
                · have hjl' : (j : Int) < (zs.length : Int) := by omega
                  obtain ⟨bz, oz, rfl, hbzl, -, -, -, q0, q1, -, -⟩ := HZt.out j hjl
                  have HQ1 : Hid (w1.cell? ⟨bz, oz + j * 3 + 1, none⟩ = some (.string zs[j].text)) := q1
                  replace q0 := (HK.out.cell (p := ⟨bz, oz + j * 3, none⟩) hbzl).trans q0
                  replace q1 := (HK.out.cell (p := ⟨bz, oz + j * 3 + 1, none⟩) hbzl).trans q1
                  have hlen : ((zs.take j).map fun y => y.text).length = j := by simp; omega
                  obtain ⟨aV, cV2, rfl, -⟩ := HO.out.shape
                  rw [hlen] at HO HT
                  have etk : zs.take (j + 1) = zs.take j ++ [zs[j]] := by rw [List.take_add_one, List.getElem?_eq_getElem hjl]; rfl
                  have HEt : Hid (zs.take (j + 1) = zs.take j ++ [zs[j]]) := etk
                  have HMem : Hid (zs[j] ∈ zs) := List.getElem_mem hjl
                  clear etk
                  generalize hyj : zs[j] = yj at *
                  clear hyj
                  cases hyl2 : yj.list with
                  | true =>
                    rw [hyl2] at q0
                    have hno : ¬ tkOk s := fun h => absurd ((HPg.out.1 h).2.2.2.1 yj (by rw [← HZs.out]; exact HMem.out)) (by rw [hyl2]; decide)
                    have HRZ2 : Hid (Bk wr R z21 30 ∧ Bk wr Z (txc zTX (.slice none 0 0) (.slice none 0 0)) 30) := ⟨HRZ.out.1.below HK.out HRw.out.2.2.1, HRZ.out.2.below HK.out HRw.out.2.2.2⟩
                    have HB2 : Hid (Below w.heap.size w wr) := HB.out.trans (HK.out.mono HB.out.size)
                    have HR0 : Hid (w.heap.size ≤ R) := HRw.out.1
                    clear hyl2 HZs HS8 HPg HSm HVs HPB HC HMem HAll HEt q1
                    have HV : Hid (tkT s = zTX ∧ decide (tkOk s) = false) := (fun h : ¬ tkOk s => ⟨if_neg h, decide_eq_false h⟩) hno
                    go_wp2_with (first
                      | (refine wpList_load_tx rfl _ rfl rfl HRZ2.out.2 ?_)
                      | (refine wpList_store_tx (t := zTX) (aH := none) (aB := none) (nH := 0) (cH := 0) (nB := 0) (cB := 0) rfl _ _ rfl rfl rfl HRZ2.out.1 rfl ?_; intro WF hSF))
                    have hld := run_loadVar_mid (P := Try.prog) WF R 0 30 (txc zTX (.slice none 0 0) (.slice none 0 0)).toList _ (fun j x hx => by rw [Nat.zero_add, hSF.bR.cell]; simpa using hx) Try.underlying30 rfl infoT
                    refine bodyPost_ret (v := .tuple #[.agg (txc zTX (.slice none 0 0) (.slice none 0 0)), .bool false]) ?_ rfl ⟨⟨none, 0, none, 0, by rw [HV.out.1, HV.out.2]; rfl, by rw [HV.out.1]; exact ⟨Or.nil _ _ _ _, Or.nil _ _ _ _⟩⟩, hSF.below _ _ HR0.out HB2.out⟩
                    simp only [results, Try.results12, Act.put]
                    simp [asAddr, hld]
                  | false =>
                    rw [hyl2] at q0
                    have HL0 : Hid (yj.list = false) := hyl2
                    clear hyl2
                    have HMk : Hid (∀ W, Below w1.heap.size w1 W → W.cell? ⟨b, off + 24 + 2, none⟩ = some (.slice (some ⟨bz, oz, none⟩) zs.length c8) ∧ W.cell? ⟨bz, oz + j * 3 + 1, none⟩ = some (.string yj.text) ∧ Below w1.heap.size w1 W) := fun W h => ⟨(h.cell (p := ⟨b, off + 24 + 2, none⟩) hbl).trans HP3.out, (h.cell (p := ⟨bz, oz + j * 3 + 1, none⟩) hbzl).trans HQ1.out, h⟩
                    go_upto_region 32 with fail
                    clear q0 q1 p3
                    have HTd : Hid (Bk wr.drew Tb (txc (⟨v0, v1, x2, x3, x4, x5, v6, [], []⟩ : TX) (.slice aU nU cU2) (.slice aV j cV2)) 30) := HT.out
                    refine wp_region_noPanic ?_
                    refine wp_region_held_drew (S := fun W => W.cell? ⟨b, off + 24 + 2, none⟩ = some (.slice (some ⟨bz, oz, none⟩) zs.length c8) ∧ W.cell? ⟨bz, oz + j * 3 + 1, none⟩ = some (.string yj.text) ∧ Below w1.heap.size w1 W) (by kernel_rfl) ?_ (fun hHeld => ?_)
                    · ((try dsimp only); exact HMk.out _ HK.out.drew)
                    (try dsimp only at hHeld)
                    refine wpAnyH_take (i := 0) (oi := ⟨some 181, _, _, _, _, _⟩) (v := ?_) rfl (by kernel_rfl) (by kernel_rfl) (by kernel_rfl) (fun _ _ _ h => h) (Or.inl ⟨by rfl, ?_⟩) (by assumption) ?_
                    rotate_left
                    · (intro w hSw; (try dsimp only at hSw); go_simp; try (with_reducible rfl))
                    (try dsimp only); (try simp only [Act.put, List.setIfInBounds_toArray, List.set_cons_zero, List.set_cons_succ])
                    refine wpAnyH_take (i := 2) (oi := ⟨some 183, _, _, _, _, _⟩) (v := ?_) rfl (by kernel_rfl) (by kernel_rfl) (by kernel_rfl) (fun _ _ _ h => h) (Or.inl ⟨by rfl, ?_⟩) (by assumption) ?_
                    rotate_left
                    · (intro w hSw; (try dsimp only at hSw); go_simp; try (with_reducible rfl))
                    (try dsimp only); (try simp only [Act.put, List.setIfInBounds_toArray, List.set_cons_zero, List.set_cons_succ])
                    refine wpAnyH_take (i := 3) (oi := ⟨some 184, _, _, _, _, _⟩) (v := ?_) rfl (by kernel_rfl) (by kernel_rfl) (by kernel_rfl) (fun _ _ _ h => h) (Or.inl ⟨by rfl, ?_⟩) (by assumption) ?_
                    rotate_left
                    · (intro w hSw; (try dsimp only at hSw); go_simp; try (with_reducible rfl))
                    (try dsimp only); (try simp only [Act.put, List.setIfInBounds_toArray, List.set_cons_zero, List.set_cons_succ])
                    refine wpAnyH_take (i := 4) (oi := ⟨some 185, _, _, _, _, _⟩) (v := ?_) rfl (by kernel_rfl) (by kernel_rfl) (by kernel_rfl) (fun _ _ _ h => h) (Or.inl ⟨by rfl, ?_⟩) (by assumption) ?_
                    rotate_left
                    · (intro w hSw; (try dsimp only at hSw); go_simp; try (with_reducible rfl))
                    (try dsimp only); (try simp only [Act.put, List.setIfInBounds_toArray, List.set_cons_zero, List.set_cons_succ])
                    refine wpAnyH_take (i := 5) (oi := ⟨some 186, _, _, _, _, _⟩) (v := ?_) rfl (by kernel_rfl) (by kernel_rfl) (by kernel_rfl) (fun _ _ _ h => h) (Or.inl ⟨by rfl, ?_⟩) (by assumption) ?_
                    rotate_left
                    · (intro w hSw; (try dsimp only at hSw); go_simp; try (with_reducible rfl))
                    (try dsimp only); (try simp only [Act.put, List.setIfInBounds_toArray, List.set_cons_zero, List.set_cons_succ])
                    refine wpAnyH_take (i := 6) (oi := ⟨some 187, _, _, _, _, _⟩) (v := ?_) rfl (by kernel_rfl) (by kernel_rfl) (by kernel_rfl) (fun _ _ _ h => h) (Or.inl ⟨by rfl, ?_⟩) (by assumption) ?_
                    rotate_left
                    · (intro w hSw; (try dsimp only at hSw); go_simp; try (with_reducible rfl))
                    (try dsimp only); (try simp only [Act.put, List.setIfInBounds_toArray, List.set_cons_zero, List.set_cons_succ])
                    refine wpAnyH_take (i := 7) (oi := ⟨some 188, _, _, _, _, _⟩) (v := ?_) rfl (by kernel_rfl) (by kernel_rfl) (by kernel_rfl) (fun _ _ _ h => h) (Or.inl ⟨by rfl, ?_⟩) (by assumption) ?_
                    rotate_left
                    · (intro w hSw; (try dsimp only at hSw); go_simp; try (with_reducible rfl))
                    (try dsimp only); (try simp only [Act.put, List.setIfInBounds_toArray, List.set_cons_zero, List.set_cons_succ])
                    refine wpAnyH_take (i := 8) (oi := ⟨some 189, _, _, _, _, _⟩) (v := ?_) rfl (by kernel_rfl) (by kernel_rfl) (by kernel_rfl) (fun _ _ _ h => h) (Or.inl ⟨by rfl, ?_⟩) (by assumption) ?_
                    rotate_left
                    · (intro w hSw; (try dsimp only at hSw); go_simp; try (with_reducible rfl))
                    (try dsimp only); (try simp only [Act.put, List.setIfInBounds_toArray, List.set_cons_zero, List.set_cons_succ])
                    refine wpAnyH_take (i := 9) (oi := ⟨some 190, _, _, _, _, _⟩) (v := ?_) rfl (by kernel_rfl) (by kernel_rfl) (by kernel_rfl) (fun _ _ _ h => h) (Or.inl ⟨by rfl, ?_⟩) (by assumption) ?_
                    rotate_left
                    · (intro w hSw; (try dsimp only at hSw); go_simp; try (with_reducible rfl))
                    (try dsimp only); (try simp only [Act.put, List.setIfInBounds_toArray, List.set_cons_zero, List.set_cons_succ])
                    refine wpAnyH_ready (rs := [1, 10]) (by kernel_rfl) (by simp) ?_
                    refine AllReadyH.cons (o := ⟨some 182, _, _, _, _, _⟩) rfl (fun K hK => ?_) (AllReadyH.cons (o := ⟨some 191, _, _, _, _, _⟩) rfl (fun K hK => ?_) AllReadyH.nil)
                    · have c20 := HTd.out.cell 20
                      simp only [List.getElem?_toArray, List.getElem?_cons_zero, List.getElem?_cons_succ] at c20
                      go_simp
                      clear c20
                      refine hK.out _ _ (hHeld) (fun hHeld => ?_)
                      clear hK K
                      (try dsimp only at hHeld)
                      (try dsimp only); (try simp only [Act.put, List.setIfInBounds_toArray, List.set_cons_zero, List.set_cons_succ])
                      refine wpAnyH_ready (rs := [10]) (by kernel_rfl) (by simp) ?_
                      refine AllReadyH.cons (o := ⟨some 191, _, _, _, _, _⟩) rfl (fun K hK => ?_) AllReadyH.nil
                      go_simp
                      obtain ⟨w2, hw2⟩ : ∃ W, W = (wr.alloc (.cells #[.string yj.text] 9)).drew := ⟨_, rfl⟩
                      obtain ⟨g2, hg2⟩ : ∃ g, g = wr.heap.size := ⟨_, rfl⟩
                      have hb2 : Below wr.heap.size wr w2 := by rw [hw2]; exact ((Below.refl _ _).alloc (Nat.le_refl _) _).drew
                      have HT2 : Hid (Bk w2 Tb (txc (⟨v0, v1, x2, x3, x4, x5, v6, [], []⟩ : TX) (.slice aU nU cU2) (.slice aV j cV2)) 30) := HT.out.below hb2 HT.out.lt
                      have HO72 : Hid (Or 24 cU w2 w1.heap.size (.slice aU nU cU2) ((atI xs 7).items.map fun y => mtV y.text)) := HO7.out.below' hb2
                      have HO2 : Hid (Or 9 cS w2 w1.heap.size (.slice aV j cV2) ((zs.take j).map fun y => y.text)) := HO.out.below' hb2
                      have HK2 : Hid (Below w1.heap.size w1 w2) := HK.out.trans (hb2.mono HK.out.size)
                      have HG : Hid (Bk w2 g2 #[.string yj.text] 9) := by show Bk _ _ _ _; rw [hw2, hg2]; exact (Bk.new _ _ _ : Bk (wr.alloc (.cells #[.string yj.text] 9)) wr.heap.size _ _)
                      rw [← hw2, ← hg2]
                      clear hw2 hg2 hb2
                      refine hK.out _ _ (HMk.out _ HK2.out) (fun hHeld => ?_)
                      clear hK K
                      (try dsimp only at hHeld)
                      (try dsimp only); (try simp only [Act.put, List.setIfInBounds_toArray, List.set_cons_zero, List.set_cons_succ])
                      refine wpAnyH_ready (rs := [11]) (by kernel_rfl) (by simp) ?_
                      refine AllReadyH.cons (o := ⟨some 192, _, _, _, _, _⟩) rfl (fun K hK => ?_) AllReadyH.nil
                      rw [if_pos (by rfl)]
                      have hown2 : w2.ownsRow w1.heap.size 9 1 (.slice aV j cV2) j (((zs.take j).map fun y => y.text).map cS) := by have := HO2.out; unfold Or at this; rw [hlen] at this; exact this
                      have hzw := HK2.out.size
                      refine wp_append_own _ _ _ 28 (by rfl) w1.heap.size 9 i9 (.string ⟨#[]⟩) 1 16 Try.underlying28 HI9.out.1 HI9.out.2.1 HI9.out.2.2.1 HI9.out.2.2.2 rfl (by decide) (.slice aV j cV2) j _ rfl hown2 ⟨g2, 0, none⟩ 1 1 [cS yj.text] rfl rfl (cell_blk2 HG.out) (fun x hx => by obtain rfl : x = cS yj.text := (by simpa using hx); rfl) (by unfold maxLen; omega) (by omega) hzw ?_
                      intro v' w3 hown hg _
                      obtain ⟨aN, cN, rfl⟩ := own_shp8 hown
                      obtain ⟨hX3, hO3, hne3, hB3⟩ := row_push (x := yj.text) HO2.out HT2.out (by decide) (by rw [hlen]; exact hown) hg hzw HK2.out
                      have hU3 := HO72.out.kept hg (HO72.out.apart HO2.out (by decide))
                      have HX3 : Hid (Bk w3 Tb (txc (⟨v0, v1, x2, x3, x4, x5, v6, [], []⟩ : TX) (.slice aU nU cU2) (.slice aV j cV2)) 30) := hX3
                      have HO3 : Hid (Or 9 cS w3 w1.heap.size (.slice aN (j + 1) cN) ((zs.take j).map (fun y => y.text) ++ [yj.text]) ∧ (Value.slice aN (j + 1) cN).ownBlock ≠ some Tb) := ⟨hO3, hne3⟩
                      have HU3 : Hid (Or 24 cU w3 w1.heap.size (.slice aU nU cU2) ((atI xs 7).items.map fun y => mtV y.text)) := hU3
                      have HB3 : Hid (Below w1.heap.size w1 w3) := hB3
                      clear hown hg hX3 hO3 hne3 hU3 hB3 hown2 hzw
                      refine hK.out _ _ (HMk.out _ HB3.out) (fun hHeld => ?_)
                      clear hK K
                      (try dsimp only at hHeld)
                      (try dsimp only); (try simp only [Act.put, List.setIfInBounds_toArray, List.set_cons_zero, List.set_cons_succ])
                      refine wpAnyH_take (i := 12) (oi := ⟨some 193, _, _, _, _, _⟩) (v := ?_) rfl (by kernel_rfl) (by kernel_rfl) (by kernel_rfl) (fun _ _ _ h => h) (Or.inl ⟨by rfl, ?_⟩) (by assumption) ?_
                      rotate_left
                      · (intro w hSw; (try dsimp only at hSw); go_simp; try (with_reducible rfl))
                      (try dsimp only); (try simp only [Act.put, List.setIfInBounds_toArray, List.set_cons_zero, List.set_cons_succ])
                      refine wpAnyH_ready (rs := [13]) (by kernel_rfl) (by simp) ?_
                      refine AllReadyH.cons (o := ⟨none, _, _, _, _, _⟩) rfl (fun K hK => ?_) AllReadyH.nil
                      have lX := HX3.out.lt
                      have c20 := HX3.out.cell 20
                      have f20 := HX3.out.frozen 20
                      simp only [List.getElem?_toArray, List.getElem?_cons_zero, List.getElem?_cons_succ] at c20
                      go_simp
                      clear c20 f20
                      refine hK.out _ _ (HMk.out _ (HB3.out.setCell (p := ⟨Tb, 20, none⟩) h1T _)) (fun hHeld => ?_)
                      clear hK K
                      (try dsimp only at hHeld)
                      (try dsimp only); (try simp only [Act.put, List.setIfInBounds_toArray, List.set_cons_zero, List.set_cons_succ])
                      refine wpAnyH_done (by kernel_rfl) ?_ _
                      refine NoPanic.normal ?_
                      go_wp2_with fail
                      go_roundw
                      case rel =>
                        refine ⟨j + 1, .slice aN (j + 1) cN, by omega, by go_num, HX3.out.set 20 _ rfl, HU3.out.other ⟨Tb, 20, none⟩ _ (.inr (own_not7 HU3.out HX3.out (by decide))), ?_, fun y hy => ?_, HB3.out.setCell (p := ⟨Tb, 20, none⟩) h1T _⟩
                        · rw [HEt.out, List.map_append]
                          exact HO3.out.1.other ⟨Tb, 20, none⟩ _ (.inr HO3.out.2)
                        · rw [HEt.out] at hy
                          rcases List.mem_append.1 hy with h | h
                          · exact HAll.out y h
                          · simp at h; rw [h]; exact HL0.out
                      case measure => simp [intOf]; omega
                    · go_simp
                      obtain ⟨w2, hw2⟩ : ∃ W, W = (wr.alloc (.cells #[.string yj.text] 9)).drew := ⟨_, rfl⟩
                      obtain ⟨g2, hg2⟩ : ∃ g, g = wr.heap.size := ⟨_, rfl⟩
                      have hb2 : Below wr.heap.size wr w2 := by rw [hw2]; exact ((Below.refl _ _).alloc (Nat.le_refl _) _).drew
                      have HT2 : Hid (Bk w2 Tb (txc (⟨v0, v1, x2, x3, x4, x5, v6, [], []⟩ : TX) (.slice aU nU cU2) (.slice aV j cV2)) 30) := HT.out.below hb2 HT.out.lt
                      have HO72 : Hid (Or 24 cU w2 w1.heap.size (.slice aU nU cU2) ((atI xs 7).items.map fun y => mtV y.text)) := HO7.out.below' hb2
                      have HO2 : Hid (Or 9 cS w2 w1.heap.size (.slice aV j cV2) ((zs.take j).map fun y => y.text)) := HO.out.below' hb2
                      have HK2 : Hid (Below w1.heap.size w1 w2) := HK.out.trans (hb2.mono HK.out.size)
                      have HG : Hid (Bk w2 g2 #[.string yj.text] 9) := by show Bk _ _ _ _; rw [hw2, hg2]; exact (Bk.new _ _ _ : Bk (wr.alloc (.cells #[.string yj.text] 9)) wr.heap.size _ _)
                      rw [← hw2, ← hg2]
                      clear hw2 hg2 hb2
                      refine hK.out _ _ (HMk.out _ HK2.out) (fun hHeld => ?_)
                      clear hK K
                      (try dsimp only at hHeld)
                      (try dsimp only); (try simp only [Act.put, List.setIfInBounds_toArray, List.set_cons_zero, List.set_cons_succ])
                      refine wpAnyH_ready (rs := [1]) (by kernel_rfl) (by simp) ?_
                      refine AllReadyH.cons (o := ⟨some 182, _, _, _, _, _⟩) rfl (fun K hK => ?_) AllReadyH.nil
                      have c20 := HT2.out.cell 20
                      simp only [List.getElem?_toArray, List.getElem?_cons_zero, List.getElem?_cons_succ] at c20
                      go_simp
                      clear c20
                      refine hK.out _ _ (hHeld) (fun hHeld => ?_)
                      clear hK K
                      (try dsimp only at hHeld)
                      (try dsimp only); (try simp only [Act.put, List.setIfInBounds_toArray, List.set_cons_zero, List.set_cons_succ])
                      refine wpAnyH_ready (rs := [11]) (by kernel_rfl) (by simp) ?_
                      refine AllReadyH.cons (o := ⟨some 192, _, _, _, _, _⟩) rfl (fun K hK => ?_) AllReadyH.nil
                      rw [if_pos (by rfl)]
                      have hown2 : w2.ownsRow w1.heap.size 9 1 (.slice aV j cV2) j (((zs.take j).map fun y => y.text).map cS) := by have := HO2.out; unfold Or at this; rw [hlen] at this; exact this
                      have hzw := HK2.out.size
                      refine wp_append_own _ _ _ 28 (by rfl) w1.heap.size 9 i9 (.string ⟨#[]⟩) 1 16 Try.underlying28 HI9.out.1 HI9.out.2.1 HI9.out.2.2.1 HI9.out.2.2.2 rfl (by decide) (.slice aV j cV2) j _ rfl hown2 ⟨g2, 0, none⟩ 1 1 [cS yj.text] rfl rfl (cell_blk2 HG.out) (fun x hx => by obtain rfl : x = cS yj.text := (by simpa using hx); rfl) (by unfold maxLen; omega) (by omega) hzw ?_
                      intro v' w3 hown hg _
                      obtain ⟨aN, cN, rfl⟩ := own_shp8 hown
                      obtain ⟨hX3, hO3, hne3, hB3⟩ := row_push (x := yj.text) HO2.out HT2.out (by decide) (by rw [hlen]; exact hown) hg hzw HK2.out
                      have hU3 := HO72.out.kept hg (HO72.out.apart HO2.out (by decide))
                      have HX3 : Hid (Bk w3 Tb (txc (⟨v0, v1, x2, x3, x4, x5, v6, [], []⟩ : TX) (.slice aU nU cU2) (.slice aV j cV2)) 30) := hX3
                      have HO3 : Hid (Or 9 cS w3 w1.heap.size (.slice aN (j + 1) cN) ((zs.take j).map (fun y => y.text) ++ [yj.text]) ∧ (Value.slice aN (j + 1) cN).ownBlock ≠ some Tb) := ⟨hO3, hne3⟩
                      have HU3 : Hid (Or 24 cU w3 w1.heap.size (.slice aU nU cU2) ((atI xs 7).items.map fun y => mtV y.text)) := hU3
                      have HB3 : Hid (Below w1.heap.size w1 w3) := hB3
                      clear hown hg hX3 hO3 hne3 hU3 hB3 hown2 hzw
                      refine hK.out _ _ (HMk.out _ HB3.out) (fun hHeld => ?_)
                      clear hK K
                      (try dsimp only at hHeld)
                      (try dsimp only); (try simp only [Act.put, List.setIfInBounds_toArray, List.set_cons_zero, List.set_cons_succ])
                      refine wpAnyH_take (i := 12) (oi := ⟨some 193, _, _, _, _, _⟩) (v := ?_) rfl (by kernel_rfl) (by kernel_rfl) (by kernel_rfl) (fun _ _ _ h => h) (Or.inl ⟨by rfl, ?_⟩) (by assumption) ?_
                      rotate_left
                      · (intro w hSw; (try dsimp only at hSw); go_simp; try (with_reducible rfl))
                      (try dsimp only); (try simp only [Act.put, List.setIfInBounds_toArray, List.set_cons_zero, List.set_cons_succ])
                      refine wpAnyH_ready (rs := [13]) (by kernel_rfl) (by simp) ?_
                      refine AllReadyH.cons (o := ⟨none, _, _, _, _, _⟩) rfl (fun K hK => ?_) AllReadyH.nil
                      have lX := HX3.out.lt
                      have c20 := HX3.out.cell 20
                      have f20 := HX3.out.frozen 20
                      simp only [List.getElem?_toArray, List.getElem?_cons_zero, List.getElem?_cons_succ] at c20
                      go_simp
                      clear c20 f20
                      refine hK.out _ _ (HMk.out _ (HB3.out.setCell (p := ⟨Tb, 20, none⟩) h1T _)) (fun hHeld => ?_)
                      clear hK K
                      (try dsimp only at hHeld)
                      (try dsimp only); (try simp only [Act.put, List.setIfInBounds_toArray, List.set_cons_zero, List.set_cons_succ])
                      refine wpAnyH_done (by kernel_rfl) ?_ _
                      refine NoPanic.normal ?_
                      go_wp2_with fail
                      go_roundw
                      case rel =>
                        refine ⟨j + 1, .slice aN (j + 1) cN, by omega, by go_num, HX3.out.set 20 _ rfl, HU3.out.other ⟨Tb, 20, none⟩ _ (.inr (own_not7 HU3.out HX3.out (by decide))), ?_, fun y hy => ?_, HB3.out.setCell (p := ⟨Tb, 20, none⟩) h1T _⟩
                        · rw [HEt.out, List.map_append]
                          exact HO3.out.1.other ⟨Tb, 20, none⟩ _ (.inr HO3.out.2)
                        · rw [HEt.out] at hy
                          rcases List.mem_append.1 hy with h | h
                          · exact HAll.out y h
                          · simp at h; rw [h]; exact HL0.out
                      case measure => simp [intOf]; omega
                · have hjl' : ¬ (j : Int) < (zs.length : Int) := by omega
                  obtain rfl : j = zs.length := by omega
                  have hDD : pgD xs := fun y hy => HAll.out y (by rw [List.take_length]; rw [HZs.out]; exact hy)
                  have HO8 : Hid (Or 9 cS wr w1.heap.size v ((atI xs 8).items.map fun y => y.text)) := by show Or _ _ _ _ _ _; have := HO.out; rw [List.take_length, HZs.out] at this; exact this
                  obtain ⟨aV, cV2, rfl, -⟩ := HO8.out.shape
                  obtain ⟨nV, hnV⟩ : ∃ n, n = ((atI xs 8).items.map fun y => y.text).length := ⟨_, rfl⟩
                  rw [← hnV] at HO8 HT
                  have HPT : Hid (pgT xs = ⟨v0, v1, x2, x3, x4, x5, v6, ((atI xs 7).items.map fun y => mtV y.text), (atI xs 8).items.map fun y => y.text⟩) := HVs.out
                  have HWT : Hid (TXw (pgT xs)) := by
                    show TXw (pgT xs)
                    rw [pg_T HPB.out]
                    exact rdT_w _ fun y hy => by have := HS8.out y (by rw [HZs.out]; exact hy); unfold maxLen; omega
                  have HPD : Hid (pgD xs) := hDD
                  clear hDD HAll HO HZt HP3 HS8
                  obtain ⟨pt, hpt⟩ : ∃ pt, pt = pgT xs := ⟨_, rfl⟩
                  have hT9 : Bk wr Tb (txc pt (.slice aU pt.hs.length cU2) (.slice aV pt.bs.length cV2)) 30 := by
                    have := HT.out
                    rw [hpt, HPT.out]
                    show Bk wr Tb (txc (⟨v0, v1, x2, x3, x4, x5, v6, [], []⟩ : TX) (.slice aU ((atI xs 7).items.map fun y => mtV y.text).length cU2) (.slice aV ((atI xs 8).items.map fun y => y.text).length cV2)) 30
                    rw [← HNU.out, ← hnV]
                    exact this
                  have hO9 : OT wr w1.heap.size pt (.slice aU pt.hs.length cU2) (.slice aV pt.bs.length cV2) := by
                    rw [hpt, HPT.out]
                    refine ⟨?_, ?_⟩
                    · show Or 24 cU wr w1.heap.size (.slice aU ((atI xs 7).items.map fun y => mtV y.text).length cU2) ((atI xs 7).items.map fun y => mtV y.text)
                      rw [← HNU.out]; exact HO7.out
                    · show Or 9 cS wr w1.heap.size (.slice aV ((atI xs 8).items.map fun y => y.text).length cV2) ((atI xs 8).items.map fun y => y.text)
                      rw [← hnV]; exact HO8.out
                  have hw9 : TXw pt := by rw [hpt]; exact HWT.out
                  have HT9 : Hid (Bk wr Tb (txc pt (.slice aU pt.hs.length cU2) (.slice aV pt.bs.length cV2)) 30) := hT9
                  have HO9 : Hid (OT wr w1.heap.size pt (.slice aU pt.hs.length cU2) (.slice aV pt.bs.length cV2)) := hO9
                  have HTX : Hid (Calls Try.prog 18 #[.agg (txc pt (.slice aU pt.hs.length cU2) (.slice aV pt.bs.length cV2))] wr fun e w' => e = .returned (.bool (decide (TxOk pt))) ∧ Below wr.heap.size wr w') := rtx pt aU aV cU2 cV2 wr hw9 ⟨hO9.h.su hw9.hs, hO9.b.ss hw9.bs⟩
                  have HTk : Hid (tkOk s ↔ TxOk pt) := by
                    show tkOk s ↔ TxOk pt
                    rw [hpt]
                    exact ⟨fun h => (HPg.out.1 h).2.2.2.2, fun h => HPg.out.2 ⟨HA2.out, HPB.out, HPC.out, HPD.out, h⟩⟩
                  have HPt : Hid (tkOk s → tkT s = pt) := by
                    show tkOk s → tkT s = pt
                    intro h
                    rw [hpt, pg_T HPB.out, show tkT s = rdT (pz s).1.items from if_pos h]
                    rw [HXz.out HA2.out]
                  clear hT9 hO9 HT HO7 HO8 hpt HNU hnV HPT HVs HWT HC HPg HSm
                  go_wp2_with (first | (refine wpList_load_tx rfl _ rfl rfl HT9.out ?_))
                  refine HTX.out.mono ?_
                  rintro e wE ⟨rfl, hbE⟩
                  have HKE : Hid (Below w1.heap.size w1 wE) := HK.out.trans (hbE.mono HK.out.size)
                  have HTE : Hid (Bk wE Tb (txc pt (.slice aU pt.hs.length cU2) (.slice aV pt.bs.length cV2)) 30) := HT9.out.below hbE HT9.out.lt
                  have HOE : Hid (OT wE w1.heap.size pt (.slice aU pt.hs.length cU2) (.slice aV pt.bs.length cV2)) := ⟨HO9.out.h.below' hbE, HO9.out.b.below' hbE⟩
                  have HRZ2 : Hid (Bk wE R z21 30 ∧ Bk wE Z (txc zTX (.slice none 0 0) (.slice none 0 0)) 30) := ⟨HRZ.out.1.below HKE.out HRw.out.2.2.1, HRZ.out.2.below HKE.out HRw.out.2.2.2⟩
                  have HB2 : Hid (Below w.heap.size w wE) := HB.out.trans (HKE.out.mono HB.out.size)
                  have HR0 : Hid (w.heap.size ≤ R) := HRw.out.1
                  have HRl : Hid (R < w1.heap.size ∧ w.heap.size ≤ w1.heap.size) := ⟨HRw.out.2.2.1, HB.out.size⟩
                  clear hbE HK HT9 HO9 HTX
                  by_cases hok : TxOk pt
                  · rw [decide_eq_true hok]
                    have HV : Hid (tkT s = pt ∧ decide (tkOk s) = true) := ⟨HPt.out (HTk.out.2 hok), decide_eq_true (HTk.out.2 hok)⟩
                    go_wp2_with (first
                      | (refine wpList_load_tx rfl _ rfl rfl HTE.out ?_)
                      | (refine wpList_store_tx rfl _ _ rfl rfl rfl HRZ2.out.1 rfl ?_; intro WF hSF))
                    have hld := run_loadVar_mid (P := Try.prog) WF R 0 30 (txc pt (.slice aU pt.hs.length cU2) (.slice aV pt.bs.length cV2)).toList _ (fun j x hx => by rw [Nat.zero_add, hSF.bR.cell]; simpa using hx) Try.underlying30 rfl infoT
                    have hOF : OT WF w.heap.size pt (.slice aU pt.hs.length cU2) (.slice aV pt.bs.length cV2) := ⟨(hSF.or HOE.out.h (fun e => by have := (HOE.out.h.ge e).1; have := HRl.out.1; omega)).based HRl.out.2, (hSF.or HOE.out.b (fun e => by have := (HOE.out.b.ge e).1; have := HRl.out.1; omega)).based HRl.out.2⟩
                    refine bodyPost_ret (v := .tuple #[.agg (txc pt (.slice aU pt.hs.length cU2) (.slice aV pt.bs.length cV2)), .bool true]) ?_ rfl ⟨⟨aU, cU2, aV, cV2, by rw [HV.out.1, HV.out.2], by rw [HV.out.1]; exact hOF⟩, hSF.below _ _ HR0.out HB2.out⟩
                    simp only [results, Try.results12, Act.put]
                    simp [asAddr, hld]
                  · rw [decide_eq_false hok]
                    have hno : ¬ tkOk s := fun h => hok (HTk.out.1 h)
                    clear HTk HPt
                    have HV : Hid (tkT s = zTX ∧ decide (tkOk s) = false) := (fun h : ¬ tkOk s => ⟨if_neg h, decide_eq_false h⟩) hno
                    go_wp2_with (first
                      | (refine wpList_load_tx rfl _ rfl rfl HRZ2.out.2 ?_)
                      | (refine wpList_store_tx (t := zTX) (aH := none) (aB := none) (nH := 0) (cH := 0) (nB := 0) (cB := 0) rfl _ _ rfl rfl rfl HRZ2.out.1 rfl ?_; intro WF hSF))
                    have hld := run_loadVar_mid (P := Try.prog) WF R 0 30 (txc zTX (.slice none 0 0) (.slice none 0 0)).toList _ (fun j x hx => by rw [Nat.zero_add, hSF.bR.cell]; simpa using hx) Try.underlying30 rfl infoT
                    refine bodyPost_ret (v := .tuple #[.agg (txc zTX (.slice none 0 0) (.slice none 0 0)), .bool false]) ?_ rfl ⟨⟨none, 0, none, 0, by rw [HV.out.1, HV.out.2]; rfl, by rw [HV.out.1]; exact ⟨Or.nil _ _ _ _, Or.nil _ _ _ _⟩⟩, hSF.below _ _ HR0.out HB2.out⟩
                    simp only [results, Try.results12, Act.put]
                    simp [asAddr, hld]
end Go.Proofs.Ytapjonmgjccpbaa

import Derived.Test.YtliaegnhnnnojaaTkA
import Derived.Test.YtliaegnhnnnojaaCln
set_option linter.unusedSimpArgs false
set_option linter.unusedVariables false
namespace Go.Proofs.Ytliaegnhnnnojaa
open Go.RowKit

/-! item.take, item.Take, item.Parse by contract. -/
theorem tk_err (r : Nat) (s : ByteArray) (h : (fnd s).2.2.2 ≠ 0) : tk r s = (zIT, 0, (fnd s).2.2.2) := by cases r <;> simp [tk, h]
theorem tk_text (r : Nat) (s : ByteArray) (h : (fnd s).2.2.2 = 0) (hl : (fnd s).1 = false) : tk r s = (.mk false (s.extract (fnd s).2.1 (fnd s).2.2.1) [], (fnd s).2.2.1, 0) := by cases r <;> simp [tk, h, hl]
theorem tk_deep (s : ByteArray) (h : (fnd s).2.2.2 = 0) (hl : (fnd s).1 = true) : tk 0 s = (zIT, 0, 1) := by simp [tk, h, hl]
theorem tk_none (r : Nat) (s : ByteArray) (h : (fnd s).2.2.2 = 0) (hl : (fnd s).1 = true) (ha : tkAll (tk r) (s.extract (fnd s).2.1 (fnd s).2.2.1) = none) : tk (r + 1) s = (zIT, 0, 1) := by simp [tk, h, hl, ha]
theorem tk_some (r : Nat) (s : ByteArray) (xs : List IT) (h : (fnd s).2.2.2 = 0) (hl : (fnd s).1 = true) (ha : tkAll (tk r) (s.extract (fnd s).2.1 (fnd s).2.2.1) = some xs) : tk (r + 1) s = (.mk true ⟨#[]⟩ xs, (fnd s).2.2.1, 0) := by simp [tk, h, hl, ha]
theorem rd_nil (w : World) (P : Nat → Prop) (n : Nat) : RdP w P (n + 1) [] (.slice none 0 0) := ⟨by simp, none, 0, rfl, fun i hi => by simp at hi⟩
/-- What item.take has made when it knows where the item lies: its result's block, the span's. -/
structure TkF (w W : World) (L : Bool) (f t : Nat) (X : Nat) : Prop where
  bR : Bk W w.heap.size #[.bool false, .string ⟨#[]⟩, .slice none 0 0] 26
  bX : Bk W X #[.bool L, .int .i64 (f : Int), .int .i64 (t : Int)] 72
  lo : w.heap.size < X
  bel : Below w.heap.size w W
theorem TkF.below {w W W' : World} {L : Bool} {f t X : Nat} (h : TkF w W L f t X) (hb : Below W.heap.size W W') : TkF w W' L f t X := ⟨h.bR.below hb h.bR.lt, h.bX.below hb h.bX.lt, h.lo, h.bel.trans (hb.mono h.bel.size)⟩
theorem set3_Bk {W : World} {b : Nat} {t : TypeId} {x y z : Value} (h : Bk W b #[x, y, z] t) (u0 u1 u2 : Value) : Bk (((W.setCell ⟨b, 0, none⟩ u0).setCell ⟨b, 1, none⟩ u1).setCell ⟨b, 2, none⟩ u2) b #[u0, u1, u2] t := ((h.set 0 _ rfl).set 1 _ rfl).set 2 _ rfl
theorem set3_below {B : Nat} {W0 W : World} {b : Nat} (h : Below B W0 W) (hb : B ≤ b) (u0 u1 u2 : Value) : Below B W0 (((W.setCell ⟨b, 0, none⟩ u0).setCell ⟨b, 1, none⟩ u1).setCell ⟨b, 2, none⟩ u2) :=
  ((h.setCell (p := ⟨b, 0, none⟩) hb _).setCell (p := ⟨b, 1, none⟩) hb _).setCell (p := ⟨b, 2, none⟩) hb _
theorem set3_keep {W : World} {b : Nat} {P : Nat → Prop} {n : Nat} {xs : List IT} {v : Value} (h : RdP W P n xs v) (hb : ∀ k, P k → k ≠ b) (u0 u1 u2 : Value) : RdP (((W.setCell ⟨b, 0, none⟩ u0).setCell ⟨b, 1, none⟩ u1).setCell ⟨b, 2, none⟩ u2) P n xs v :=
  h.same fun k hk => (Below.heap_setCell _ _ _ k (hb k hk)).trans ((Below.heap_setCell _ _ _ k (hb k hk)).trans (Below.heap_setCell _ _ _ k (hb k hk)))
set_option maxRecDepth 100000 in
set_option maxHeartbeats 2000000 in
theorem take_short (r d : Nat) (hd : d + r = 16) (s : ByteArray) (hs : s.size ≤ 1099511627776) (w : World) (h : (fnd s).2.2.2 ≠ 0 ∨ (fnd s).2.2.2 = 0 ∧ (fnd s).1 = false) :
    Calls Try.prog 34 #[.string s, .int .i64 (d : Int)] w (TkQ r s w) := by
  have hF : Hid (∀ w, Calls Try.prog 40 #[.string s] w fun e w' => e = .returned (.tuple #[.agg #[.bool (fnd s).1, .int .i64 ((fnd s).2.1 : Int), .int .i64 ((fnd s).2.2.1 : Int)], .int .i64 ((fnd s).2.2.2 : Int)]) ∧ Below w.heap.size w w') := fun w => find s w hs
  rcases h with h | ⟨h, hl⟩
  · have HT : Hid (tk r s = (zIT, 0, (fnd s).2.2.2)) := tk_err r s h
    generalize (fnd s).2.2.2 = e1 at *
    generalize (fnd s).1 = L at *
    generalize (fnd s).2.1 = fr at *
    generalize (fnd s).2.2.1 = t1 at *
    have he : ((e1 : Int) != 0) = true := by rw [bne_iff_ne]; omega
    have bR := Bk.new w #[.bool false, .string ⟨#[]⟩, .slice none 0 0] 26
    have HR : Hid (Bk (w.alloc (.cells #[.bool false, .string ⟨#[]⟩, .slice none 0 0] 26)) w.heap.size #[.bool false, .string ⟨#[]⟩, .slice none 0 0] 26) := bR
    clear h bR
    go_enter Try.func34, Try.ntmps34
    go_wp2_with (go_at_call 40; refine (hF.out _).mono ?_; rintro e w1 ⟨rfl, hb1⟩; have b1 := HR.out.below hb1 HR.out.lt; have lb1 := b1.lt; obtain ⟨r0, r1, r2⟩ := box_cells b1; have f0 := b1.frozen 0; have f1 := b1.frozen 1; have f2 := b1.frozen 2; have HB : Hid (Bk w1 w.heap.size #[.bool false, .string ⟨#[]⟩, .slice none 0 0] 26 ∧ Below w.heap.size w w1) := ⟨b1, ((Below.refl _ w).alloc (Nat.le_refl _) _).trans (hb1.mono (by simp))⟩; clear b1 hb1)
    have b9 := (set3_Bk HB.out.1 (.bool false) (.string ⟨#[]⟩) (.slice none 0 0)).alloc (.cells #[.bool L, .int .i64 (fr : Int), .int .i64 (t1 : Int)] 72)
    refine bodyPost_ret (v := .tuple #[.agg #[.bool false, .string ⟨#[]⟩, .slice none 0 0], .int .i64 0, .int .i64 (e1 : Int)]) ?_ rfl ⟨⟨none, 0, 0, by rw [HT.out]; rfl, by rw [HT.out]; exact rd_nil _ _ _⟩, ?_⟩
    · obtain ⟨g0, g1, g2⟩ := box_cells b9
      simp [results, Try.results34, go_sem, g0, g1, g2]
    · exact (set3_below HB.out.2 (Nat.le_refl _) _ _ _).alloc (by simp; have := HB.out.2.size; omega) _
  · have hok := fnd_ok s h
    have HT : Hid (tk r s = (.mk false (s.extract (fnd s).2.1 (fnd s).2.2.1) [], (fnd s).2.2.1, 0)) := tk_text r s h hl
    rw [h, hl] at hF
    generalize (fnd s).2.1 = f1 at *
    generalize (fnd s).2.2.1 = t1 at *
    have hxs : (s.extract f1 t1).size ≤ 1099511627776 := by rw [ByteArray.size_extract]; omega
    have hC : Hid (∀ w, Calls Try.prog 41 #[.string (s.extract f1 t1)] w fun e w' => e = .returned (.string (s.extract f1 t1)) ∧ Below w.heap.size w w') := fun w => sclone _ w hxs
    have hi1 : (f1 : Int) ≤ (t1 : Int) := by omega
    have hi2 : (t1 : Int) ≤ (s.size : Int) := by omega
    have bR := Bk.new w #[.bool false, .string ⟨#[]⟩, .slice none 0 0] 26
    have HR : Hid (Bk (w.alloc (.cells #[.bool false, .string ⟨#[]⟩, .slice none 0 0] 26)) w.heap.size #[.bool false, .string ⟨#[]⟩, .slice none 0 0] 26) := bR
    clear h hl bR hxs
    go_enter Try.func34, Try.ntmps34
    go_upto_region 6 with (go_at_call 40; refine (hF.out _).mono ?_; rintro e w1 ⟨rfl, hb1⟩; have HB1 : Hid (Bk w1 w.heap.size #[.bool false, .string ⟨#[]⟩, .slice none 0 0] 26 ∧ Below w.heap.size w w1) := ⟨HR.out.below hb1 HR.out.lt, ((Below.refl _ w).alloc (Nat.le_refl _) _).trans (hb1.mono (by simp))⟩; clear hb1)
    have HF : Hid (TkF w (w1.alloc (.cells #[.bool false, .int .i64 (f1 : Int), .int .i64 (t1 : Int)] 72)) false f1 t1 w1.heap.size) := ⟨HB1.out.1.alloc _, Bk.new _ _ _, HB1.out.1.lt, HB1.out.2.alloc HB1.out.2.size _⟩
    obtain ⟨Wf, hWf⟩ : ∃ Wf, Wf = w1.alloc (.cells #[.bool false, .int .i64 (f1 : Int), .int .i64 (t1 : Int)] 72) := ⟨_, rfl⟩
    obtain ⟨X, hX⟩ : ∃ X, X = w1.heap.size := ⟨_, rfl⟩
    rw [← hWf, ← hX] at HF
    rw [← hWf, ← hX]
    obtain ⟨x0, x1, x2⟩ := box_cells HF.out.bX
    clear HB1 hWf hX
    go_region_law (go_simp; go_at_call 41; refine (hC.out _).mono ?_; rintro e w2 ⟨rfl, hb2⟩; have H2 : Hid (TkF w w2 false f1 t1 X) := HF.out.below (((Below.refl _ Wf).drew).trans hb2); obtain ⟨r0, r1, r2⟩ := box_cells H2.out.bR; obtain ⟨y0, y1, y2⟩ := box_cells H2.out.bX; have f0 := H2.out.bR.frozen 0; have f1' := H2.out.bR.frozen 1; have f2 := H2.out.bR.frozen 2; have lR := H2.out.bR.lt; have lX := H2.out.bX.lt; have lo := H2.out.lo; clear hb2)
    all_goals
      go_wp2_with fail
      have b9 := set3_Bk H2.out.bR (.bool false) (.string (s.extract f1 t1)) (.slice none 0 0)
      refine bodyPost_ret (v := .tuple #[.agg #[.bool false, .string (s.extract f1 t1), .slice none 0 0], .int .i64 (t1 : Int), .int .i64 0]) ?_ rfl ⟨⟨none, 0, 0, by rw [HT.out]; rfl, by rw [HT.out]; exact rd_nil _ _ _⟩, ?_⟩
      · obtain ⟨g0, g1, g2⟩ := box_cells b9
        simp [results, Try.results34, go_sem, g0, g1, g2]
      · exact set3_below H2.out.bel (Nat.le_refl _) _ _ _
set_option maxRecDepth 100000 in
set_option maxHeartbeats 2000000 in
theorem take_deep (d : Nat) (hd : d = 16) (s : ByteArray) (hs : s.size ≤ 1099511627776) (w : World) (h : (fnd s).2.2.2 = 0) (hl : (fnd s).1 = true) :
    Calls Try.prog 34 #[.string s, .int .i64 (d : Int)] w (TkQ 0 s w) := by
  subst hd
  have hF : Hid (∀ w, Calls Try.prog 40 #[.string s] w fun e w' => e = .returned (.tuple #[.agg #[.bool (fnd s).1, .int .i64 ((fnd s).2.1 : Int), .int .i64 ((fnd s).2.2.1 : Int)], .int .i64 ((fnd s).2.2.2 : Int)]) ∧ Below w.heap.size w w') := fun w => find s w hs
  have hok := fnd_ok s h
  have HT : Hid (tk 0 s = (zIT, 0, 1)) := tk_deep s h hl
  rw [h, hl] at hF
  generalize (fnd s).2.1 = f1 at *
  generalize (fnd s).2.2.1 = t1 at *
  have hi1 : (f1 : Int) ≤ (t1 : Int) := by omega
  have hi2 : (t1 : Int) ≤ (s.size : Int) := by omega
  have bR := Bk.new w #[.bool false, .string ⟨#[]⟩, .slice none 0 0] 26
  have HR : Hid (Bk (w.alloc (.cells #[.bool false, .string ⟨#[]⟩, .slice none 0 0] 26)) w.heap.size #[.bool false, .string ⟨#[]⟩, .slice none 0 0] 26) := bR
  clear h hl bR
  go_enter Try.func34, Try.ntmps34
  go_wp2_with (go_at_call 40; refine (hF.out _).mono ?_; rintro e w1 ⟨rfl, hb1⟩; have b1 := HR.out.below hb1 HR.out.lt; have lb1 := b1.lt; obtain ⟨r0, r1, r2⟩ := box_cells b1; have f0 := b1.frozen 0; have f1' := b1.frozen 1; have f2 := b1.frozen 2; have HB : Hid (Bk w1 w.heap.size #[.bool false, .string ⟨#[]⟩, .slice none 0 0] 26 ∧ Below w.heap.size w w1) := ⟨b1, ((Below.refl _ w).alloc (Nat.le_refl _) _).trans (hb1.mono (by simp))⟩; clear b1 hb1)
  have b9 := (set3_Bk HB.out.1 (.bool false) (.string ⟨#[]⟩) (.slice none 0 0)).alloc (.cells #[.bool true, .int .i64 (f1 : Int), .int .i64 (t1 : Int)] 72)
  refine bodyPost_ret (v := .tuple #[.agg #[.bool false, .string ⟨#[]⟩, .slice none 0 0], .int .i64 0, .int .i64 1]) ?_ rfl ⟨⟨none, 0, 0, by rw [HT.out]; rfl, by rw [HT.out]; exact rd_nil _ _ _⟩, ?_⟩
  · obtain ⟨g0, g1, g2⟩ := box_cells b9
    simp [results, Try.results34, go_sem, g0, g1, g2]
  · exact (set3_below HB.out.2 (Nat.le_refl _) _ _ _).alloc (by simp; have := HB.out.2.size; omega) _
set_option maxRecDepth 100000 in
set_option maxHeartbeats 2000000 in
theorem take_list (r d : Nat) (IH : TkS r) (hd : d + (r + 1) = 16) (s : ByteArray) (hs : s.size ≤ 1099511627776) (w : World) (h : (fnd s).2.2.2 = 0) (hl : (fnd s).1 = true) :
    Calls Try.prog 34 #[.string s, .int .i64 (d : Int)] w (TkQ (r + 1) s w) := by
  have hF : Hid (∀ w, Calls Try.prog 40 #[.string s] w fun e w' => e = .returned (.tuple #[.agg #[.bool (fnd s).1, .int .i64 ((fnd s).2.1 : Int), .int .i64 ((fnd s).2.2.1 : Int)], .int .i64 ((fnd s).2.2.2 : Int)]) ∧ Below w.heap.size w w') := fun w => find s w hs
  have hok := fnd_ok s h
  have HTn : Hid (tkAll (tk r) (s.extract (fnd s).2.1 (fnd s).2.2.1) = none → tk (r + 1) s = (zIT, 0, 1)) := tk_none r s h hl
  have HTs : Hid (∀ xs, tkAll (tk r) (s.extract (fnd s).2.1 (fnd s).2.2.1) = some xs → tk (r + 1) s = (.mk true ⟨#[]⟩ xs, (fnd s).2.2.1, 0)) := fun xs => tk_some r s xs h hl
  rw [h, hl] at hF
  generalize (fnd s).2.1 = f1 at *
  generalize (fnd s).2.2.1 = t1 at *
  have hxs : (s.extract f1 t1).size ≤ 1099511627776 := by rw [ByteArray.size_extract]; omega
  have hA : Hid (∀ w, Calls Try.prog 42 #[.string (s.extract f1 t1), .int .i64 ((d : Int) + 1)] w (TaQ r (s.extract f1 t1) w)) := fun w => by
    have := takeAll r (d + 1) IH (by omega) (s.extract f1 t1) hxs w
    rw [show (((d + 1 : Nat)) : Int) = (d : Int) + 1 by omega] at this
    exact this
  have hd16 : ((d : Int) == 16) = false := by rw [beq_eq_false_iff_ne]; omega
  have hi1 : (f1 : Int) ≤ (t1 : Int) := by omega
  have hi2 : (t1 : Int) ≤ (s.size : Int) := by omega
  have bR := Bk.new w #[.bool false, .string ⟨#[]⟩, .slice none 0 0] 26
  have HR : Hid (Bk (w.alloc (.cells #[.bool false, .string ⟨#[]⟩, .slice none 0 0] 26)) w.heap.size #[.bool false, .string ⟨#[]⟩, .slice none 0 0] 26) := bR
  clear h hl bR hxs IH
  go_enter Try.func34, Try.ntmps34
  go_upto_region 9 with (go_at_call 40; refine (hF.out _).mono ?_; rintro e w1 ⟨rfl, hb1⟩; have HB1 : Hid (Bk w1 w.heap.size #[.bool false, .string ⟨#[]⟩, .slice none 0 0] 26 ∧ Below w.heap.size w w1) := ⟨HR.out.below hb1 HR.out.lt, ((Below.refl _ w).alloc (Nat.le_refl _) _).trans (hb1.mono (by simp))⟩; clear hb1)
  have HF : Hid (TkF w (w1.alloc (.cells #[.bool true, .int .i64 (f1 : Int), .int .i64 (t1 : Int)] 72)) true f1 t1 w1.heap.size) := ⟨HB1.out.1.alloc _, Bk.new _ _ _, HB1.out.1.lt, HB1.out.2.alloc HB1.out.2.size _⟩
  obtain ⟨Wf, hWf⟩ : ∃ Wf, Wf = w1.alloc (.cells #[.bool true, .int .i64 (f1 : Int), .int .i64 (t1 : Int)] 72) := ⟨_, rfl⟩
  obtain ⟨X, hX⟩ : ∃ X, X = w1.heap.size := ⟨_, rfl⟩
  rw [← hWf, ← hX] at HF
  rw [← hWf, ← hX]
  clear HB1 hWf hX
  go_wp2_with fail
  refine (hA.out _).mono ?_
  rintro e w2 ⟨(⟨xs, ad, l, c, hall, rfl, hrd⟩ | ⟨hall, rfl⟩), hb2⟩
  · have HT : Hid (tk (r + 1) s = (.mk true ⟨#[]⟩ xs, t1, 0)) := HTs.out xs hall
    have H2 : Hid (TkF w w2 true f1 t1 X ∧ RdP w2 (Wf.heap.size ≤ ·) (r + 3) xs (.slice ad l c) ∧ w.heap.size < Wf.heap.size) := ⟨HF.out.below hb2, hrd, HF.out.bR.lt⟩
    obtain ⟨r0, r1, r2⟩ := box_cells H2.out.1.bR
    obtain ⟨y0, y1, y2⟩ := box_cells H2.out.1.bX
    have f0 := H2.out.1.bR.frozen 0
    have f1' := H2.out.1.bR.frozen 1
    have f2 := H2.out.1.bR.frozen 2
    have lR := H2.out.1.bR.lt
    have lX := H2.out.1.bX.lt
    have lo := H2.out.1.lo
    have hXR : ¬ X = w.heap.size := by omega
    clear hall hrd hb2 HTn HTs
    go_upto_region 12 with fail
    go_region
    all_goals
      go_wp2_with fail
      have hd2 : TkF w w2.drew true f1 t1 X := H2.out.1.below ((Below.refl _ w2).drew)
      have b9 := set3_Bk hd2.bR (.bool true) (.string ⟨#[]⟩) (.slice ad l c)
      have b8 := set3_Bk H2.out.1.bR (.bool true) (.string ⟨#[]⟩) (.slice ad l c)
      have k0 : (w2.setCell ⟨w.heap.size, 0, none⟩ (.bool true)).cell? ⟨w.heap.size, 0, none⟩ = some (.bool true) := ((H2.out.1.bR.set 0 _ rfl).cell 0).trans (by simp)
      have k1 : ((w2.setCell ⟨w.heap.size, 0, none⟩ (.bool true)).setCell ⟨w.heap.size, 1, none⟩ (.string ⟨#[]⟩)).cell? ⟨w.heap.size, 1, none⟩ = some (.string ⟨#[]⟩) := (((H2.out.1.bR.set 0 _ rfl).set 1 _ rfl).cell 1).trans (by simp)
      refine bodyPost_ret (v := .tuple #[.agg #[.bool true, .string ⟨#[]⟩, .slice ad l c], .int .i64 (t1 : Int), .int .i64 0]) ?_ rfl ⟨⟨ad, l, c, by rw [HT.out]; rfl, ?_⟩, ?_⟩
      · obtain ⟨g0, g1, g2⟩ := box_cells b9
        obtain ⟨m0, m1, m2⟩ := box_cells b8
        simp [results, Try.results34, go_sem, g0, g1, g2, m0, m1, m2, k0, k1]
      · rw [HT.out]
        have hrd : RdP w2.drew (Wf.heap.size ≤ ·) (r + 3) xs (.slice ad l c) := RdP.same (w := w2) (w' := w2.drew) (fun _ _ => rfl) H2.out.2.1
        exact (set3_keep hrd (fun k hk => by have := H2.out.2.2; omega) _ _ _).weak (fun b hb => by have := H2.out.2.2; omega)
      · exact set3_below hd2.bel (Nat.le_refl _) _ _ _
  · have HT : Hid (tk (r + 1) s = (zIT, 0, 1)) := HTn.out hall
    have H2 : Hid (TkF w w2 true f1 t1 X) := HF.out.below hb2
    obtain ⟨r0, r1, r2⟩ := box_cells H2.out.bR
    have f0 := H2.out.bR.frozen 0
    have f1' := H2.out.bR.frozen 1
    have f2 := H2.out.bR.frozen 2
    have lR := H2.out.bR.lt
    clear hall hb2 HTn HTs
    go_wp2_with fail
    have b9 := set3_Bk H2.out.bR (.bool false) (.string ⟨#[]⟩) (.slice none 0 0)
    refine bodyPost_ret (v := .tuple #[.agg #[.bool false, .string ⟨#[]⟩, .slice none 0 0], .int .i64 0, .int .i64 1]) ?_ rfl ⟨⟨none, 0, 0, by rw [HT.out]; rfl, by rw [HT.out]; exact rd_nil _ _ _⟩, ?_⟩
    · obtain ⟨g0, g1, g2⟩ := box_cells b9
      simp [results, Try.results34, go_sem, g0, g1, g2]
    · exact set3_below H2.out.bel (Nat.le_refl _) _ _ _
theorem itake : ∀ r, TkS r
  | 0 => fun s w d hd hs => by
    by_cases h : (fnd s).2.2.2 = 0
    · cases hl : (fnd s).1 with
      | false => exact take_short 0 d hd s hs w (.inr ⟨h, hl⟩)
      | true => exact take_deep d (by omega) s hs w h hl
    · exact take_short 0 d hd s hs w (.inl h)
  | r + 1 => fun s w d hd hs => by
    have IH := itake r
    by_cases h : (fnd s).2.2.2 = 0
    · cases hl : (fnd s).1 with
      | false => exact take_short (r + 1) d hd s hs w (.inr ⟨h, hl⟩)
      | true => exact take_list r d IH hd s hs w h hl
    · exact take_short (r + 1) d hd s hs w (.inl h)
end Go.Proofs.Ytliaegnhnnnojaa

/- Texts joined: TkT TkP OfD Whl MkR BlH. -/
import Derived.Test.YtapjonmgjccpbaaTkA
import Derived.Test.YtapjonmgjccpbaaJ5
import Derived.Test.YtapjonmgjccpbaaJ2
import Derived.Test.YtapjonmgjccpbaaJ0
import Derived.Test.YtapjonmgjccpbaaJ8
section
set_option linter.unusedSimpArgs false
set_option linter.unusedVariables false
namespace Go.Proofs.Ytapjonmgjccpbaa
open Go.RowKit

/-! item.take, item.Take, item.Parse by contract. -/
theorem tk_err (r : Nat) (s : ByteArray) (h : (fnd s).2.2.2 ≠ 0) : tk r s = (zIT, 0, (fnd s).2.2.2) := by cases r <;> simp [tk, h]
theorem tk_text (r : Nat) (s : ByteArray) (h : (fnd s).2.2.2 = 0) (hl : (fnd s).1 = false) : tk r s = (.mk false (s.extract (fnd s).2.1 (fnd s).2.2.1) [], (fnd s).2.2.1, 0) := by cases r <;> simp [tk, h, hl]
theorem tk_deep (s : ByteArray) (h : (fnd s).2.2.2 = 0) (hl : (fnd s).1 = true) : tk 0 s = (zIT, 0, 1) := by simp [tk, h, hl]
theorem tk_none (r : Nat) (s : ByteArray) (h : (fnd s).2.2.2 = 0) (hl : (fnd s).1 = true) (ha : tkAll (tk r) (s.extract (fnd s).2.1 (fnd s).2.2.1) = none) : tk (r + 1) s = (zIT, 0, 1) := by simp [tk, h, hl, ha]
theorem tk_some (r : Nat) (s : ByteArray) (xs : List IT) (h : (fnd s).2.2.2 = 0) (hl : (fnd s).1 = true) (ha : tkAll (tk r) (s.extract (fnd s).2.1 (fnd s).2.2.1) = some xs) : tk (r + 1) s = (.mk true ⟨#[]⟩ xs, (fnd s).2.2.1, 0) := by simp [tk, h, hl, ha]
theorem rd_nil (w : World) (P : Nat → Prop) (n : Nat) : RdP w P (n + 1) [] (.slice none 0 0) := ⟨by simp, none, 0, rfl, fun i hi => by simp at hi⟩
/-- What item.take has made when it knows where the item lies: its result's block, the span's. -/
structure TkF (w W : World) (L : Bool) (f t : Nat) (X : Nat) : Prop where
  bR : Bk W w.heap.size #[.bool false, .string ⟨#[]⟩, .slice none 0 0] 70
  bX : Bk W X #[.bool L, .int .i64 (f : Int), .int .i64 (t : Int)] 154
  lo : w.heap.size < X
  bel : Below w.heap.size w W
theorem TkF.below {w W W' : World} {L : Bool} {f t X : Nat} (h : TkF w W L f t X) (hb : Below W.heap.size W W') : TkF w W' L f t X := ⟨h.bR.below hb h.bR.lt, h.bX.below hb h.bX.lt, h.lo, h.bel.trans (hb.mono h.bel.size)⟩
theorem set3_Bk {W : World} {b : Nat} {t : TypeId} {x y z : Value} (h : Bk W b #[x, y, z] t) (u0 u1 u2 : Value) : Bk (((W.setCell ⟨b, 0, none⟩ u0).setCell ⟨b, 1, none⟩ u1).setCell ⟨b, 2, none⟩ u2) b #[u0, u1, u2] t := ((h.set 0 _ rfl).set 1 _ rfl).set 2 _ rfl
theorem set3_below {B : Nat} {W0 W : World} {b : Nat} (h : Below B W0 W) (hb : B ≤ b) (u0 u1 u2 : Value) : Below B W0 (((W.setCell ⟨b, 0, none⟩ u0).setCell ⟨b, 1, none⟩ u1).setCell ⟨b, 2, none⟩ u2) :=
  ((h.setCell (p := ⟨b, 0, none⟩) hb _).setCell (p := ⟨b, 1, none⟩) hb _).setCell (p := ⟨b, 2, none⟩) hb _
theorem set3_keep {W : World} {b : Nat} {P : Nat → Prop} {n : Nat} {xs : List IT} {v : Value} (h : RdP W P n xs v) (hb : ∀ k, P k → k ≠ b) (u0 u1 u2 : Value) : RdP (((W.setCell ⟨b, 0, none⟩ u0).setCell ⟨b, 1, none⟩ u1).setCell ⟨b, 2, none⟩ u2) P n xs v :=
  h.same fun k hk => (Below.heap_setCell _ _ _ k (hb k hk)).trans ((Below.heap_setCell _ _ _ k (hb k hk)).trans (Below.heap_setCell _ _ _ k (hb k hk)))
set_option maxRecDepth 100000 in
set_option maxHeartbeats 2000000 in
theorem take_short (r d : Nat) (hd : d + r = 16) (s : ByteArray) (hs : s.size ≤ 1099511627776) (w : World) (h : (fnd s).2.2.2 ≠ 0 ∨ (fnd s).2.2.2 = 0 ∧ (fnd s).1 = false) :
    Calls Try.prog 94 #[.string s, .int .i64 (d : Int)] w (TkQ r s w) := by
  have hF : Hid (∀ w, Calls Try.prog 112 #[.string s] w fun e w' => e = .returned (.tuple #[.agg #[.bool (fnd s).1, .int .i64 ((fnd s).2.1 : Int), .int .i64 ((fnd s).2.2.1 : Int)], .int .i64 ((fnd s).2.2.2 : Int)]) ∧ Below w.heap.size w w') := fun w => find s w hs
  rcases h with h | ⟨h, hl⟩
  · have HT : Hid (tk r s = (zIT, 0, (fnd s).2.2.2)) := tk_err r s h
    generalize (fnd s).2.2.2 = e1 at *
    generalize (fnd s).1 = L at *
    generalize (fnd s).2.1 = fr at *
    generalize (fnd s).2.2.1 = t1 at *
    have he : ((e1 : Int) != 0) = true := by rw [bne_iff_ne]; omega
    have bR := Bk.new w #[.bool false, .string ⟨#[]⟩, .slice none 0 0] 70
    have HR : Hid (Bk (w.alloc (.cells #[.bool false, .string ⟨#[]⟩, .slice none 0 0] 70)) w.heap.size #[.bool false, .string ⟨#[]⟩, .slice none 0 0] 70) := bR
    clear h bR
    go_enter Try.func94, Try.ntmps94
    go_wp2_with (go_at_call 112; refine (hF.out _).mono ?_; rintro e w1 ⟨rfl, hb1⟩; have b1 := HR.out.below hb1 HR.out.lt; have lb1 := b1.lt; obtain ⟨r0, r1, r2⟩ := box_cells b1; have f0 := b1.frozen 0; have f1 := b1.frozen 1; have f2 := b1.frozen 2; have HB : Hid (Bk w1 w.heap.size #[.bool false, .string ⟨#[]⟩, .slice none 0 0] 70 ∧ Below w.heap.size w w1) := ⟨b1, ((Below.refl _ w).alloc (Nat.le_refl _) _).trans (hb1.mono (by simp))⟩; clear b1 hb1)
    have b9 := (set3_Bk HB.out.1 (.bool false) (.string ⟨#[]⟩) (.slice none 0 0)).alloc (.cells #[.bool L, .int .i64 (fr : Int), .int .i64 (t1 : Int)] 154)
    refine bodyPost_ret (v := .tuple #[.agg #[.bool false, .string ⟨#[]⟩, .slice none 0 0], .int .i64 0, .int .i64 (e1 : Int)]) ?_ rfl ⟨⟨none, 0, 0, by rw [HT.out]; rfl, by rw [HT.out]; exact rd_nil _ _ _⟩, ?_⟩
    · obtain ⟨g0, g1, g2⟩ := box_cells b9
      simp [results, Try.results94, go_sem, g0, g1, g2]
    · exact (set3_below HB.out.2 (Nat.le_refl _) _ _ _).alloc (by simp; have := HB.out.2.size; omega) _
  · have hok := fnd_ok s h
    have HT : Hid (tk r s = (.mk false (s.extract (fnd s).2.1 (fnd s).2.2.1) [], (fnd s).2.2.1, 0)) := tk_text r s h hl
    rw [h, hl] at hF
    generalize (fnd s).2.1 = f1 at *
    generalize (fnd s).2.2.1 = t1 at *
    have hxs : (s.extract f1 t1).size ≤ 1099511627776 := by rw [ByteArray.size_extract]; omega
    have hC : Hid (∀ w, Calls Try.prog 113 #[.string (s.extract f1 t1)] w fun e w' => e = .returned (.string (s.extract f1 t1)) ∧ Below w.heap.size w w') := fun w => sclone _ w hxs
    have hi1 : (f1 : Int) ≤ (t1 : Int) := by omega
    have hi2 : (t1 : Int) ≤ (s.size : Int) := by omega
    have bR := Bk.new w #[.bool false, .string ⟨#[]⟩, .slice none 0 0] 70
    have HR : Hid (Bk (w.alloc (.cells #[.bool false, .string ⟨#[]⟩, .slice none 0 0] 70)) w.heap.size #[.bool false, .string ⟨#[]⟩, .slice none 0 0] 70) := bR
    clear h hl bR hxs
    go_enter Try.func94, Try.ntmps94
    go_upto_region 6 with (go_at_call 112; refine (hF.out _).mono ?_; rintro e w1 ⟨rfl, hb1⟩; have HB1 : Hid (Bk w1 w.heap.size #[.bool false, .string ⟨#[]⟩, .slice none 0 0] 70 ∧ Below w.heap.size w w1) := ⟨HR.out.below hb1 HR.out.lt, ((Below.refl _ w).alloc (Nat.le_refl _) _).trans (hb1.mono (by simp))⟩; clear hb1)
    have HF : Hid (TkF w (w1.alloc (.cells #[.bool false, .int .i64 (f1 : Int), .int .i64 (t1 : Int)] 154)) false f1 t1 w1.heap.size) := ⟨HB1.out.1.alloc _, Bk.new _ _ _, HB1.out.1.lt, HB1.out.2.alloc HB1.out.2.size _⟩
    obtain ⟨Wf, hWf⟩ : ∃ Wf, Wf = w1.alloc (.cells #[.bool false, .int .i64 (f1 : Int), .int .i64 (t1 : Int)] 154) := ⟨_, rfl⟩
    obtain ⟨X, hX⟩ : ∃ X, X = w1.heap.size := ⟨_, rfl⟩
    rw [← hWf, ← hX] at HF
    rw [← hWf, ← hX]
    obtain ⟨x0, x1, x2⟩ := box_cells HF.out.bX
    clear HB1 hWf hX
    go_region_law (go_simp; go_at_call 113; refine (hC.out _).mono ?_; rintro e w2 ⟨rfl, hb2⟩; have H2 : Hid (TkF w w2 false f1 t1 X) := HF.out.below (((Below.refl _ Wf).drew).trans hb2); obtain ⟨r0, r1, r2⟩ := box_cells H2.out.bR; obtain ⟨y0, y1, y2⟩ := box_cells H2.out.bX; have f0 := H2.out.bR.frozen 0; have f1' := H2.out.bR.frozen 1; have f2 := H2.out.bR.frozen 2; have lR := H2.out.bR.lt; have lX := H2.out.bX.lt; have lo := H2.out.lo; clear hb2)
    all_goals
      go_wp2_with fail
      have b9 := set3_Bk H2.out.bR (.bool false) (.string (s.extract f1 t1)) (.slice none 0 0)
      refine bodyPost_ret (v := .tuple #[.agg #[.bool false, .string (s.extract f1 t1), .slice none 0 0], .int .i64 (t1 : Int), .int .i64 0]) ?_ rfl ⟨⟨none, 0, 0, by rw [HT.out]; rfl, by rw [HT.out]; exact rd_nil _ _ _⟩, ?_⟩
      · obtain ⟨g0, g1, g2⟩ := box_cells b9
        simp [results, Try.results94, go_sem, g0, g1, g2]
      · exact set3_below H2.out.bel (Nat.le_refl _) _ _ _
set_option maxRecDepth 100000 in
set_option maxHeartbeats 2000000 in
theorem take_deep (d : Nat) (hd : d = 16) (s : ByteArray) (hs : s.size ≤ 1099511627776) (w : World) (h : (fnd s).2.2.2 = 0) (hl : (fnd s).1 = true) :
    Calls Try.prog 94 #[.string s, .int .i64 (d : Int)] w (TkQ 0 s w) := by
  subst hd
  have hF : Hid (∀ w, Calls Try.prog 112 #[.string s] w fun e w' => e = .returned (.tuple #[.agg #[.bool (fnd s).1, .int .i64 ((fnd s).2.1 : Int), .int .i64 ((fnd s).2.2.1 : Int)], .int .i64 ((fnd s).2.2.2 : Int)]) ∧ Below w.heap.size w w') := fun w => find s w hs
  have hok := fnd_ok s h
  have HT : Hid (tk 0 s = (zIT, 0, 1)) := tk_deep s h hl
  rw [h, hl] at hF
  generalize (fnd s).2.1 = f1 at *
  generalize (fnd s).2.2.1 = t1 at *
  have hi1 : (f1 : Int) ≤ (t1 : Int) := by omega
  have hi2 : (t1 : Int) ≤ (s.size : Int) := by omega
  have bR := Bk.new w #[.bool false, .string ⟨#[]⟩, .slice none 0 0] 70
  have HR : Hid (Bk (w.alloc (.cells #[.bool false, .string ⟨#[]⟩, .slice none 0 0] 70)) w.heap.size #[.bool false, .string ⟨#[]⟩, .slice none 0 0] 70) := bR
  clear h hl bR
  go_enter Try.func94, Try.ntmps94
  go_wp2_with (go_at_call 112; refine (hF.out _).mono ?_; rintro e w1 ⟨rfl, hb1⟩; have b1 := HR.out.below hb1 HR.out.lt; have lb1 := b1.lt; obtain ⟨r0, r1, r2⟩ := box_cells b1; have f0 := b1.frozen 0; have f1' := b1.frozen 1; have f2 := b1.frozen 2; have HB : Hid (Bk w1 w.heap.size #[.bool false, .string ⟨#[]⟩, .slice none 0 0] 70 ∧ Below w.heap.size w w1) := ⟨b1, ((Below.refl _ w).alloc (Nat.le_refl _) _).trans (hb1.mono (by simp))⟩; clear b1 hb1)
  have b9 := (set3_Bk HB.out.1 (.bool false) (.string ⟨#[]⟩) (.slice none 0 0)).alloc (.cells #[.bool true, .int .i64 (f1 : Int), .int .i64 (t1 : Int)] 154)
  refine bodyPost_ret (v := .tuple #[.agg #[.bool false, .string ⟨#[]⟩, .slice none 0 0], .int .i64 0, .int .i64 1]) ?_ rfl ⟨⟨none, 0, 0, by rw [HT.out]; rfl, by rw [HT.out]; exact rd_nil _ _ _⟩, ?_⟩
  · obtain ⟨g0, g1, g2⟩ := box_cells b9
    simp [results, Try.results94, go_sem, g0, g1, g2]
  · exact (set3_below HB.out.2 (Nat.le_refl _) _ _ _).alloc (by simp; have := HB.out.2.size; omega) _
set_option maxRecDepth 100000 in
set_option maxHeartbeats 2000000 in
theorem take_list (r d : Nat) (IH : TkS r) (hd : d + (r + 1) = 16) (s : ByteArray) (hs : s.size ≤ 1099511627776) (w : World) (h : (fnd s).2.2.2 = 0) (hl : (fnd s).1 = true) :
    Calls Try.prog 94 #[.string s, .int .i64 (d : Int)] w (TkQ (r + 1) s w) := by
  have hF : Hid (∀ w, Calls Try.prog 112 #[.string s] w fun e w' => e = .returned (.tuple #[.agg #[.bool (fnd s).1, .int .i64 ((fnd s).2.1 : Int), .int .i64 ((fnd s).2.2.1 : Int)], .int .i64 ((fnd s).2.2.2 : Int)]) ∧ Below w.heap.size w w') := fun w => find s w hs
  have hok := fnd_ok s h
  have HTn : Hid (tkAll (tk r) (s.extract (fnd s).2.1 (fnd s).2.2.1) = none → tk (r + 1) s = (zIT, 0, 1)) := tk_none r s h hl
  have HTs : Hid (∀ xs, tkAll (tk r) (s.extract (fnd s).2.1 (fnd s).2.2.1) = some xs → tk (r + 1) s = (.mk true ⟨#[]⟩ xs, (fnd s).2.2.1, 0)) := fun xs => tk_some r s xs h hl
  rw [h, hl] at hF
  generalize (fnd s).2.1 = f1 at *
  generalize (fnd s).2.2.1 = t1 at *
  have hxs : (s.extract f1 t1).size ≤ 1099511627776 := by rw [ByteArray.size_extract]; omega
  have hA : Hid (∀ w, Calls Try.prog 114 #[.string (s.extract f1 t1), .int .i64 ((d : Int) + 1)] w (TaQ r (s.extract f1 t1) w)) := fun w => by
    have := takeAll r (d + 1) IH (by omega) (s.extract f1 t1) hxs w
    rw [show (((d + 1 : Nat)) : Int) = (d : Int) + 1 by omega] at this
    exact this
  have hd16 : ((d : Int) == 16) = false := by rw [beq_eq_false_iff_ne]; omega
  have hi1 : (f1 : Int) ≤ (t1 : Int) := by omega
  have hi2 : (t1 : Int) ≤ (s.size : Int) := by omega
  have bR := Bk.new w #[.bool false, .string ⟨#[]⟩, .slice none 0 0] 70
  have HR : Hid (Bk (w.alloc (.cells #[.bool false, .string ⟨#[]⟩, .slice none 0 0] 70)) w.heap.size #[.bool false, .string ⟨#[]⟩, .slice none 0 0] 70) := bR
  clear h hl bR hxs IH
  go_enter Try.func94, Try.ntmps94
  go_upto_region 9 with (go_at_call 112; refine (hF.out _).mono ?_; rintro e w1 ⟨rfl, hb1⟩; have HB1 : Hid (Bk w1 w.heap.size #[.bool false, .string ⟨#[]⟩, .slice none 0 0] 70 ∧ Below w.heap.size w w1) := ⟨HR.out.below hb1 HR.out.lt, ((Below.refl _ w).alloc (Nat.le_refl _) _).trans (hb1.mono (by simp))⟩; clear hb1)
  have HF : Hid (TkF w (w1.alloc (.cells #[.bool true, .int .i64 (f1 : Int), .int .i64 (t1 : Int)] 154)) true f1 t1 w1.heap.size) := ⟨HB1.out.1.alloc _, Bk.new _ _ _, HB1.out.1.lt, HB1.out.2.alloc HB1.out.2.size _⟩
  obtain ⟨Wf, hWf⟩ : ∃ Wf, Wf = w1.alloc (.cells #[.bool true, .int .i64 (f1 : Int), .int .i64 (t1 : Int)] 154) := ⟨_, rfl⟩
  obtain ⟨X, hX⟩ : ∃ X, X = w1.heap.size := ⟨_, rfl⟩
  rw [← hWf, ← hX] at HF
  rw [← hWf, ← hX]
  clear HB1 hWf hX
  go_wp2_with fail
  refine (hA.out _).mono ?_
  rintro e w2 ⟨(⟨xs, ad, l, c, hall, rfl, hrd⟩ | ⟨hall, rfl⟩), hb2⟩
  · have HT : Hid (tk (r + 1) s = (.mk true ⟨#[]⟩ xs, t1, 0)) := HTs.out xs hall
    have H2 : Hid (TkF w w2 true f1 t1 X ∧ RdP w2 (Wf.heap.size ≤ ·) (r + 3) xs (.slice ad l c) ∧ w.heap.size < Wf.heap.size) := ⟨HF.out.below hb2, hrd, HF.out.bR.lt⟩
    obtain ⟨r0, r1, r2⟩ := box_cells H2.out.1.bR
    obtain ⟨y0, y1, y2⟩ := box_cells H2.out.1.bX
    have f0 := H2.out.1.bR.frozen 0
    have f1' := H2.out.1.bR.frozen 1
    have f2 := H2.out.1.bR.frozen 2
    have lR := H2.out.1.bR.lt
    have lX := H2.out.1.bX.lt
    have lo := H2.out.1.lo
    have hXR : ¬ X = w.heap.size := by omega
    clear hall hrd hb2 HTn HTs
    go_upto_region 12 with fail
    go_region
    all_goals
      go_wp2_with fail
      have hd2 : TkF w w2.drew true f1 t1 X := H2.out.1.below ((Below.refl _ w2).drew)
      have b9 := set3_Bk hd2.bR (.bool true) (.string ⟨#[]⟩) (.slice ad l c)
      have b8 := set3_Bk H2.out.1.bR (.bool true) (.string ⟨#[]⟩) (.slice ad l c)
      have k0 : (w2.setCell ⟨w.heap.size, 0, none⟩ (.bool true)).cell? ⟨w.heap.size, 0, none⟩ = some (.bool true) := ((H2.out.1.bR.set 0 _ rfl).cell 0).trans (by simp)
      have k1 : ((w2.setCell ⟨w.heap.size, 0, none⟩ (.bool true)).setCell ⟨w.heap.size, 1, none⟩ (.string ⟨#[]⟩)).cell? ⟨w.heap.size, 1, none⟩ = some (.string ⟨#[]⟩) := (((H2.out.1.bR.set 0 _ rfl).set 1 _ rfl).cell 1).trans (by simp)
      refine bodyPost_ret (v := .tuple #[.agg #[.bool true, .string ⟨#[]⟩, .slice ad l c], .int .i64 (t1 : Int), .int .i64 0]) ?_ rfl ⟨⟨ad, l, c, by rw [HT.out]; rfl, ?_⟩, ?_⟩
      · obtain ⟨g0, g1, g2⟩ := box_cells b9
        obtain ⟨m0, m1, m2⟩ := box_cells b8
        simp [results, Try.results94, go_sem, g0, g1, g2, m0, m1, m2, k0, k1]
      · rw [HT.out]
        have hrd : RdP w2.drew (Wf.heap.size ≤ ·) (r + 3) xs (.slice ad l c) := RdP.same (w := w2) (w' := w2.drew) (fun _ _ => rfl) H2.out.2.1
        exact (set3_keep hrd (fun k hk => by have := H2.out.2.2; omega) _ _ _).weak (fun b hb => by have := H2.out.2.2; omega)
      · exact set3_below hd2.bel (Nat.le_refl _) _ _ _
  · have HT : Hid (tk (r + 1) s = (zIT, 0, 1)) := HTn.out hall
    have H2 : Hid (TkF w w2 true f1 t1 X) := HF.out.below hb2
    obtain ⟨r0, r1, r2⟩ := box_cells H2.out.bR
    have f0 := H2.out.bR.frozen 0
    have f1' := H2.out.bR.frozen 1
    have f2 := H2.out.bR.frozen 2
    have lR := H2.out.bR.lt
    clear hall hb2 HTn HTs
    go_wp2_with fail
    have b9 := set3_Bk H2.out.bR (.bool false) (.string ⟨#[]⟩) (.slice none 0 0)
    refine bodyPost_ret (v := .tuple #[.agg #[.bool false, .string ⟨#[]⟩, .slice none 0 0], .int .i64 0, .int .i64 1]) ?_ rfl ⟨⟨none, 0, 0, by rw [HT.out]; rfl, by rw [HT.out]; exact rd_nil _ _ _⟩, ?_⟩
    · obtain ⟨g0, g1, g2⟩ := box_cells b9
      simp [results, Try.results94, go_sem, g0, g1, g2]
    · exact set3_below H2.out.bel (Nat.le_refl _) _ _ _
theorem itake : ∀ r, TkS r
  | 0 => fun s w d hd hs => by
    by_cases h : (fnd s).2.2.2 = 0
    · cases hl : (fnd s).1 with
      | false => exact take_short 0 d hd s hs w (.inr ⟨h, hl⟩)
      | true => exact take_deep d (by omega) s hs w h hl
    · exact take_short 0 d hd s hs w (.inl h)
  | r + 1 => fun s w d hd hs => by
    have IH := itake r
    by_cases h : (fnd s).2.2.2 = 0
    · cases hl : (fnd s).1 with
      | false => exact take_short (r + 1) d hd s hs w (.inr ⟨h, hl⟩)
      | true => exact take_list r d IH hd s hs w h hl
    · exact take_short (r + 1) d hd s hs w (.inl h)
end Go.Proofs.Ytapjonmgjccpbaa
end
section
set_option linter.unusedSimpArgs false
set_option linter.unusedVariables false
namespace Go.Proofs.Ytapjonmgjccpbaa
open Go.RowKit

/-! item.Take, item.Parse by contract. -/
def tk0 (s : ByteArray) : TR := tk 16 s
def TaQ0 (s : ByteArray) (w : World) (e : Ending) (w' : World) : Prop :=
  (∃ ad l c, e = .returned (.tuple #[.agg #[.bool (tk0 s).1.list, .string (tk0 s).1.text, .slice ad l c], .int .i64 ((tk0 s).2.1 : Int), .int .i64 ((tk0 s).2.2 : Int)]) ∧ RdP w' (w.heap.size ≤ ·) 18 (tk0 s).1.items (.slice ad l c)) ∧ Below w.heap.size w w'
set_option maxRecDepth 100000 in
set_option maxHeartbeats 2000000 in
theorem iTake (s : ByteArray) (w : World) (hs : s.size ≤ 1099511627776) : Calls Try.prog 65 #[.string s] w (TaQ0 s w) := by
  have HC : Hid (∀ w, Calls Try.prog 94 #[.string s, .int .i64 0] w fun e w' => (∃ ad l c, e = .returned (.tuple #[.agg #[.bool (tk0 s).1.list, .string (tk0 s).1.text, .slice ad l c], .int .i64 ((tk0 s).2.1 : Int), .int .i64 ((tk0 s).2.2 : Int)]) ∧ RdP w' (w.heap.size ≤ ·) 18 (tk0 s).1.items (.slice ad l c)) ∧ Below w.heap.size w w') := fun w => itake 16 s w 0 rfl hs
  obtain ⟨T, hT⟩ : ∃ T, T = tk0 s := ⟨_, rfl⟩
  show Calls Try.prog _ _ w fun e w' => (∃ ad l c, e = .returned (.tuple #[.agg #[.bool (tk0 s).1.list, .string (tk0 s).1.text, .slice ad l c], .int .i64 ((tk0 s).2.1 : Int), .int .i64 ((tk0 s).2.2 : Int)]) ∧ RdP w' (w.heap.size ≤ ·) 18 (tk0 s).1.items (.slice ad l c)) ∧ Below w.heap.size w w'
  rw [← hT] at HC ⊢
  obtain ⟨t1, k1, e1⟩ := T
  clear hT
  have bR := Bk.new w #[.bool false, .string ⟨#[]⟩, .slice none 0 0] 70
  have HR : Hid (Bk (w.alloc (.cells #[.bool false, .string ⟨#[]⟩, .slice none 0 0] 70)) w.heap.size #[.bool false, .string ⟨#[]⟩, .slice none 0 0] 70) := bR
  clear bR
  go_enter Try.func65, Try.ntmps65
  go_wp2_with fail
  refine (HC.out _).mono ?_
  rintro e w1 ⟨⟨ad, l, c, rfl, hrd⟩, hb1⟩
  have b1 := HR.out.below hb1 HR.out.lt
  have HB : Hid (Bk w1 w.heap.size #[.bool false, .string ⟨#[]⟩, .slice none 0 0] 70 ∧ Below w.heap.size w w1 ∧ RdP w1 (w.heap.size + 1 ≤ ·) 18 t1.items (.slice ad l c)) := ⟨b1, ((Below.refl _ w).alloc (Nat.le_refl _) _).trans (hb1.mono (by simp)), by simpa using hrd⟩
  have lb1 := b1.lt
  obtain ⟨r0, r1, r2⟩ := box_cells b1
  have f0 := b1.frozen 0
  have f1 := b1.frozen 1
  have f2 := b1.frozen 2
  clear b1 hb1 hrd
  go_wp2_with fail
  have b9 := set3_Bk HB.out.1 (.bool t1.list) (.string t1.text) (.slice ad l c)
  refine bodyPost_ret (v := .tuple #[.agg #[.bool t1.list, .string t1.text, .slice ad l c], .int .i64 (k1 : Int), .int .i64 (e1 : Int)]) ?_ rfl ⟨⟨ad, l, c, rfl, ?_⟩, ?_⟩
  · obtain ⟨g0, g1, g2⟩ := box_cells b9
    simp [results, Try.results65, go_sem, g0, g1, g2]
  · exact (set3_keep HB.out.2.2 (fun k hk => by omega) _ _ _).weak (fun b hb => by omega)
  · exact set3_below HB.out.2.1 (Nat.le_refl _) _ _ _
def pz (s : ByteArray) : IT × Nat := if (tk0 s).2.2 ≠ 0 then (zIT, (tk0 s).2.2) else if (tk0 s).2.1 < s.size then (zIT, 1) else ((tk0 s).1, 0)
def PaQ (s : ByteArray) (w : World) (e : Ending) (w' : World) : Prop :=
  (∃ ad l c, e = .returned (.tuple #[.agg #[.bool (pz s).1.list, .string (pz s).1.text, .slice ad l c], .int .i64 ((pz s).2 : Int)]) ∧ RdP w' (w.heap.size ≤ ·) 18 (pz s).1.items (.slice ad l c)) ∧ Below w.heap.size w w'
set_option maxRecDepth 100000 in
set_option maxHeartbeats 2000000 in
theorem iParse (s : ByteArray) (w : World) (hs : s.size ≤ 1099511627776) : Calls Try.prog 37 #[.string s] w (PaQ s w) := by
  have HC : Hid (∀ w, Calls Try.prog 65 #[.string s] w fun e w' => (∃ ad l c, e = .returned (.tuple #[.agg #[.bool (tk0 s).1.list, .string (tk0 s).1.text, .slice ad l c], .int .i64 ((tk0 s).2.1 : Int), .int .i64 ((tk0 s).2.2 : Int)]) ∧ RdP w' (w.heap.size ≤ ·) 18 (tk0 s).1.items (.slice ad l c)) ∧ Below w.heap.size w w') := fun w => iTake s w hs
  have HP : Hid (pz s = if (tk0 s).2.2 ≠ 0 then (zIT, (tk0 s).2.2) else if (tk0 s).2.1 < s.size then (zIT, 1) else ((tk0 s).1, 0)) := rfl
  have hpr := tk_prog 16 s
  have hpr : (tk0 s).2.2 = 0 → (tk0 s).2.1 ≤ s.size := fun h => (hpr h).2
  obtain ⟨T, hT⟩ : ∃ T, T = tk0 s := ⟨_, rfl⟩
  rw [← hT] at HC HP hpr
  obtain ⟨t1, k1, e1⟩ := T
  clear hT
  have bR := Bk.new w #[.bool false, .string ⟨#[]⟩, .slice none 0 0] 70
  have HR : Hid (Bk (w.alloc (.cells #[.bool false, .string ⟨#[]⟩, .slice none 0 0] 70)) w.heap.size #[.bool false, .string ⟨#[]⟩, .slice none 0 0] 70) := bR
  clear bR
  go_enter Try.func37, Try.ntmps37
  go_wp2_with fail
  refine (HC.out _).mono ?_
  rintro e w1 ⟨⟨ad, l, c, rfl, hrd⟩, hb1⟩
  have b1 := (HR.out.below hb1 HR.out.lt).alloc (.cells #[.bool t1.list, .string t1.text, .slice ad l c] 70)
  have bX := Bk.new w1 #[.bool t1.list, .string t1.text, .slice ad l c] 70
  have hlt1 := (HR.out.below hb1 HR.out.lt).lt
  have HB : Hid (Bk w1 w.heap.size #[.bool false, .string ⟨#[]⟩, .slice none 0 0] 70 ∧ Below w.heap.size w w1 ∧ RdP w1 (w.heap.size + 1 ≤ ·) 18 t1.items (.slice ad l c)) := ⟨HR.out.below hb1 HR.out.lt, ((Below.refl _ w).alloc (Nat.le_refl _) _).trans (hb1.mono (by simp)), by simpa using hrd⟩
  obtain ⟨r0, r1, r2⟩ := box_cells (HR.out.below hb1 HR.out.lt)
  have f0 := (HR.out.below hb1 HR.out.lt).frozen 0
  have f1 := (HR.out.below hb1 HR.out.lt).frozen 1
  have f2 := (HR.out.below hb1 HR.out.lt).frozen 2
  clear b1 hb1 hrd bX
  by_cases he : e1 = 0
  · have he' : ((e1 : Int) != 0) = false := by rw [bne_eq_false_iff_eq]; omega
    by_cases hk : k1 < s.size
    · have hk' : decide ((k1 : Int) < (s.size : Int)) = true := decide_eq_true (by omega)
      have hk'' : decide (k1 < s.size) = true := decide_eq_true hk
      have HE : Hid (pz s = (zIT, 1)) := by show _ = _; rw [HP.out, if_neg (by simpa using he), if_pos hk]
      clear he hk HP hpr
      go_wp2_with fail
      have b9 := (set3_Bk HB.out.1 (.bool false) (.string ⟨#[]⟩) (.slice none 0 0)).alloc (.cells #[.bool t1.list, .string t1.text, .slice ad l c] 70)
      refine bodyPost_ret (v := .tuple #[.agg #[.bool false, .string ⟨#[]⟩, .slice none 0 0], .int .i64 1]) ?_ rfl ⟨⟨none, 0, 0, by rw [HE.out]; rfl, by rw [HE.out]; exact rd_nil _ _ _⟩, ?_⟩
      · obtain ⟨g0, g1, g2⟩ := box_cells b9
        simp [results, Try.results37, go_sem, g0, g1, g2]
      · exact (set3_below HB.out.2.1 (Nat.le_refl _) _ _ _).alloc (by simp; have := HB.out.2.1.size; omega) _
    · have hk' : decide ((k1 : Int) < (s.size : Int)) = false := decide_eq_false (by omega)
      have hk'' : decide (k1 < s.size) = false := decide_eq_false hk
      have HE : Hid (pz s = (t1, 0)) := by show _ = _; rw [HP.out, if_neg (by simpa using he), if_neg hk]
      clear he hk HP hpr
      go_wp2_with fail
      have b9 := (set3_Bk HB.out.1 (.bool t1.list) (.string t1.text) (.slice ad l c)).alloc (.cells #[.bool t1.list, .string t1.text, .slice ad l c] 70)
      refine bodyPost_ret (v := .tuple #[.agg #[.bool t1.list, .string t1.text, .slice ad l c], .int .i64 0]) ?_ rfl ⟨⟨ad, l, c, by rw [HE.out]; rfl, ?_⟩, ?_⟩
      · obtain ⟨g0, g1, g2⟩ := box_cells b9
        simp [results, Try.results37, go_sem, g0, g1, g2]
      · rw [HE.out]
        exact ((set3_keep HB.out.2.2 (fun k hk => by omega) _ _ _).keep fun b _ hl => Below.heap_alloc _ _ b hl).weak (fun b hb => by omega)
      · exact (set3_below HB.out.2.1 (Nat.le_refl _) _ _ _).alloc (by simp; have := HB.out.2.1.size; omega) _
  · have he' : ((e1 : Int) != 0) = true := by rw [bne_iff_ne]; omega
    have HE : Hid (pz s = (zIT, e1)) := by show _ = _; rw [HP.out, if_pos (by simpa using he)]
    clear he HP hpr
    go_wp2_with fail
    have b9 := (set3_Bk HB.out.1 (.bool false) (.string ⟨#[]⟩) (.slice none 0 0)).alloc (.cells #[.bool t1.list, .string t1.text, .slice ad l c] 70)
    refine bodyPost_ret (v := .tuple #[.agg #[.bool false, .string ⟨#[]⟩, .slice none 0 0], .int .i64 (e1 : Int)]) ?_ rfl ⟨⟨none, 0, 0, by rw [HE.out]; rfl, by rw [HE.out]; exact rd_nil _ _ _⟩, ?_⟩
    · obtain ⟨g0, g1, g2⟩ := box_cells b9
      simp [results, Try.results37, go_sem, g0, g1, g2]
    · exact (set3_below HB.out.2.1 (Nat.le_refl _) _ _ _).alloc (by simp; have := HB.out.2.1.size; omega) _
end Go.Proofs.Ytapjonmgjccpbaa
end
section
set_option linter.unusedSimpArgs false
set_option linter.unusedVariables false
namespace Go.Proofs.Ytapjonmgjccpbaa
open Go.RowKit

/-! u256.Of. -/
theorem of_yes (n : Nat) (h : n ≤ 9223372036854775807) (w : World) :
    Calls Try.prog 102 #[.int .i64 n] w fun e w' => e = .returned (.tuple #[V n, .int .i64 0]) ∧ Below w.heap.size w w' := by
  rw [V_small n (by omega)]
  have hn : ¬ ((n : Int) < 0) := by omega
  have hw : IntKind.u64.wrap (n : Int) = n := by rw [IntKind.wrap_u64]; omega
  go_enter Try.func102, Try.ntmps102
  go_wp2
  refine bodyPost_ret (v := .tuple #[.agg (A4 n 0 0 0), .int .i64 0]) ?_ rfl ⟨rfl, ?_⟩
  · simp [results, Try.results102, go_sem]
  · exact (Below.refl _ _).alloc (Nat.le_refl _) _
theorem of_no (n : Int) (h : n < 0) (w : World) :
    Calls Try.prog 102 #[.int .i64 n] w fun e w' => e = .returned (.tuple #[V 0, .int .i64 1]) ∧ Below w.heap.size w w' := by
  rw [V_zero]
  go_enter Try.func102, Try.ntmps102
  go_wp2
  refine bodyPost_ret (v := .tuple #[.agg (A4 0 0 0 0), .int .i64 1]) ?_ rfl ⟨rfl, ?_⟩
  · simp [results, Try.results102, go_sem]
  · exact (Below.refl _ _).alloc (Nat.le_refl _) _
end Go.Proofs.Ytapjonmgjccpbaa
end
section
set_option linter.unusedSimpArgs false
set_option linter.unusedVariables false
namespace Go.Proofs.Ytapjonmgjccpbaa
open Go.RowKit

/-! tx.whole. -/
set_option maxHeartbeats 1000000 in
theorem whole (n : Nat) (h : n ≤ 9223372036854775807) (w : World) :
    Calls Try.prog 81 #[.int .i64 n] w fun e w' => e = .returned (V n) ∧ Below w.heap.size w w' := by
  have HO : Hid (∀ w, Calls Try.prog 102 #[.int .i64 n] w fun e w' => e = .returned (.tuple #[V n, .int .i64 0]) ∧ Below w.heap.size w w') := fun w => of_yes n h w
  go_enter Try.func81, Try.ntmps81
  go_wp2_with (go_at_call 102; refine (HO.out _).mono ?_; rintro e w1 ⟨rfl, hb1⟩; have bR := (Bk.new w (A4 0 0 0 0) 26).below hb1 (by simp); have r0 := bR.cell 0; have r1 := bR.cell 1; have r2 := bR.cell 2; have r3 := bR.cell 3; simp only [List.getElem?_toArray, List.getElem?_cons_zero, List.getElem?_cons_succ] at r0 r1 r2 r3; have f0 := bR.frozen 0; have f1 := bR.frozen 1; have f2 := bR.frozen 2; have f3 := bR.frozen 3; have lR := bR.lt)
  have HBz := set4_below (((Below.refl _ w).alloc (Nat.le_refl _) (.cells (A4 0 0 0 0) 26)).trans (hb1.mono (by simp))) (b := w.heap.size) (Nat.le_refl _) (.int .u64 (lb n 0)) (.int .u64 (lb n 1)) (.int .u64 (lb n 2)) (.int .u64 (lb n 3))
  have bQ := (set4_Bk bR (.int .u64 (lb n 0)) (.int .u64 (lb n 1)) (.int .u64 (lb n 2)) (.int .u64 (lb n 3))).alloc (.cells (A4 (lb n 0) (lb n 1) (lb n 2) (lb n 3)) 26)
  have s0 := bQ.cell 0
  have s1 := bQ.cell 1
  have s2 := bQ.cell 2
  have s3 := bQ.cell 3
  simp only [List.getElem?_toArray, List.getElem?_cons_zero, List.getElem?_cons_succ] at s0 s1 s2 s3
  refine bodyPost_ret (v := V n) ?_ rfl ⟨rfl, HBz.alloc HBz.size _⟩
  simp [results, Try.results81, go_sem, s0, s1, s2, s3]
end Go.Proofs.Ytapjonmgjccpbaa
end
section
set_option linter.unusedSimpArgs false
set_option linter.unusedVariables false
namespace Go.Proofs.Ytapjonmgjccpbaa
open Go.RowKit

/-! tarnref4.Mark. -/
set_option maxRecDepth 100000 in
set_option maxHeartbeats 1000000 in
theorem rmarkq (s : ByteArray) (hs : s.size ≤ 4611686018427387904) (w : World) :
    Calls Try.prog 63 #[.string s] w fun e w' => e = .returned (.int .u64 (mk s : Int)) ∧ w' = w := by
  go_enter Try.func63, Try.ntmps63
  go_wp2
  go_loopw [3, 4] (fun m i wr => ∃ k : Nat, k ≤ s.size ∧ m = .int .u64 (mkf (ees s k) : Int) ∧ i = .int .i64 k ∧ wr = w) (fun _ i _ => s.size - (intOf i).toNat)
  case atStart => exact ⟨0, by omega, by rw [show ees s 0 = [] from rfl, mkf_nil]; rfl, rfl, rfl⟩
  case round =>
    obtain ⟨k, hk, rfl, rfl, rfl⟩ := hrel
    by_cases hlt : k < s.size
    · have hlt' : (k : Int) < (s.size : Int) := by omega
      have hix := fun w => idx_str s (k : Int) k hlt rfl w
      have hv := mstep_val (mkf (ees s k)) s[k].toNat (mkf_lt _) (byte_lt _)
      have HS : Hid (mkf (ees s (k + 1)) = mstep (mkf (ees s k)) s[k].toNat) := by show _ = _; rw [ees_succ, mkf_snoc, byt_eq s k hlt]
      have hb8 := byte_lt s[k]
      generalize mkf (ees s k) = m at *
      go_wp2
      go_roundw
      case rel => exact ⟨k + 1, by omega, by rw [HS.out], by go_num, trivial⟩
      case measure => simp [intOf]; omega
    · have hlt' : ¬ (k : Int) < (s.size : Int) := by omega
      obtain rfl : k = s.size := by omega
      go_wp2
      go_ret
      exact ⟨rfl, rfl⟩
theorem rmark (s : ByteArray) (hs : s.size ≤ 4611686018427387904) (w : World) :
    Calls Try.prog 63 #[.string s] w fun e w' => e = .returned (.int .u64 (mk s : Int)) ∧ Below w.heap.size w w' :=
  (rmarkq s hs w).mono fun e w' h => ⟨h.1, by rw [h.2]; exact Below.refl _ _⟩
end Go.Proofs.Ytapjonmgjccpbaa
end
section
set_option linter.unusedSimpArgs false
set_option linter.unusedVariables false
namespace Go.Proofs.Ytapjonmgjccpbaa
open Go.RowKit

/-! blob.Hash, blob.Gas, blob.counts; the page's Hash. -/
def blp (b : ByteArray) : ByteArray := ⟨#[98, 108, 111, 98]⟩ ++ b
theorem blp_size (b : ByteArray) : (blp b).size = b.size + 4 := by
  unfold blp
  rw [ByteArray.size_append]
  show 4 + b.size = _
  omega
def hV (b : ByteArray) : Nat := if 64 < b.size then 0 else mk (blp b)
def hE (b : ByteArray) : Int := if 64 < b.size then 2 else 0
theorem hV_lt (b : ByteArray) : hV b < 18446744073709551616 := by
  unfold hV
  split
  · omega
  · exact mk_lt _
set_option maxRecDepth 100000 in
set_option maxHeartbeats 1000000 in
theorem hash (b : ByteArray) (w : World) :
    Calls Try.prog 121 #[.string b] w fun e w' => e = .returned (.tuple #[.int .u64 (hV b : Int), .int .i64 (hE b)]) ∧ Below w.heap.size w w' := by
  by_cases h : 64 < b.size
  · have h' : 64 < (b.size : Int) := by omega
    have HV : Hid (hV b = 0 ∧ hE b = 2) := ⟨if_pos h, if_pos h⟩
    go_enter Try.func121, Try.ntmps121
    go_wp2
    go_ret2
    exact ⟨by rw [HV.out.1, HV.out.2]; rfl, Below.refl _ _⟩
  · have h' : ¬ 64 < (b.size : Int) := by omega
    have HV : Hid (hV b = mk (blp b) ∧ hE b = 0) := ⟨if_neg h, if_neg h⟩
    have HM : Hid (∀ w, Calls Try.prog 129 #[.string (⟨#[98, 108, 111, 98]⟩ ++ b)] w fun e w' => e = .returned (.int .u64 (mk (blp b) : Int)) ∧ Below w.heap.size w w') := fun w => mark (blp b) (by rw [blp_size]; omega) w
    go_enter Try.func121, Try.ntmps121
    go_wp2_with fail
    refine (HM.out _).mono ?_
    rintro e w1 ⟨rfl, hb1⟩
    go_wp2
    go_ret2
    exact ⟨by rw [HV.out.1, HV.out.2]; rfl, hb1⟩
set_option maxRecDepth 100000 in
set_option maxHeartbeats 1000000 in
theorem rhash (b : ByteArray) (hb : b.size ≤ 4611686018427387000) (w : World) :
    Calls Try.prog 35 #[.string b] w fun e w' => e = .returned (.int .u64 (mk (blp b) : Int)) ∧ w' = w := by
  have HM : Hid (∀ w, Calls Try.prog 63 #[.string (⟨#[98, 108, 111, 98]⟩ ++ b)] w fun e w' => e = .returned (.int .u64 (mk (blp b) : Int)) ∧ w' = w) := fun w => rmarkq (blp b) (by rw [blp_size]; omega) w
  go_enter Try.func35, Try.ntmps35
  go_wp2_with fail
  refine (HM.out _).mono ?_
  rintro e w1 ⟨rfl, rfl⟩
  go_wp2
  go_ret
  exact ⟨rfl, rfl⟩
def cnts (n : Int) : Bool := decide (1 ≤ n) && decide (n ≤ 4)
theorem counts (n : Int) (w : World) : Calls Try.prog 119 #[.int .i64 n] w fun e w' => e = .returned (.bool (cnts n)) ∧ w' = w := by
  by_cases h1 : 1 ≤ n
  · by_cases h2 : n ≤ 4
    · have HC : Hid (cnts n = true) := by show _ = _; simp [cnts, h1, h2]
      go_enter Try.func119, Try.ntmps119
      go_wp2
      go_ret
      exact ⟨by rw [HC.out]; rfl, rfl⟩
    · have HC : Hid (cnts n = false) := by show _ = _; simp [cnts, h2]
      go_enter Try.func119, Try.ntmps119
      go_wp2
      go_ret
      exact ⟨by rw [HC.out]; rfl, rfl⟩
  · have HC : Hid (cnts n = false) := by show _ = _; simp [cnts, h1]
    go_enter Try.func119, Try.ntmps119
    go_wp2
    go_ret
    exact ⟨by rw [HC.out]; rfl, rfl⟩
def gasV (n : Int) : Int := if cnts n then n * 131072 else 0
def gasE (n : Int) : Int := if cnts n then 0 else 1
theorem gas (n : Int) (w : World) : Calls Try.prog 108 #[.int .i64 n] w fun e w' => e = .returned (.tuple #[.int .i64 (gasV n), .int .i64 (gasE n)]) ∧ w' = w := by
  have hc := fun w => counts n w
  cases h : cnts n with
  | false =>
    have HV : Hid (gasV n = 0 ∧ gasE n = 1) := ⟨by unfold gasV; rw [h]; rfl, by unfold gasE; rw [h]; rfl⟩
    rw [h] at hc
    have HC : Hid (∀ w, Calls Try.prog 119 #[.int .i64 n] w fun e w' => e = .returned (.bool false) ∧ w' = w) := hc
    clear hc
    go_enter Try.func108, Try.ntmps108
    go_wp2_with fail
    refine (HC.out _).mono ?_
    rintro e w1 ⟨rfl, rfl⟩
    go_wp2
    go_ret2
    exact ⟨by rw [HV.out.1, HV.out.2]; rfl, rfl⟩
  | true =>
    have HV : Hid (gasV n = n * 131072 ∧ gasE n = 0) := ⟨by unfold gasV; rw [h]; rfl, by unfold gasE; rw [h]; rfl⟩
    rw [h] at hc
    have HC : Hid (∀ w, Calls Try.prog 119 #[.int .i64 n] w fun e w' => e = .returned (.bool true) ∧ w' = w) := hc
    have hn : 1 ≤ n ∧ n ≤ 4 := by simpa [cnts] using h
    have hw : IntKind.i64.wrap (n * 131072) = n * 131072 := by rw [IntKind.wrap_i64]; omega
    clear hc
    go_enter Try.func108, Try.ntmps108
    go_wp2_with fail
    refine (HC.out _).mono ?_
    rintro e w1 ⟨rfl, rfl⟩
    go_wp2
    go_ret2
    exact ⟨by rw [HV.out.1, HV.out.2]; rfl, rfl⟩
end Go.Proofs.Ytapjonmgjccpbaa
end

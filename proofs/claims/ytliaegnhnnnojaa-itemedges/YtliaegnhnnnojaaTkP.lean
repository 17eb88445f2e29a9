import Derived.Test.YtliaegnhnnnojaaTkT
set_option linter.unusedSimpArgs false
set_option linter.unusedVariables false
namespace Go.Proofs.Ytliaegnhnnnojaa
open Go.RowKit

/-! item.Take, item.Parse by contract. -/
def tk0 (s : ByteArray) : TR := tk 16 s
def TaQ0 (s : ByteArray) (w : World) (e : Ending) (w' : World) : Prop :=
  (∃ ad l c, e = .returned (.tuple #[.agg #[.bool (tk0 s).1.list, .string (tk0 s).1.text, .slice ad l c], .int .i64 ((tk0 s).2.1 : Int), .int .i64 ((tk0 s).2.2 : Int)]) ∧ RdP w' (w.heap.size ≤ ·) 18 (tk0 s).1.items (.slice ad l c)) ∧ Below w.heap.size w w'
set_option maxRecDepth 100000 in
set_option maxHeartbeats 2000000 in
theorem iTake (s : ByteArray) (w : World) (hs : s.size ≤ 1099511627776) : Calls Try.prog 12 #[.string s] w (TaQ0 s w) := by
  have HC : Hid (∀ w, Calls Try.prog 34 #[.string s, .int .i64 0] w fun e w' => (∃ ad l c, e = .returned (.tuple #[.agg #[.bool (tk0 s).1.list, .string (tk0 s).1.text, .slice ad l c], .int .i64 ((tk0 s).2.1 : Int), .int .i64 ((tk0 s).2.2 : Int)]) ∧ RdP w' (w.heap.size ≤ ·) 18 (tk0 s).1.items (.slice ad l c)) ∧ Below w.heap.size w w') := fun w => itake 16 s w 0 rfl hs
  obtain ⟨T, hT⟩ : ∃ T, T = tk0 s := ⟨_, rfl⟩
  show Calls Try.prog _ _ w fun e w' => (∃ ad l c, e = .returned (.tuple #[.agg #[.bool (tk0 s).1.list, .string (tk0 s).1.text, .slice ad l c], .int .i64 ((tk0 s).2.1 : Int), .int .i64 ((tk0 s).2.2 : Int)]) ∧ RdP w' (w.heap.size ≤ ·) 18 (tk0 s).1.items (.slice ad l c)) ∧ Below w.heap.size w w'
  rw [← hT] at HC ⊢
  obtain ⟨t1, k1, e1⟩ := T
  clear hT
  have bR := Bk.new w #[.bool false, .string ⟨#[]⟩, .slice none 0 0] 26
  have HR : Hid (Bk (w.alloc (.cells #[.bool false, .string ⟨#[]⟩, .slice none 0 0] 26)) w.heap.size #[.bool false, .string ⟨#[]⟩, .slice none 0 0] 26) := bR
  clear bR
  go_enter Try.func12, Try.ntmps12
  go_wp2_with fail
  refine (HC.out _).mono ?_
  rintro e w1 ⟨⟨ad, l, c, rfl, hrd⟩, hb1⟩
  have b1 := HR.out.below hb1 HR.out.lt
  have HB : Hid (Bk w1 w.heap.size #[.bool false, .string ⟨#[]⟩, .slice none 0 0] 26 ∧ Below w.heap.size w w1 ∧ RdP w1 (w.heap.size + 1 ≤ ·) 18 t1.items (.slice ad l c)) := ⟨b1, ((Below.refl _ w).alloc (Nat.le_refl _) _).trans (hb1.mono (by simp)), by simpa using hrd⟩
  have lb1 := b1.lt
  obtain ⟨r0, r1, r2⟩ := box_cells b1
  have f0 := b1.frozen 0
  have f1 := b1.frozen 1
  have f2 := b1.frozen 2
  clear b1 hb1 hrd
  go_wp2_with fail
  have b9 := set3_Bk HB.out.1 (.bool t1.list) (.string t1.text) (.slice ad l c)
  refine bodyPost_ret (v := .tuple #[.agg #[.bool t1.list, .string t1.text, .slice ad l c], .int .i64 (k1 : Int), .int .i64 (e1 : Int)]) ?_ rfl ⟨⟨ad, l, c, rfl, ?_⟩, ?_⟩
  · obtain ⟨g0, g1, g2⟩ := box_cells b9
    simp [results, Try.results12, go_sem, g0, g1, g2]
  · exact (set3_keep HB.out.2.2 (fun k hk => by omega) _ _ _).weak (fun b hb => by omega)
  · exact set3_below HB.out.2.1 (Nat.le_refl _) _ _ _
def pz (s : ByteArray) : IT × Nat := if (tk0 s).2.2 ≠ 0 then (zIT, (tk0 s).2.2) else if (tk0 s).2.1 < s.size then (zIT, 1) else ((tk0 s).1, 0)
def PaQ (s : ByteArray) (w : World) (e : Ending) (w' : World) : Prop :=
  (∃ ad l c, e = .returned (.tuple #[.agg #[.bool (pz s).1.list, .string (pz s).1.text, .slice ad l c], .int .i64 ((pz s).2 : Int)]) ∧ RdP w' (w.heap.size ≤ ·) 18 (pz s).1.items (.slice ad l c)) ∧ Below w.heap.size w w'
set_option maxRecDepth 100000 in
set_option maxHeartbeats 2000000 in
theorem iParse (s : ByteArray) (w : World) (hs : s.size ≤ 1099511627776) : Calls Try.prog 17 #[.string s] w (PaQ s w) := by
  have HC : Hid (∀ w, Calls Try.prog 12 #[.string s] w fun e w' => (∃ ad l c, e = .returned (.tuple #[.agg #[.bool (tk0 s).1.list, .string (tk0 s).1.text, .slice ad l c], .int .i64 ((tk0 s).2.1 : Int), .int .i64 ((tk0 s).2.2 : Int)]) ∧ RdP w' (w.heap.size ≤ ·) 18 (tk0 s).1.items (.slice ad l c)) ∧ Below w.heap.size w w') := fun w => iTake s w hs
  have HP : Hid (pz s = if (tk0 s).2.2 ≠ 0 then (zIT, (tk0 s).2.2) else if (tk0 s).2.1 < s.size then (zIT, 1) else ((tk0 s).1, 0)) := rfl
  have hpr := tk_prog 16 s
  have hpr : (tk0 s).2.2 = 0 → (tk0 s).2.1 ≤ s.size := fun h => (hpr h).2
  obtain ⟨T, hT⟩ : ∃ T, T = tk0 s := ⟨_, rfl⟩
  rw [← hT] at HC HP hpr
  obtain ⟨t1, k1, e1⟩ := T
  clear hT
  have bR := Bk.new w #[.bool false, .string ⟨#[]⟩, .slice none 0 0] 26
  have HR : Hid (Bk (w.alloc (.cells #[.bool false, .string ⟨#[]⟩, .slice none 0 0] 26)) w.heap.size #[.bool false, .string ⟨#[]⟩, .slice none 0 0] 26) := bR
  clear bR
  go_enter Try.func17, Try.ntmps17
  go_wp2_with fail
  refine (HC.out _).mono ?_
  rintro e w1 ⟨⟨ad, l, c, rfl, hrd⟩, hb1⟩
  have b1 := (HR.out.below hb1 HR.out.lt).alloc (.cells #[.bool t1.list, .string t1.text, .slice ad l c] 26)
  have bX := Bk.new w1 #[.bool t1.list, .string t1.text, .slice ad l c] 26
  have hlt1 := (HR.out.below hb1 HR.out.lt).lt
  have HB : Hid (Bk w1 w.heap.size #[.bool false, .string ⟨#[]⟩, .slice none 0 0] 26 ∧ Below w.heap.size w w1 ∧ RdP w1 (w.heap.size + 1 ≤ ·) 18 t1.items (.slice ad l c)) := ⟨HR.out.below hb1 HR.out.lt, ((Below.refl _ w).alloc (Nat.le_refl _) _).trans (hb1.mono (by simp)), by simpa using hrd⟩
  obtain ⟨r0, r1, r2⟩ := box_cells (HR.out.below hb1 HR.out.lt)
  have f0 := (HR.out.below hb1 HR.out.lt).frozen 0
  have f1 := (HR.out.below hb1 HR.out.lt).frozen 1
  have f2 := (HR.out.below hb1 HR.out.lt).frozen 2
  clear b1 hb1 hrd bX
  by_cases he : e1 = 0
  · have he' : ((e1 : Int) != 0) = false := by rw [bne_eq_false_iff_eq]; omega
    by_cases hk : k1 < s.size
    · have hk' : decide ((k1 : Int) < (s.size : Int)) = true := decide_eq_true (by omega)
      have hk'' : decide (k1 < s.size) = true := decide_eq_true hk
      have HE : Hid (pz s = (zIT, 1)) := by show _ = _; rw [HP.out, if_neg (by simpa using he), if_pos hk]
      clear he hk HP hpr
      go_wp2_with fail
      have b9 := (set3_Bk HB.out.1 (.bool false) (.string ⟨#[]⟩) (.slice none 0 0)).alloc (.cells #[.bool t1.list, .string t1.text, .slice ad l c] 26)
      refine bodyPost_ret (v := .tuple #[.agg #[.bool false, .string ⟨#[]⟩, .slice none 0 0], .int .i64 1]) ?_ rfl ⟨⟨none, 0, 0, by rw [HE.out]; rfl, by rw [HE.out]; exact rd_nil _ _ _⟩, ?_⟩
      · obtain ⟨g0, g1, g2⟩ := box_cells b9
        simp [results, Try.results17, go_sem, g0, g1, g2]
      · exact (set3_below HB.out.2.1 (Nat.le_refl _) _ _ _).alloc (by simp; have := HB.out.2.1.size; omega) _
    · have hk' : decide ((k1 : Int) < (s.size : Int)) = false := decide_eq_false (by omega)
      have hk'' : decide (k1 < s.size) = false := decide_eq_false hk
      have HE : Hid (pz s = (t1, 0)) := by show _ = _; rw [HP.out, if_neg (by simpa using he), if_neg hk]
      clear he hk HP hpr
      go_wp2_with fail
      have b9 := (set3_Bk HB.out.1 (.bool t1.list) (.string t1.text) (.slice ad l c)).alloc (.cells #[.bool t1.list, .string t1.text, .slice ad l c] 26)
      refine bodyPost_ret (v := .tuple #[.agg #[.bool t1.list, .string t1.text, .slice ad l c], .int .i64 0]) ?_ rfl ⟨⟨ad, l, c, by rw [HE.out]; rfl, ?_⟩, ?_⟩
      · obtain ⟨g0, g1, g2⟩ := box_cells b9
        simp [results, Try.results17, go_sem, g0, g1, g2]
      · rw [HE.out]
        exact ((set3_keep HB.out.2.2 (fun k hk => by omega) _ _ _).keep fun b _ hl => Below.heap_alloc _ _ b hl).weak (fun b hb => by omega)
      · exact (set3_below HB.out.2.1 (Nat.le_refl _) _ _ _).alloc (by simp; have := HB.out.2.1.size; omega) _
  · have he' : ((e1 : Int) != 0) = true := by rw [bne_iff_ne]; omega
    have HE : Hid (pz s = (zIT, e1)) := by show _ = _; rw [HP.out, if_pos (by simpa using he)]
    clear he HP hpr
    go_wp2_with fail
    have b9 := (set3_Bk HB.out.1 (.bool false) (.string ⟨#[]⟩) (.slice none 0 0)).alloc (.cells #[.bool t1.list, .string t1.text, .slice ad l c] 26)
    refine bodyPost_ret (v := .tuple #[.agg #[.bool false, .string ⟨#[]⟩, .slice none 0 0], .int .i64 (e1 : Int)]) ?_ rfl ⟨⟨none, 0, 0, by rw [HE.out]; rfl, by rw [HE.out]; exact rd_nil _ _ _⟩, ?_⟩
    · obtain ⟨g0, g1, g2⟩ := box_cells b9
      simp [results, Try.results17, go_sem, g0, g1, g2]
    · exact (set3_below HB.out.2.1 (Nat.le_refl _) _ _ _).alloc (by simp; have := HB.out.2.1.size; omega) _
end Go.Proofs.Ytliaegnhnnnojaa

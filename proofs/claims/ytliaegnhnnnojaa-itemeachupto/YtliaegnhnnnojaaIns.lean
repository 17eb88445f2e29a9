import Derived.Test.YtliaegnhnnnojaaInsM
import Derived.Deep.RegionLaw
set_option linter.unusedSimpArgs false
set_option linter.unusedVariables false
namespace Go.Proofs.Ytliaegnhnnnojaa
open Go.RowKit

/-! slices.Insert, of bytes of one's own, by contract. -/
def insL (l f : List UInt8) (i : Nat) : List UInt8 := l.take i ++ (f ++ l.drop i)
theorem insL_length (l f : List UInt8) (i : Nat) (h : i ≤ l.length) : (insL l f i).length = l.length + f.length := by simp [insL]; omega
set_option maxRecDepth 100000 in
set_option maxHeartbeats 1000000 in
theorem insert_end (w : World) (base base' : Nat) (v u : Value) (l f : List UInt8) (hv : Ow w base v l) (hu : Ow w base' u f) (hf : 0 < f.length) (hb : base ≤ w.heap.size) (hm : l.length + f.length ≤ 1000000) :
    Calls Try.prog 55 #[v, .int .i64 (l.length : Int), u] w fun e w' => ∃ v', e = .returned v' ∧ Ow w' base v' (insL l f l.length) ∧ w.grownBy w' v.ownBlock ∧ Sn w v v' := by
  obtain ⟨i0, hi, hz0, hz1, hz2⟩ := info_of info5
  have HI : Hid (Try.prog.info? 5 = some i0) := hi
  have HZ : Hid (i0.zero = some (.int .u8 0) ∧ i0.size = 1 ∧ i0.bytes = 1) := ⟨hz0, hz1, hz2⟩
  clear hi hz0 hz1 hz2
  have hs := hu.src (tx := 45) Try.underlying45
  obtain ⟨ad, cap, rfl, hc⟩ := hv.shape
  obtain ⟨ad', cap', rfl, hc'⟩ := hu.shape
  have HV : Hid (Ow w base (.slice ad l.length cap) l) := hv
  have HS : Hid (Src Try.prog 1 45 (.slice ad' f.length cap') f.length (bc f) w) := hs
  have hE : Hid (insL l f l.length = l ++ f) := by show _ = _; simp [insL]
  have hm0 : ((f.length : Int) == 0) = false := by rw [beq_eq_false_iff_ne]; omega
  have hle : l.length ≤ 1000000 := by omega
  have hnil : ad = none ∨ ∃ g, ad = some ⟨g, 0, none⟩ := by
    rcases hv.2 with ⟨h, _⟩ | ⟨g, _, _, h, _⟩
    · left; simp at h; exact h.1
    · right; simp at h; exact ⟨g, h.1⟩
  clear hv hu hs
  rcases hnil with rfl | ⟨g, rfl⟩
  all_goals
    go_enter Try.func55, Try.ntmps55
    go_wp2_with (at_builtin; refine wpList_append_src rfl _ _ 45 45 rfl base 5 i0 (.int .u8 0) 1 1 Try.underlying45 HI.out HZ.out.1 HZ.out.2.1 HZ.out.2.2 rfl _ _ l.length _ f.length _ rfl rfl HV.out HS.out (by unfold maxLen; omega) (by omega) hb ?_; intro v1 w2 hown2 hgr2 hsn2)
    all_goals
      go_ret
      refine ⟨_, rfl, ?_, hgr2, hsn2⟩
      rw [hE.out]
      show World.ownsRow _ _ _ _ _ _ _
      rw [bc_append, List.length_append]
      exact hown2
/-- What lies in the rest of a row. -/
theorem Ow.drop_cells {w : World} {base g n cap : Nat} {l : List UInt8} (h : Ow w base (.slice (some ⟨g, 0, none⟩) n cap) l) (i : Nat) : ∀ j u, (bc (l.drop i))[j]? = some u → w.cell? ((⟨g, i, none⟩ : Addr).add j) = some u := by
  intro j u hj
  have := World.ownsRow.cells h (g := g) rfl (i + j) u (by rw [← bc_drop, List.getElem?_drop] at hj; exact hj)
  rw [Addr.add_lit] at this ⊢
  rw [Nat.zero_add] at this
  exact this
theorem Ow.heap {w : World} {base g n cap : Nat} {l : List UInt8} (h : Ow w base (.slice (some ⟨g, 0, none⟩) n cap) l) : ∃ cur : Array Value, n = l.length ∧ base ≤ g ∧ w.heap[g]? = some (.cells cur 5 (0, 0)) ∧ n ≤ cap ∧ cap ≤ maxLen ∧ cur.size = cap ∧ cur.toList.take n = bc l := by
  rcases h.2 with ⟨h, _⟩ | ⟨g', cap', cur, e, h1, h2, h3, h4, h5, h6⟩
  · simp at h
  · simp at e
    obtain ⟨rfl, e2, rfl⟩ := e
    rw [Nat.mul_one] at h5 h6
    exact ⟨cur, e2, h1, h2, by omega, h4, h5, by rw [e2]; exact h6⟩
theorem Ow.mk' {w : World} {base g n cap : Nat} {l : List UInt8} {cur : Array Value} (hn : n = l.length) (hb : base ≤ g) (hh : w.heap[g]? = some (.cells cur 5 (0, 0))) (h1 : n ≤ cap) (h2 : cap ≤ maxLen) (h3 : cur.size = cap) (h4 : cur.toList.take n = bc l) : Ow w base (.slice (some ⟨g, 0, none⟩) n cap) l := by
  subst hn
  refine ⟨by rw [bc_length, Nat.mul_one], .inr ⟨g, cap, cur, rfl, hb, hh, h1, h2, by omega, by rw [Nat.mul_one]; exact h4⟩⟩
theorem cell_same {w w' : World} {b o j : Nat} {v : Value} (hb : w'.heap[b]? = w.heap[b]?) (h : w.cell? ((⟨b, o, none⟩ : Addr).add j) = some v) : w'.cell? ((⟨b, o, none⟩ : Addr).add j) = some v := by
  rw [Addr.add_lit] at h ⊢
  exact (World.cell?_of_block (w := w) hb).trans h
/-- The first copy into the new row. -/
theorem ins_one (w : World) (q m cap' i n c' : Nat) (Z : List Value) (f : List UInt8) (hM : f.length = m) (hZl : Z.length = c') (hq : q < w.heap.size) (HU : ∀ j u, (bc f)[j]? = some u → w.cell? ((⟨q, 0, none⟩ : Addr).add j) = some u) (hi : i ≤ n) (hc : n + m ≤ c') :
    ∃ W2, Hid (W2.heap[w.heap.size]? = some (.cells (splice Z i (bc f)).toArray 5 (0, 0)) ∧ Below w.heap.size w W2 ∧ w.heap.size < W2.heap.size) ∧ ∀ ty, (Builtin.copy_ #[45, 45] ty #[.slice (some ⟨w.heap.size, i, none⟩) (n + m - i) (c' - i), .slice (some ⟨q, 0, none⟩) m cap']).run Try.prog (w.alloc (.cells Z.toArray 5)).drew = .ok (goInt m) W2 := by
  have hh : (w.alloc (.cells Z.toArray 5)).drew.heap[w.heap.size]? = some (.cells Z.toArray 5 (0, 0)) := World.alloc_heap_new w _
  have hr := fun ty => run_copy_row (P := Try.prog) (w.alloc (.cells Z.toArray 5)).drew 45 45 ty 5 w.heap.size i (n + m - i) (c' - i) ⟨q, 0, none⟩ m cap' Z.toArray 5 (bc f) Try.underlying45 msize5 hh
    (by rw [bc_length, hM]; simp only [Nat.min_def]; split <;> omega) (fun j u hj => cell_same (Below.heap_alloc w _ q hq) (HU j u hj)) (by rw [bc_length, hM, List.size_toArray, hZl]; omega) bc_one
  rw [bc_length, hM] at hr
  refine ⟨_, ⟨?_, ?_, ?_⟩, hr⟩
  · have := setRow_heap (w.alloc (.cells Z.toArray 5)).drew w.heap.size Z.toArray (Z.take i ++ bc f ++ Z.drop (i + m)).toArray 5 (0, 0) hh
    rw [this]
    simp [splice, bc_length, hM]
  · exact below_setRow (((Below.refl _ w).alloc (Nat.le_refl _) _).drew) (Nat.le_refl _) _
  · simp [World.setRow]
set_option maxRecDepth 100000 in
set_option maxHeartbeats 1000000 in
theorem insert_grow (w : World) (base base' : Nat) (g q n cap cap' i m : Nat) (l f : List UInt8) (hM : f.length = m) (hn : n = l.length) (hv : Ow w base (.slice (some ⟨g, 0, none⟩) n cap) l) (hu : Ow w base' (.slice (some ⟨q, 0, none⟩) m cap') f) (hf : 0 < m) (hi : i < n) (hb : base ≤ w.heap.size) (hm : n + m ≤ 1000000)
    (hcap : cap < n + m) :
    Calls Try.prog 55 #[.slice (some ⟨g, 0, none⟩) n cap, .int .i64 (i : Int), .slice (some ⟨q, 0, none⟩) m cap'] w fun e w' => ∃ v', e = .returned v' ∧ Ow w' base v' (insL l f i) ∧ w.grownBy w' (some g) ∧ Sn w (.slice (some ⟨g, 0, none⟩) n cap) v' := by
  obtain ⟨i0, hi0, hz0, hz1, hz2⟩ := info_of info5
  have HI : Hid (Try.prog.info? 5 = some i0) := hi0
  have HZ : Hid (i0.zero = some (.int .u8 0) ∧ i0.size = 1 ∧ i0.bytes = 1) := ⟨hz0, hz1, hz2⟩
  clear hi0 hz0 hz1 hz2
  have hnc : n ≤ cap := by obtain ⟨cur, _, _, _, h, _⟩ := hv.heap; exact h
  have hlt := hv.ge (k := g) rfl
  have hltu := hu.ge (k := q) rfl
  have HV : Hid (Ow w base (.slice (some ⟨g, 0, none⟩) n cap) l) := hv
  have HU : Hid (∀ j u, (bc f)[j]? = some u → w.cell? ((⟨q, 0, none⟩ : Addr).add j) = some u) := World.ownsRow.cells hu (g := q) rfl
  have HD : Hid (∀ j u, (bc (l.drop i))[j]? = some u → w.cell? ((⟨g, i, none⟩ : Addr).add j) = some u) := hv.drop_cells i
  have HO : Hid (∀ j u, (bc (l.take i))[j]? = some u → w.cell? ((⟨g, 0, none⟩ : Addr).add j) = some u) := fun j u hj => World.ownsRow.cells hv (g := g) rfl j u (by rw [← bc_take, List.getElem?_take] at hj; split at hj <;> simp_all)
  have HN : Hid (n = l.length) := hn
  have HM : Hid (f.length = m) := hM
  clear hv hu hn hM
  have hm0 : ((m : Int) == 0) = false := by rw [beq_eq_false_iff_ne]; omega
  have hin : ((i : Int) == (n : Int)) = false := by rw [beq_eq_false_iff_ne]; omega
  have hgt : (cap : Int) < (n : Int) + (m : Int) := by omega
  have hi1 : (i : Int) ≤ (n : Int) := by omega
  have hi2 : i ≤ cap := by omega
  have hi3 : ¬ cap = i := by omega
  have hw1 : IntKind.i64.wrap ((i : Int) + (m : Int)) = (i : Int) + (m : Int) := by rw [IntKind.wrap_i64]; omega
  have hb1 : (0 : Int) ≤ (i : Int) + (m : Int) := by omega
  have hb3 : (i : Int) + (m : Int) ≤ (n : Int) + (m : Int) := by omega
  have htn : ((i : Int) + (m : Int)).toNat = i + m := by omega
  go_enter Try.func55, Try.ntmps55
  go_wp2_with (at_builtin; refine wpList_append_zeros rfl _ _ 45 3 rfl 5 i0 (.int .u8 0) Try.underlying45 Try.underlying3 HI.out HZ.out.1 HZ.out.2.1 HZ.out.2.2 rfl g i cap (n + m - i) _ (by omega) (bc (l.take i)) (by rw [bc_length, List.length_take]; have := HN.out; omega) rfl rfl HO.out (by omega) (by omega) (by omega) (n + m) (by omega) ?_; intro c' Z hc1 hc2 hZl hZt; have hc3 : ¬ c' = i := (by omega); have hc4 : ¬ c' = i + m := (by omega); have hc5 : c' ≤ 9223372036854775807 := (by unfold maxLen at hc2; omega); obtain ⟨W2, HW2, hcp⟩ := ins_one w q m cap' i n c' Z f HM.out hZl hltu.2 HU.out (by omega) hc1; have HZt : Hid (Z.take i = bc (l.take i)) := hZt; have HZl : Hid (Z.length = c') := hZl; clear hZl hZt)
  go_region_law (refine step_copy_row rfl _ _ 45 45 rfl 5 Try.underlying45 msize5 w.heap.size (i + m) (n + m - (i + m)) (c' - (i + m)) ⟨g, i, none⟩ (n - i) (cap - i) (by simp [Act.eval, Act.put]) (by simp [Act.eval, Act.put]) (splice Z i (bc f)).toArray 5 (by exact HW2.out.1) (bc (l.drop i)) (by rw [bc_length, List.length_drop, ← HN.out]; simp only [Nat.min_def]; split <;> omega) (by intro j u hj; exact cell_same (by exact HW2.out.2.1.block g hlt.2) (HD.out j u hj)) (by rw [bc_length, List.length_drop, ← HN.out, List.size_toArray, length_splice _ _ _ (by rw [bc_length, HM.out, HZl.out]; omega), HZl.out]; omega) bc_one ?_)
  go_wp2_with fail
  go_ret
  have hN := HN.out
  have hMl := HM.out
  have hZl := HZl.out
  have hFl : (bc f).length = m := by rw [bc_length, hMl]
  have hTl : (bc (l.drop i)).length = n - i := by rw [bc_length, List.length_drop, ← hN]
  refine ⟨_, rfl, Ow.mk' (cur := (splice (splice Z i (bc f)) (i + m) (bc (l.drop i))).toArray) (by rw [insL_length l f i (by omega)]; omega) hb ?_ hc1 hc2 ?_ ?_, ?_, .inr (fun k hk => by simp [Value.ownBlock] at hk; omega)⟩
  · exact setRow_heap _ _ _ _ 5 _ HW2.out.1
  · rw [List.size_toArray, length_splice _ _ _ (by rw [length_splice _ _ _ (by omega)]; omega), length_splice _ _ _ (by omega), hZl]
  · have := spl1 Z (bc f) (bc (l.drop i)) i (by omega)
    rw [hFl, hTl, show i + m + (n - i) = n + m by omega, HZt.out] at this
    rw [List.toList_toArray, this]
    simp [insL, bc_append]
  · have hB := HW2.out.2.1
    have := below_setRow (hB.drew) (Nat.le_refl _) (splice (splice Z i (bc f)) (i + m) (bc (l.drop i))).toArray
    exact ⟨this.os, this.tape, this.output, this.size, fun k hk _ => this.block k hk⟩
/-- The copy of the rest within the row. -/
theorem ins_two (w : World) (g q m cap cap' i n : Nat) (cur : Array Value) (l f : List UInt8) (hh : w.heap[g]? = some (.cells cur 5 (0, 0))) (hcs : cur.size = cap) (hM : f.length = m) (hne : q ≠ g) (HU : ∀ j u, (bc f)[j]? = some u → w.cell? ((⟨q, 0, none⟩ : Addr).add j) = some u) (hi : i ≤ n) (hc : n + m ≤ cap) (W : World) (hW : W.heap = w.heap) (T : List Value) (hT : T.length = n - i) :
    ∃ W2, Hid (W2 = (W.setRow g (splice cur.toList (i + m) T).toArray).setRow g (splice (splice cur.toList (i + m) T) i (bc f)).toArray) ∧ ∀ ty, (Builtin.copy_ #[45, 45] ty #[.slice (some ⟨g, i, none⟩) (n + m - i) (cap - i), .slice (some ⟨q, 0, none⟩) m cap']).run Try.prog (W.setRow g (splice cur.toList (i + m) T).toArray) = .ok (goInt m) W2 := by
  have hh' : W.heap[g]? = some (.cells cur 5 (0, 0)) := by rw [hW]; exact hh
  have h1 := setRow_heap W g cur (splice cur.toList (i + m) T).toArray 5 (0, 0) hh'
  have hcl : cur.toList.length = cap := by rw [Array.length_toList, hcs]
  have hsl : (splice cur.toList (i + m) T).length = cap := by rw [length_splice _ _ _ (by rw [hcl, hT]; omega), hcl]
  have hr := fun ty => run_copy_row (P := Try.prog) (W.setRow g (splice cur.toList (i + m) T).toArray) 45 45 ty 5 g i (n + m - i) (cap - i) ⟨q, 0, none⟩ m cap' _ 5 (bc f) Try.underlying45 msize5 h1
    (by rw [bc_length, hM]; simp only [Nat.min_def]; split <;> omega) (fun j u hj => cell_same ((setRow_other W g q _ (by omega)).trans (by rw [hW])) (HU j u hj)) (by rw [bc_length, hM, List.size_toArray, hsl]; omega) bc_one
  rw [bc_length, hM] at hr
  refine ⟨_, ?_, hr⟩
  show _ = _
  simp only [splice, bc_length, hM, List.toList_toArray, List.append_assoc]
set_option maxRecDepth 100000 in
set_option maxHeartbeats 1000000 in
theorem insert_room (w : World) (base base' : Nat) (g q n cap cap' i m : Nat) (l f : List UInt8) (hM : f.length = m) (hn : n = l.length) (hv : Ow w base (.slice (some ⟨g, 0, none⟩) n cap) l) (hu : Ow w base' (.slice (some ⟨q, 0, none⟩) m cap') f) (hne : q ≠ g) (hf : 0 < m) (hi : i < n) (hb : base ≤ w.heap.size) (hm : n + m ≤ 1000000)
    (hcap : n + m ≤ cap) :
    Calls Try.prog 55 #[.slice (some ⟨g, 0, none⟩) n cap, .int .i64 (i : Int), .slice (some ⟨q, 0, none⟩) m cap'] w fun e w' => ∃ v', e = .returned v' ∧ Ow w' base v' (insL l f i) ∧ w.grownBy w' (some g) ∧ Sn w (.slice (some ⟨g, 0, none⟩) n cap) v' := by
  obtain ⟨cur, -, hbg, hh, -, hcm, hcs, htk⟩ := hv.heap
  obtain ⟨curu, -, -, hhu, -, -, -, -⟩ := hu.heap
  have hlt := hv.ge (k := g) rfl
  have hc63 : cap ≤ 9223372036854775807 := by unfold maxLen at hcm; omega
  have HU : Hid (∀ j u, (bc f)[j]? = some u → w.cell? ((⟨q, 0, none⟩ : Addr).add j) = some u) := World.ownsRow.cells hu (g := q) rfl
  have HD : Hid (∀ j u, (bc (l.drop i))[j]? = some u → w.cell? ((⟨g, i, none⟩ : Addr).add j) = some u) := hv.drop_cells i
  have hov : ∀ la, (callFunc 62 #[.slice (some ⟨q, 0, none⟩) m cap', .slice (some ⟨g, i + m, none⟩) (n + m - (i + m)) la]).run Try.prog w = .ok (.value (.bool false)) w := fun la => run_apart w q g 0 (i + m) m cap' _ la curu cur hne hhu hh (by omega)
  have hTl : (bc (l.drop i)).length = n - i := by rw [bc_length, List.length_drop, ← hn]
  obtain ⟨W2, HW2, hcp⟩ := ins_two w g q m cap cap' i n cur l f hh hcs hM hne HU.out (by omega) hcap w.drew rfl (bc (l.drop i)) hTl
  have HTl : Hid ((bc (l.drop i)).length = n - i) := hTl
  have HN : Hid (n = l.length) := hn
  have HM : Hid (f.length = m) := hM
  have HH : Hid (w.heap[g]? = some (.cells cur 5 (0, 0)) ∧ cur.size = cap ∧ cur.toList.take n = bc l) := ⟨hh, hcs, htk⟩
  clear hv hu hn hM hh hcs htk hhu hTl
  have hm0 : ((m : Int) == 0) = false := by rw [beq_eq_false_iff_ne]; omega
  have hin : ((i : Int) == (n : Int)) = false := by rw [beq_eq_false_iff_ne]; omega
  have hgt : ¬ (cap : Int) < (n : Int) + (m : Int) := by omega
  have hi1 : (i : Int) ≤ (n : Int) := by omega
  have hi2 : i ≤ cap := by omega
  have hi3 : ¬ cap = i := by omega
  have hi4 : ¬ cap = i + m := by omega
  have hw1 : IntKind.i64.wrap ((i : Int) + (m : Int)) = (i : Int) + (m : Int) := by rw [IntKind.wrap_i64]; omega
  have hb1 : (0 : Int) ≤ (i : Int) + (m : Int) := by omega
  have hb3 : (i : Int) + (m : Int) ≤ (n : Int) + (m : Int) := by omega
  have hb4 : (i : Int) ≤ (n : Int) + (m : Int) := by omega
  have htn : ((i : Int) + (m : Int)).toNat = i + m := by omega
  have htn2 : ((n : Int) + (m : Int)).toNat = n + m := by omega
  go_enter Try.func55, Try.ntmps55
  go_wp2_with (simp only [hov])
  go_region_law (refine step_copy_row rfl _ _ 45 45 rfl 5 Try.underlying45 msize5 g (i + m) (n + m - (i + m)) (cap - (i + m)) ⟨g, i, none⟩ (n + m - i) (cap - i) (by simp [Act.eval, Act.put]) (by simp [Act.eval, Act.put]) cur 5 (by exact HH.out.1) (bc (l.drop i)) (by rw [HTl.out]; simp only [Nat.min_def]; split <;> omega) (by intro j u hj; exact HD.out j u hj) (by rw [HTl.out, HH.out.2.1]; omega) bc_one ?_)
  go_wp2_with fail
  go_ret
  have hN := HN.out
  have hMl := HM.out
  obtain ⟨hh, hcs, htk⟩ := HH.out
  have hTl := HTl.out
  have hFl : (bc f).length = m := by rw [bc_length, hMl]
  have hcl : cur.toList.length = cap := by rw [Array.length_toList, hcs]
  have hsl : (splice cur.toList (i + m) (bc (l.drop i))).length = cap := by rw [length_splice _ _ _ (by rw [hcl, hTl]; omega), hcl]
  have h1 := setRow_heap w.drew g cur (splice cur.toList (i + m) (bc (l.drop i))).toArray 5 (0, 0) hh
  have hW := HW2.out
  refine ⟨_, rfl, Ow.mk' (cur := (splice (splice cur.toList (i + m) (bc (l.drop i))) i (bc f)).toArray) (by rw [insL_length l f i (by omega)]; omega) hbg ?_ hcap hcm ?_ ?_, ?_, .inl rfl⟩
  · rw [hW]; exact setRow_heap _ _ _ _ 5 _ h1
  · rw [List.size_toArray, length_splice _ _ _ (by rw [hsl, hFl]; omega), hsl]
  · have := spl2 cur.toList (bc f) (bc (l.drop i)) i (by rw [hFl, hcl]; omega)
    rw [hFl, hTl, show i + m + (n - i) = n + m by omega] at this
    rw [List.toList_toArray, this]
    have ht : cur.toList.take i = bc (l.take i) := by
      rw [← bc_take, ← htk, List.take_take]; congr 1; omega
    rw [ht]
    simp [insL, bc_append]
  · rw [hW]
    exact ⟨rfl, rfl, rfl, by simp [World.setRow], fun k hk hr => (setRow_other _ g k _ (fun e => hr (by rw [e]))).trans (setRow_other _ g k _ (fun e => hr (by rw [e])))⟩
theorem insert (w : World) (base base' : Nat) (v u : Value) (l f : List UInt8) (i : Nat) (hv : Ow w base v l) (hu : Ow w base' u f) (hne : v.ownBlock ≠ u.ownBlock) (hf : 0 < f.length) (hi : i ≤ l.length) (hb : base ≤ w.heap.size) (hm : l.length + f.length ≤ 1000000) :
    Calls Try.prog 55 #[v, .int .i64 (i : Int), u] w fun e w' => ∃ v', e = .returned v' ∧ Ow w' base v' (insL l f i) ∧ w.grownBy w' v.ownBlock ∧ Sn w v v' := by
  by_cases hie : i = l.length
  · subst hie; exact insert_end w base base' v u l f hv hu hf hb hm
  rcases hv.2 with ⟨rfl, hz⟩ | ⟨g, cap, cur, rfl, -, -, -, -, -, -⟩
  · omega
  rcases hu.2 with ⟨rfl, hz⟩ | ⟨q, cap', curu, rfl, -, -, -, -, -, -⟩
  · omega
  have hqg : q ≠ g := fun e => hne (by simp [Value.ownBlock, e])
  by_cases hc : l.length + f.length ≤ cap
  · exact insert_room w base base' g q l.length cap cap' i f.length l f rfl rfl hv hu hqg hf (by omega) hb hm hc
  · exact insert_grow w base base' g q l.length cap cap' i f.length l f rfl rfl hv hu hf (by omega) hb hm (by omega)
end Go.Proofs.Ytliaegnhnnnojaa

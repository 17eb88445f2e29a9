import Derived.Test.YtnhmhedabdmnbaaBlP
set_option linter.unusedSimpArgs false
set_option linter.unusedVariables false
namespace Go.Proofs.Ytnhmhedabdmnbaa
open Go.RowKit Go.Shelf
attribute [local go_sem] Oper.semAt_some

/-! blob.Fits. -/
def big (x : Nat × ByteArray) : Bool := decide (64 < x.2.size)
def unfit (x : Nat × ByteArray) : Bool := decide (mk (bl x.2) ≠ x.1)
def fitE (hl n : Nat) (g : Nat → Nat) (f : Nat → ByteArray) : Int :=
  if cnts n = true ∧ hl = n then (if (prs g f n).any big then 2 else if (prs g f n).any unfit then 1 else 0) else 1
def flt (pre : List (Nat × ByteArray)) : Int := if pre.any unfit then 1 else 0
theorem flt_snoc (pre : List (Nat × ByteArray)) (x : Nat × ByteArray) : flt (pre ++ [x]) = if mk (bl x.2) ≠ x.1 then 1 else flt pre := by
  unfold flt
  rw [List.any_append]
  by_cases h : mk (bl x.2) = x.1
  · have e : [x].any unfit = false := by simp [unfit, h]
    rw [e, Bool.or_false, if_neg (not_not_intro h)]
  · have e : [x].any unfit = true := by simp [unfit, h]
    rw [e, Bool.or_true, if_pos h]
    rfl
theorem flt_val (pre : List (Nat × ByteArray)) : flt pre = 0 ∨ flt pre = 1 := by
  unfold flt
  split
  · exact .inr rfl
  · exact .inl rfl
structure FtI (w W : World) (pre : List (Nat × ByteArray)) : Prop where
  bF : Bk W w.heap.size #[.int .i64 (flt pre)] 28
  ok : ∀ x ∈ pre, x.2.size ≤ 64
  hB : Below w.heap.size w W
theorem FtI.below {w A B : World} {k : Nat} {pre : List (Nat × ByteArray)} (h : FtI w A pre) (hb : Below k A B) (hk : w.heap.size < k) : FtI w B pre :=
  ⟨h.bF.below hb (by omega), h.ok, h.hB.trans (hb.mono (by omega))⟩
structure FtX (w W : World) (pre : List (Nat × ByteArray)) : Prop where
  bF : Bk W w.heap.size #[.int .i64 2] 28
  ok : pre.any big = true
  hB : Below w.heap.size w W
theorem FtX.below {w A B : World} {k : Nat} {pre : List (Nat × ByteArray)} (h : FtX w A pre) (hb : Below k A B) (hk : w.heap.size < k) : FtX w B pre :=
  ⟨h.bF.below hb (by omega), h.ok, h.hB.trans (hb.mono (by omega))⟩
set_option maxRecDepth 100000 in
set_option maxHeartbeats 2000000 in
theorem fits_no (hl n : Nat) (aH aB : Option Addr) (cH cB : Nat) (g : Nat → Nat) (f : Nat → ByteArray) (w : World) (h : ¬ (cnts n = true ∧ hl = n)) (hn : n ≤ 9223372036854775807) (hln : hl ≤ 9223372036854775807) :
    Calls Try.prog 9 #[.slice aH hl cH, .slice aB n cB] w fun e w' => e = .returned (.int .i64 (fitE hl n g f)) ∧ Below w.heap.size w w' := by
  have HV : Hid (fitE hl n g f = 1) := if_neg h
  have HC : Hid (∀ w, Calls Try.prog 17 #[.int .i64 (n : Int)] w fun e w' => e = .returned (.bool (cnts n)) ∧ w' = w) := fun w => counts n w
  refine (callsIn_wide (n := 6)).1 ?_
  refine callsIn_of_wp_marks Try.func9 rfl trivial ?_ rfl
  simp only [Try.ntmps9, List.size_toArray, List.length_cons, List.length_nil, Nat.reduceAdd, Nat.reduceSub, Array.replicate_succ, Array.replicate_zero, List.push_toArray, List.append_toArray, List.nil_append, List.cons_append]
  gi_wp2
  refine wpIn_wide.2 (wp_scope_straight ((wpIn_wide (n := 6)).1 ?_))
  generalize cnts n = c at *
  cases c with
  | false =>
    gi_wp2_with (refine ⟨trivial, ?_⟩; gi_at_call 17; refine (callsIn_wide.2 (HC.out _)).mono ?_; rintro e w' ⟨rfl, rfl⟩)
    simp only [Exit.noGoto]
    refine ⟨.int .i64 1, ?_, by rw [HV.out], Below.refl _ _⟩
    simp [results, Try.f9, go_sem]
  | true =>
    have hne : ((hl : Int) != (n : Int)) = true := by rw [bne_iff_ne]; intro e; exact h ⟨rfl, by omega⟩
    clear h
    gi_wp2_with (refine ⟨trivial, ?_⟩; gi_at_call 17; refine (callsIn_wide.2 (HC.out _)).mono ?_; rintro e w' ⟨rfl, rfl⟩)
    simp only [Exit.noGoto]
    refine ⟨.int .i64 1, ?_, by rw [HV.out], Below.refl _ _⟩
    simp [results, Try.f9, go_sem]
set_option maxRecDepth 100000 in
set_option maxHeartbeats 2000000 in
theorem fits_go (n : Nat) (aH aB : Option Addr) (cH cB : Nat) (g : Nat → Nat) (f : Nat → ByteArray) (w : World) (hc : cnts n = true)
    (hH : ∀ i, i < n → ∃ b off, aH = some ⟨b, off, none⟩ ∧ w.cell? ⟨b, off + i, none⟩ = some (.int .u64 (g i : Int))) (hB : ∀ i, i < n → ∃ b off, aB = some ⟨b, off, none⟩ ∧ w.cell? ⟨b, off + i, none⟩ = some (.string (f i))) :
    Calls Try.prog 9 #[.slice aH n cH, .slice aB n cB] w fun e w' => e = .returned (.int .i64 (fitE n n g f)) ∧ Below w.heap.size w w' := by
  have HV : Hid (fitE n n g f = if (prs g f n).any big then 2 else if (prs g f n).any unfit then 1 else 0) := if_pos ⟨hc, rfl⟩
  have HC : Hid (∀ w, Calls Try.prog 17 #[.int .i64 (n : Int)] w fun e w' => e = .returned (.bool true) ∧ w' = w) := fun w => by have := counts n w; rw [hc] at this; exact this
  have hn4 : n ≤ 4 := by
    have : (1 : Int) ≤ n ∧ (n : Int) ≤ 4 := by simpa [cnts] using hc
    omega
  have HP : Hid ((∀ i, i < n → ∃ b off, aH = some ⟨b, off, none⟩ ∧ w.cell? ⟨b, off + i, none⟩ = some (.int .u64 (g i : Int))) ∧ (∀ i, i < n → ∃ b off, aB = some ⟨b, off, none⟩ ∧ w.cell? ⟨b, off + i, none⟩ = some (.string (f i)))) := ⟨hH, hB⟩
  clear hH hB hc
  refine (callsIn_wide (n := 6)).1 ?_
  refine callsIn_of_wp_marks Try.func9 rfl trivial ?_ rfl
  simp only [Try.ntmps9, List.size_toArray, List.length_cons, List.length_nil, Nat.reduceAdd, Nat.reduceSub, Array.replicate_succ, Array.replicate_zero, List.push_toArray, List.append_toArray, List.nil_append, List.cons_append]
  gi_wp2
  refine wpIn_wide.2 (wp_scope_straight ((wpIn_wide (n := 6)).1 ?_))
  gi_wp2_with (refine ⟨trivial, ?_⟩; gi_at_call 17; refine (callsIn_wide.2 (HC.out _)).mono ?_; rintro e w' ⟨rfl, rfl⟩)
  refine wpIn_label ?_
  gi_wp2_with (refine ⟨trivial, ?_⟩; gi_at_call 18; refine (callsIn_wide.2 (pairs_any aH aB n cH n cB _)).mono ?_; rintro e w' ⟨rfl, rfl⟩)
  obtain ⟨W9, hW9⟩ : ∃ W9, W9 = ((w'.alloc (.cells #[.int .i64 0] 28)).alloc (.cells #[.slice aH n cH] 23)).alloc (.cells #[.slice aB n cB] 24) := ⟨_, rfl⟩
  rw [← hW9]
  have hbW : Below w'.heap.size w' W9 := by rw [hW9]; exact (((Below.refl _ w').alloc (Nat.le_refl _) _).alloc (by simp) _).alloc (by simp; omega) _
  have h0 : FtI w' W9 [] := ⟨by rw [hW9]; exact ((Bk.new' _ _ _ (by simp)).alloc _).alloc _, (fun x hx => by cases hx), hbW⟩
  have b1 : Bk W9 (w'.heap.size + 1) #[.slice aH n cH] 23 := by rw [hW9]; exact (Bk.new' _ _ _ (by simp)).alloc _
  have b2 : Bk W9 (w'.heap.size + 1 + 1) #[.slice aB n cB] 24 := by rw [hW9]; exact Bk.new' _ _ _ (by simp)
  have hz9 : W9.heap.size = w'.heap.size + 3 := by rw [hW9]; simp
  clear hW9
  have c1 := b1.cell 0
  have c2 := b2.cell 0
  simp only [List.getElem?_toArray, List.getElem?_cons_zero] at c1 c2
  have hP : PrI g f n aH aB cH (w'.heap.size + 1) w'.heap.size W9 := ⟨c1, fun i hi => by
      obtain ⟨b, off, ha, hc⟩ := HP.out.1 i hi
      exact ⟨b, off, ha, Nat.ne_of_lt (cell_lt' hc), (hbW.cell (cell_lt' hc)).trans hc⟩, fun i hi => by
      obtain ⟨b, off, ha, hc⟩ := HP.out.2 i hi
      exact ⟨b, off, ha, Nat.ne_of_lt (cell_lt' hc), (hbW.cell (cell_lt' hc)).trans hc⟩⟩
  clear HP HC b1 b2 hbW c1
  refine wpIn_rangeB rfl (by omega) (gf := 20) (lb := #[.pointer (some ⟨w'.heap.size + 1 + 1, 0, none⟩), .pointer (some ⟨w'.heap.size + 1, 0, none⟩)]) rfl trivial (enters_of Try.func20 rfl rfl)
    (pairs_seq _ g f n aH aB cH cB (w'.heap.size + 1) (w'.heap.size + 1 + 1) w'.heap.size (by omega) (by omega) W9 hP c2 (by omega)) KpC.trans (fun W l o o' _ h hc => kpc_put W l o o' h hc) (Below.refl _ _) (fun _ => rfl)
    (fun pre W => FtI w' W pre) (fun c pre W => c = .exit 0 ∧ FtX w' W pre) (fun s A B h hb => h.below hb (by omega)) (fun c s A B h hb => ⟨h.1, h.2.below hb (by omega)⟩) h0
    (fun x a' W => a' = { tmps := #[.slice aH n cH, .slice aB n cB, undef, undef, .int .i64 0, .pointer (some ⟨w'.heap.size, 0, none⟩), .int .u64 (x.1 : Int), .string x.2, undef, undef, .slice aB n cB, .int .i64 n, .bool true, .bool false, .bool false, .slice aH n cH, .int .i64 n, .slice aB n cB, .int .i64 n, .bool false, .bool false, .slice aH n cH, .slice aB n cB, .func (.func 20) #[] #[.pointer (some ⟨w'.heap.size + 1 + 1, 0, none⟩), .pointer (some ⟨w'.heap.size + 1, 0, none⟩)], .int .u64 (x.1 : Int), .string x.2, undef, undef, undef, undef, undef, undef, undef, undef, undef, undef, undef, undef, undef, undef], defers := [] })
    (fun x a' A l o o' _ h hc hx => hx) ?assign ?body ?done ?stop
  case assign =>
    intro l pre x W K hi hK
    simp only [penc]
    gi_wp2
    exact hK _ _ (KeepsFrom.refl _ _) (fun p v _ h => h) hi rfl
  case body =>
    rintro l pre x a' W hi rfl
    have HI : Hid (FtI w' W pre) := hi
    have lF := hi.bF.lt
    have HH : Hid (∀ w, Calls Try.prog 6 #[.string x.2] w fun e w' => e = .returned (.tuple #[.int .u64 (hV x.2 : Int), .int .i64 (hE x.2)]) ∧ Below w.heap.size w w') := fun w => hash x.2 w
    clear hi
    by_cases hbg : 64 < x.2.size
    · have eE : hE x.2 = 2 := if_pos hbg
      rw [eE] at HH
      clear eE
      generalize hV x.2 = hv at HH
      gi_wp2_with (refine ⟨trivial, ?_⟩; gi_at_call 6; refine (CallsIn.inRound l (callsIn_wide.2 (HH.out _))).mono ?_; rintro e w2 ⟨rfl, hb2⟩; have bF2 := HI.out.bF.below hb2 HI.out.bF.lt; have lF2 := bF2.lt; have p0 := bF2.cell 0; have pf0 := bF2.frozen 0; simp only [List.getElem?_toArray, List.getElem?_cons_zero] at p0)
      refine ⟨(kf_below hb2).trans ((KeepsOthers.setCell _ _ _).from _), rfl, ⟨bF2.set 0 _ rfl, ?_, (HI.out.hB.trans (hb2.mono HI.out.hB.size)).setCell (p := ⟨w'.heap.size, 0, none⟩) (by simp) _⟩⟩
      rw [List.any_append]
      simp [big, hbg]
    · have eE : hE x.2 = 0 := if_neg hbg
      have eV : hV x.2 = mk (bl x.2) := if_neg hbg
      rw [eE, eV] at HH
      have HS : Hid (flt (pre ++ [x]) = if mk (bl x.2) ≠ x.1 then 1 else flt pre) := flt_snoc pre x
      have HO : Hid (∀ y ∈ pre ++ [x], y.2.size ≤ 64) := fun y hy => by
        rcases List.mem_append.1 hy with h | h
        · exact HI.out.ok y h
        · simp at h; rw [h]; omega
      clear eE eV
      generalize mk (bl x.2) = m at *
      by_cases hm : m = x.1
      · rw [if_neg (by simpa using hm)] at HS
        have hm' : ((m : Int) != (x.1 : Int)) = false := by rw [bne_eq_false_iff_eq]; omega
        clear hm
        gi_wp2_with (refine ⟨trivial, ?_⟩; gi_at_call 6; refine (CallsIn.inRound l (callsIn_wide.2 (HH.out _))).mono ?_; rintro e w2 ⟨rfl, hb2⟩)
        have hk2 : KpC w'.heap.size W w2 := fun p v _ h => (hb2.cell (cell_lt' h)).trans h
        exact ⟨kf_below hb2, hk2, ⟨by rw [HS.out]; exact HI.out.bF.below hb2 HI.out.bF.lt, HO.out, HI.out.hB.trans (hb2.mono HI.out.hB.size)⟩⟩
      · rw [if_pos hm] at HS
        have hm' : ((m : Int) != (x.1 : Int)) = true := by rw [bne_iff_ne]; omega
        clear hm
        gi_wp2_with (refine ⟨trivial, ?_⟩; gi_at_call 6; refine (CallsIn.inRound l (callsIn_wide.2 (HH.out _))).mono ?_; rintro e w2 ⟨rfl, hb2⟩; have bF2 := HI.out.bF.below hb2 HI.out.bF.lt; have lF2 := bF2.lt; have p0 := bF2.cell 0; have pf0 := bF2.frozen 0; simp only [List.getElem?_toArray, List.getElem?_cons_zero] at p0)
        have hk2 : KpC w'.heap.size W (w2.setCell ⟨w'.heap.size, 0, none⟩ (.int .i64 1)) := fun p v hp h => by
          rw [World.cell?_of_block (w := w2) (Below.heap_setCell w2 _ _ p.block hp)]
          exact (hb2.cell (cell_lt' h)).trans h
        exact ⟨(kf_below hb2).trans ((KeepsOthers.setCell _ _ _).from _), hk2, ⟨by rw [HS.out]; exact bF2.set 0 _ rfl, HO.out, (HI.out.hB.trans (hb2.mono HI.out.hB.size)).setCell (p := ⟨w'.heap.size, 0, none⟩) (by simp) _⟩⟩
  case done =>
    rintro D xs W hD rfl hi hK
    have s0 := hi.bF.cell 0
    simp only [List.getElem?_toArray, List.getElem?_cons_zero] at s0
    have hno : (prs g f n).any big = false := by
      rw [List.any_eq_false]
      intro x hx
      have := hi.ok x hx
      simp [big]
      omega
    have hV : Hid (fitE n n g f = flt (prs g f n)) := by show _ = _; rw [HV.out, hno]; rfl
    clear hno
    gi_wp2
    simp only [Exit.noGoto]
    refine ⟨by simp, .inl ⟨_, _, rfl, run_takeDeferred hK, ?_⟩⟩
    refine ⟨.int .i64 (flt (prs g f n)), ?_, by rw [hV.out], hi.hB.trans (below_put _ _ (by omega))⟩
    simp [results, Try.f9, go_sem]
  case stop =>
    rintro D c pre W hD ⟨k, hk, rfl⟩ ⟨rfl, hi⟩ hK
    have s0 := hi.bF.cell 0
    simp only [List.getElem?_toArray, List.getElem?_cons_zero] at s0
    have hno : (prs g f n).any big = true := by
      obtain ⟨x, hx, hb⟩ := List.any_eq_true.1 hi.ok
      refine List.any_eq_true.2 ⟨x, ?_, hb⟩
      simp only [prs, List.mem_map, List.mem_range] at hx ⊢
      obtain ⟨j, hj, rfl⟩ := hx
      exact ⟨j, by omega, rfl⟩
    have hV : Hid (fitE n n g f = 2) := by show _ = _; rw [HV.out, hno]; rfl
    clear hno
    gi_wp2
    simp only [Exit.noGoto]
    refine ⟨by simp, .inl ⟨_, _, rfl, run_takeDeferred hK, ?_⟩⟩
    refine ⟨.int .i64 2, ?_, by rw [hV.out], hi.hB.trans (below_put _ _ (by omega))⟩
    simp [results, Try.f9, go_sem]
end Go.Proofs.Ytnhmhedabdmnbaa

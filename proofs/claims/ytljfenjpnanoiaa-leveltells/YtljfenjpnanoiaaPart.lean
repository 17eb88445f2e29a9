import Derived.Test.YtljfenjpnanoiaaBel
import Derived.Test.YtljfenjpnanoiaaHalf
import Derived.Scope
set_option linter.unusedSimpArgs false
set_option linter.unusedVariables false
namespace Go.Proofs.Ytljfenjpnanoiaa
open Go.RowKit Go.Shelf
attribute [local go_sem] Oper.semAt_some

/-! level.part: the three bits behind the highest one. -/
def stp (s : Nat × Nat) (x : Nat) : Nat × Nat := if s.2 = 0 then s else (if x = 1 then s.1 + s.2 else s.1, s.2 / 2)
def ps (xs : List Nat) : Nat × Nat := xs.foldl stp (0, 4)
theorem ps_snoc (xs : List Nat) (x : Nat) : ps (xs ++ [x]) = stp (ps xs) x := by simp [ps]
theorem ps_done (xs zs : List Nat) (h : (ps xs).2 = 0) : ps (xs ++ zs) = ps xs := by
  have : ∀ (zs : List Nat) (s : Nat × Nat), s.2 = 0 → zs.foldl stp s = s := by
    intro zs
    induction zs with
    | nil => intro s _; rfl
    | cons z zs ih => intro s hs; rw [List.foldl_cons, show stp s z = s from if_pos hs]; exact ih s hs
  simp only [ps, List.foldl_append]
  exact this zs _ h
theorem ps_bound (xs : List Nat) : (ps xs).1 + 2 * (ps xs).2 ≤ 8 := by
  have : ∀ (zs : List Nat) (s : Nat × Nat), s.1 + 2 * s.2 ≤ 8 → (zs.foldl stp s).1 + 2 * (zs.foldl stp s).2 ≤ 8 := by
    intro zs
    induction zs with
    | nil => intro s h; exact h
    | cons z zs ih =>
      intro s h
      rw [List.foldl_cons]
      apply ih
      unfold stp
      split
      · exact h
      · split <;> simp <;> omega
  exact this xs (0, 4) (by decide)
theorem bls_add (n top k j : Nat) : ∃ zs, bls n top (k + j) = bls n top k ++ zs := by
  induction j with
  | zero => exact ⟨[], by simp⟩
  | succ j ih =>
    obtain ⟨zs, h⟩ := ih
    exact ⟨zs ++ [bitn n (top - 1 - (k + j))], by rw [← Nat.add_assoc, bls_succ, h, List.append_assoc]⟩
theorem bls_pre (n top k : Nat) (h : k ≤ top) : ∃ zs, bls n top top = bls n top k ++ zs := by
  have := bls_add n top k (top - k)
  rwa [show k + (top - k) = top by omega] at this
def pt (n top : Nat) : Nat := (ps (bls n top top)).1
theorem below_any (n top : Nat) (w : World) : Calls Try.prog 43 #[V n, .int .i64 (top : Int)] w fun e w' => e = .returned (.func (.func 50) #[] #[.pointer (some ⟨w.heap.size + 1, 0, none⟩), .pointer (some ⟨w.heap.size, 0, none⟩)]) ∧ w' = ((w.alloc (.cells (A4 (lb n 0) (lb n 1) (lb n 2) (lb n 3)) 25)).alloc (.cells #[.int .i64 (top : Int)] 3)) := by
  go_enter Try.func43, Try.ntmps43
  go_wp2
  go_ret
  exact ⟨rfl, rfl⟩
/-- What holds ahead of a round, and behind the one that breaks off. -/
structure PI (w W : World) (pre : List Nat) : Prop where
  bS : Bk W (w.heap.size + 1) #[.int .i64 ((ps pre).1 : Int)] 3
  bT : Bk W (w.heap.size + 1 + 1) #[.int .i64 ((ps pre).2 : Int)] 3
  hB : Below w.heap.size w W
theorem PI.below {w A B : World} {k : Nat} {pre : List Nat} (h : PI w A pre) (hb : Below k A B) (hk : w.heap.size + 1 + 1 < k) : PI w B pre :=
  ⟨h.bS.below hb (by omega), h.bT.below hb (by omega), h.hB.trans (hb.mono (by omega))⟩
set_option maxRecDepth 100000 in
set_option maxHeartbeats 2000000 in
theorem part (n top : Nat) (ht : top ≤ 256) (w : World) :
    Calls Try.prog 29 #[V n, .int .i64 (top : Int)] w fun e w' => e = .returned (.int .i64 (pt n top : Int)) ∧ Below w.heap.size w w' := by
  have Ht : Hid (top ≤ 256) := ht
  clear ht
  refine (callsIn_wide (n := 6)).1 ?_
  refine callsIn_of_wp_marks Try.func29 rfl trivial ?_ rfl
  simp only [Try.ntmps29, List.size_toArray, List.length_cons, List.length_nil, Nat.reduceAdd, Nat.reduceSub, Array.replicate_succ, Array.replicate_zero, List.push_toArray, List.append_toArray, List.nil_append, List.cons_append]
  gi_wp2
  refine wpIn_wide.2 (wp_scope_straight ((wpIn_wide (n := 6)).1 ?_))
  gi_wp2
  refine wpIn_label ?_
  gi_wp2_with (refine ⟨trivial, ?_⟩; gi_at_call 43; refine (callsIn_wide.2 (below_any n top _)).mono ?_; rintro e w' ⟨rfl, rfl⟩)
  have bA : Bk (((((w.alloc (.cells (A4 (lb n 0) (lb n 1) (lb n 2) (lb n 3)) 25)).alloc (.cells #[.int .i64 0] 3)).alloc (.cells #[.int .i64 4] 3)).alloc (.cells (A4 (lb n 0) (lb n 1) (lb n 2) (lb n 3)) 25)).alloc (.cells #[.int .i64 (top : Int)] 3)) (w.heap.size + 1 + 1 + 1) (A4 (lb n 0) (lb n 1) (lb n 2) (lb n 3)) 25 := (Bk.new' _ _ _ (by simp)).alloc _
  have bT : Bk (((((w.alloc (.cells (A4 (lb n 0) (lb n 1) (lb n 2) (lb n 3)) 25)).alloc (.cells #[.int .i64 0] 3)).alloc (.cells #[.int .i64 4] 3)).alloc (.cells (A4 (lb n 0) (lb n 1) (lb n 2) (lb n 3)) 25)).alloc (.cells #[.int .i64 (top : Int)] 3)) (w.heap.size + 1 + 1 + 1 + 1) #[.int .i64 (top : Int)] 3 := Bk.new' _ _ _ (by simp)
  have h0 : PI w (((((w.alloc (.cells (A4 (lb n 0) (lb n 1) (lb n 2) (lb n 3)) 25)).alloc (.cells #[.int .i64 0] 3)).alloc (.cells #[.int .i64 4] 3)).alloc (.cells (A4 (lb n 0) (lb n 1) (lb n 2) (lb n 3)) 25)).alloc (.cells #[.int .i64 (top : Int)] 3)) [] := ⟨(((Bk.new' _ _ _ (by simp)).alloc _).alloc _).alloc _, ((Bk.new' _ _ _ (by simp)).alloc _).alloc _, (((((Below.refl _ w).alloc (Nat.le_refl _) _).alloc (by simp) _).alloc (by simp <;> omega) _).alloc (by simp <;> omega) _).alloc (by simp <;> omega) _⟩
  have hz9 : (((((w.alloc (.cells (A4 (lb n 0) (lb n 1) (lb n 2) (lb n 3)) 25)).alloc (.cells #[.int .i64 0] 3)).alloc (.cells #[.int .i64 4] 3)).alloc (.cells (A4 (lb n 0) (lb n 1) (lb n 2) (lb n 3)) 25)).alloc (.cells #[.int .i64 (top : Int)] 3)).heap.size = w.heap.size + 5 := by simp
  generalize (((((w.alloc (.cells (A4 (lb n 0) (lb n 1) (lb n 2) (lb n 3)) 25)).alloc (.cells #[.int .i64 0] 3)).alloc (.cells #[.int .i64 4] 3)).alloc (.cells (A4 (lb n 0) (lb n 1) (lb n 2) (lb n 3)) 25)).alloc (.cells #[.int .i64 (top : Int)] 3)) = w9 at bA bT h0 hz9 ⊢
  refine wpIn_rangeB rfl (by omega) (gf := 50) (lb := #[.pointer (some ⟨w.heap.size + 1 + 1 + 1 + 1, 0, none⟩), .pointer (some ⟨w.heap.size + 1 + 1 + 1, 0, none⟩)]) rfl trivial (enters_of Try.func50 rfl rfl)
    (below_seq _ n top (w.heap.size + 1 + 1 + 1) (w.heap.size + 1 + 1 + 1 + 1) (w.heap.size + 1) (w.heap.size + 1 + 1) (by omega) Ht.out w9 bA bT ⟨by omega, by omega⟩) KpX.trans (fun W l o o' _ h hc => kpx_put W l o o' h hc) (Below.refl _ _) (fun _ => rfl)
    (fun pre W => PI w W pre) (fun c pre W => c = .exit 0 ∧ PI w W pre ∧ (ps pre).2 = 0) (fun s A B h hb => h.below hb (by omega)) (fun c s A B h hb => ⟨h.1, h.2.1.below hb (by omega), h.2.2⟩) h0
    (fun x a' W => a' = { tmps := #[V n, .int .i64 (top : Int), .pointer (some ⟨w.heap.size, 0, none⟩), undef, .int .i64 0, .pointer (some ⟨w.heap.size + 1, 0, none⟩), .pointer (some ⟨w.heap.size + 1 + 1, 0, none⟩), .int .u64 (x : Int), V n, .int .i64 (top : Int), .func (.func 50) #[] #[.pointer (some ⟨w.heap.size + 1 + 1 + 1 + 1, 0, none⟩), .pointer (some ⟨w.heap.size + 1 + 1 + 1, 0, none⟩)], .int .u64 (x : Int), undef, undef, undef, undef, undef, undef, undef, undef, undef, undef, undef, undef], defers := [] })
    (fun x a' A l o o' _ h hc hx => hx) ?assign ?body ?done ?stop
  case assign =>
    intro l pre x W K hi hK
    simp only [benc]
    gi_wp2
    exact hK _ _ (KeepsFrom.refl _ _) (fun b vs t _ _ hb => hb) hi rfl
  case body =>
    rintro l pre x a' W hi rfl
    have hsn := ps_snoc pre x
    have hbd := ps_bound pre
    obtain ⟨a, b, hab⟩ : ∃ a b, ps pre = (a, b) := ⟨_, _, rfl⟩
    have bS := hi.bS
    have bT := hi.bT
    have hB := hi.hB
    rw [hab] at hsn hbd bS bT
    simp only at hbd bS bT
    have lS := bS.lt
    have lT := bT.lt
    have s0 := bS.cell 0
    have sf0 := bS.frozen 0
    have t0 := bT.cell 0
    have tf0 := bT.frozen 0
    simp only [List.getElem?_toArray, List.getElem?_cons_zero] at s0 t0
    have HI : Hid (PI w W pre) := hi
    have HSn : Hid (ps (pre ++ [x]) = stp (a, b) x) := hsn
    have HS : Hid (Bk W (w.heap.size + 1) #[.int .i64 (a : Int)] 3) := bS
    have HT : Hid (Bk W (w.heap.size + 1 + 1) #[.int .i64 (b : Int)] 3) := bT
    have HB : Hid (Below w.heap.size w W) := hB
    have hsz := hB.size
    clear hi hsn bS bT hab hB
    by_cases hb0 : b = 0
    · subst hb0
      have hE : ps (pre ++ [x]) = (a, 0) := HSn.out
      gi_wp2
      exact ⟨KeepsFrom.refl _ _, rfl, ⟨by rw [hE]; exact HS.out, by rw [hE]; exact HT.out, HB.out⟩, by rw [hE]⟩
    · have hbn : ((b : Int) == 0) = false := by rw [beq_eq_false_iff_ne]; omega
      by_cases hx1 : x = 1
      · subst hx1
        have hE : ps (pre ++ [1]) = (a + b, b / 2) := by rw [HSn.out]; simp [stp, hb0]
        have HE : Hid (ps (pre ++ [1]) = (a + b, b / 2)) := hE
        clear hE HSn
        gi_wp2
        refine ⟨((KeepsOthers.setCell _ _ _).from _).trans ((KeepsOthers.setCell _ _ _).from _), fun b' vs t h1 h2 hb => (hb.other (by simpa using h1) _).other (by simpa using h2) _, ?_, ?_, ?_⟩
        · rw [HE.out]; exact ((HS.out.set 0 _ rfl).other (by simp) _)
        · rw [HE.out]; exact ((HT.out.other (by simp) _).set 0 _ rfl)
        · exact (HB.out.setCell (p := ⟨w.heap.size + 1, 0, none⟩) (by simp) _).setCell (p := ⟨w.heap.size + 1 + 1, 0, none⟩) (by simp; omega) _
      · have hxn : ((x : Int) == 1) = false := by rw [beq_eq_false_iff_ne]; omega
        have hE : ps (pre ++ [x]) = (a, b / 2) := by rw [HSn.out]; simp [stp, hb0, hx1]
        have HE : Hid (ps (pre ++ [x]) = (a, b / 2)) := hE
        clear hE HSn hx1
        gi_wp2
        refine ⟨((KeepsOthers.setCell _ _ _).from _), fun b' vs t h1 h2 hb => (hb.other (by simpa using h2) _), ?_, ?_, ?_⟩
        · rw [HE.out]; exact (HS.out.other (by simp) _)
        · rw [HE.out]; exact (HT.out.set 0 _ rfl)
        · exact HB.out.setCell (p := ⟨w.heap.size + 1 + 1, 0, none⟩) (by simp; omega) _
  case done =>
    rintro D xs W hD rfl hi hK
    have s0 := hi.bS.cell 0
    simp only [List.getElem?_toArray, List.getElem?_cons_zero] at s0
    gi_wp2
    simp only [Exit.noGoto]
    refine ⟨by simp, .inl ⟨_, _, rfl, run_takeDeferred hK, ?_⟩⟩
    refine ⟨.int .i64 (pt n top : Int), ?_, rfl, hi.hB.trans (below_put _ _ (by omega))⟩
    simp [results, Try.f29, go_sem, pt]
  case stop =>
    rintro D c pre W hD ⟨k, hk, rfl⟩ ⟨rfl, hi, hz⟩ hK
    obtain ⟨zs, hzs⟩ := bls_pre n top (k + 1) (by omega)
    have he : pt n top = (ps (bls n top (k + 1))).1 := by unfold pt; rw [hzs, ps_done _ _ hz]
    have s0 := hi.bS.cell 0
    simp only [List.getElem?_toArray, List.getElem?_cons_zero] at s0
    gi_wp2
    simp only [Exit.noGoto]
    refine ⟨by simp, .inl ⟨_, _, rfl, run_takeDeferred hK, ?_⟩⟩
    refine ⟨.int .i64 (pt n top : Int), ?_, rfl, hi.hB.trans (below_put _ _ (by omega))⟩
    rw [he]; simp [results, Try.f29, go_sem, pt]
end Go.Proofs.Ytljfenjpnanoiaa

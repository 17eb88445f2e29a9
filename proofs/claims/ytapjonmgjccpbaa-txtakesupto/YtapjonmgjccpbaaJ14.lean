/- Texts joined: BlP BlF BlR RTx. -/
import Derived.Test.YtapjonmgjccpbaaJ10
import Derived.Test.YtapjonmgjccpbaaJ0
import Derived.Test.YtapjonmgjccpbaaJ13
section
set_option linter.unusedSimpArgs false
set_option linter.unusedVariables false
namespace Go.Proofs.Ytapjonmgjccpbaa
open Go.RowKit Go.Shelf
attribute [local go_sem] Oper.semAt_some

/-! blob.pairs, as a sequence. -/
/-- What a round keeps: all cells but those of one block. -/
def KpC (o : Nat) (A B : World) : Prop := ∀ p v, p.block ≠ o → A.cell? p = some v → B.cell? p = some v
theorem KpC.trans {o : Nat} (A B C : World) (h : KpC o A B) (k : KpC o B C) : KpC o A C := fun p v h1 h2 => k p v h1 (h p v h1 h2)
theorem kpc_put {o : Nat} (W : World) (l : Nat) (x x' : Obj) (h : W.heap[l]? = some x) (hc : x.isCells = false) : KpC o W (W.putObj l x') := by
  intro p v _ hp
  by_cases e : p.block = l
  · subst e
    unfold World.cell? at hp
    rw [h] at hp
    cases x <;> simp_all [Obj.isCells]
  · rw [World.cell?_of_block (w := W) (World.putObj_heap_other e)]
    exact hp
/-- Hashes and blobs, in blocks that a round does not write. -/
def PrI (g : Nat → Nat) (f : Nat → ByteArray) (n : Nat) (aH aB : Option Addr) (cH Bh o : Nat) (w : World) : Prop :=
  w.cell? ⟨Bh, 0, none⟩ = some (.slice aH n cH) ∧ (∀ i, i < n → ∃ b off, aH = some ⟨b, off, none⟩ ∧ b ≠ o ∧ w.cell? ⟨b, off + i, none⟩ = some (.int .u64 (g i : Int))) ∧
  (∀ i, i < n → ∃ b off, aB = some ⟨b, off, none⟩ ∧ b ≠ o ∧ w.cell? ⟨b, off + i, none⟩ = some (.string (f i)))
theorem PrI.keep {g : Nat → Nat} {f : Nat → ByteArray} {n : Nat} {aH aB : Option Addr} {cH Bh o : Nat} {w w' : World} (h : PrI g f n aH aB cH Bh o w) (hk : KpC o w w') (hB : Bh ≠ o) : PrI g f n aH aB cH Bh o w' := by
  obtain ⟨h1, h2, h3⟩ := h
  refine ⟨hk _ _ hB h1, fun i hi => ?_, fun i hi => ?_⟩
  · obtain ⟨b, off, ha, hb, hc⟩ := h2 i hi
    exact ⟨b, off, ha, hb, hk _ _ hb hc⟩
  · obtain ⟨b, off, ha, hb, hc⟩ := h3 i hi
    exact ⟨b, off, ha, hb, hk _ _ hb hc⟩
theorem PrI.below {g : Nat → Nat} {f : Nat → ByteArray} {n : Nat} {aH aB : Option Addr} {cH Bh o : Nat} {w w' : World} (h : PrI g f n aH aB cH Bh o w) (hb : Below w.heap.size w w') : PrI g f n aH aB cH Bh o w' := by
  obtain ⟨h1, h2, h3⟩ := h
  refine ⟨(hb.cell (cell_lt' h1)).trans h1, fun i hi => ?_, fun i hi => ?_⟩
  · obtain ⟨b, off, ha, hn, hc⟩ := h2 i hi
    exact ⟨b, off, ha, hn, (hb.cell (cell_lt' hc)).trans hc⟩
  · obtain ⟨b, off, ha, hn, hc⟩ := h3 i hi
    exact ⟨b, off, ha, hn, (hb.cell (cell_lt' hc)).trans hc⟩
def prs (g : Nat → Nat) (f : Nat → ByteArray) (k : Nat) : List (Nat × ByteArray) := (List.range k).map fun j => (g j, f j)
theorem prs_succ (g : Nat → Nat) (f : Nat → ByteArray) (k : Nat) : prs g f (k + 1) = prs g f k ++ [(g k, f k)] := by simp [prs, List.range_succ]
def bpenc (x : Nat × ByteArray) : Array Value := #[.int .u64 (x.1 : Int), .string x.2]
set_option maxRecDepth 100000 in
set_option maxHeartbeats 2000000 in
theorem pairs_seq (m : Nat) (g : Nat → Nat) (f : Nat → ByteArray) (n : Nat) (aH aB : Option Addr) (cH cB Bh Bb o : Nat) (hm : 1 ≤ m) (hn : n ≤ 4611686018427387904) (w : World)
    (hP : PrI g f n aH aB cH Bh o w) (bB : w.cell? ⟨Bb, 0, none⟩ = some (.slice aB n cB)) (nA : Bh ≠ o) :
    SeqB Fence.wide m Try.prog 128 #[.pointer (some ⟨Bb, 0, none⟩), .pointer (some ⟨Bh, 0, none⟩)] bpenc (KpC o) (fun xs => xs = prs g f n) (fun xs => ∃ k, k < n ∧ xs = prs g f (k + 1)) w := by
  intro l J Jx W hbW hJ hJx hY h0
  have hP : Hid (PrI g f n aH aB cH Bh o W) := hP.below hbW
  have bB := (hbW.cell (cell_lt' bB)).trans bB
  have HY : Hid (∀ pre x A, J pre A → YieldAt Fence.wide (m - 1) Try.prog l (bpenc x) A fun e B => (e = .returned (.bool true) ∧ J (pre ++ [x]) B ∧ KpC o A B) ∨ (e = .returned (.bool false) ∧ Jx (pre ++ [x]) B)) := hY
  clear hY hJ hJx hbW
  show CallsIn Fence.wide m Try.prog 128 #[.func (.yield l) #[] #[], .pointer (some ⟨Bb, 0, none⟩), .pointer (some ⟨Bh, 0, none⟩)] W _
  refine callsIn_of_wp Try.func128 rfl trivial ?_ rfl
  simp only [Try.ntmps128, List.size_toArray, List.length_cons, List.length_nil, Nat.reduceAdd, Nat.reduceSub, Array.replicate_succ, Array.replicate_zero, List.push_toArray, List.append_toArray, List.nil_append, List.cons_append]
  gi_wp2
  gi_loopw [8] (fun i wr => ∃ j : Nat, j ≤ n ∧ i = .int .i64 (j : Int) ∧ PrI g f n aH aB cH Bh o wr ∧ J (prs g f j) wr) (fun i _ => n - (intOf i).toNat)
  case atStart => exact ⟨0, Nat.zero_le _, rfl, hP.out, h0⟩
  case round =>
    clear bB hP h0
    obtain ⟨j, hj, rfl, hP, hJk⟩ := hrel
    by_cases hlt : j < n
    · have hlt' : (j : Int) < (n : Int) := by omega
      have HBs : Hid (prs g f (j + 1) = prs g f j ++ [(g j, f j)]) := prs_succ g f j
      have HA : Hid (PrI g f n aH aB cH Bh o wr) := hP
      obtain ⟨h1, h2, h3⟩ := hP
      obtain ⟨b, off, rfl, _, hcH⟩ := h2 j hlt
      obtain ⟨b', off', rfl, _, hcB⟩ := h3 j hlt
      clear h2 h3
      obtain ⟨fn, tmps, assign, body, hy, hR⟩ := HY.out _ (g j, f j) wr hJk
      simp only [bpenc] at hy
      gi_wp2
      refine hR.mono ?_
      rintro e W3 (⟨rfl, hJ3, hk3⟩ | ⟨rfl, hJx3⟩)
      · gi_wp2
        go_roundw
        case rel => exact ⟨j + 1, by omega, by go_num, HA.out.keep hk3 nA, by rw [HBs.out]; exact hJ3⟩
        case measure => simp [intOf]; omega
      · gi_wp2
        refine bodyPost_ret (results_none rfl _ _ _) rfl ?_
        exact ⟨⟨_, rfl⟩, .inr ⟨_, ⟨j, hlt, HBs.out.symm⟩, hJx3⟩⟩
    · have hlt' : ¬ (j : Int) < (n : Int) := by omega
      obtain rfl : j = n := by omega
      gi_wp2
      go_end0
      refine ⟨⟨_, rfl⟩, .inl ?_⟩
      first | exact hJk | exact ⟨_, rfl, hJk⟩
theorem pairs_any (aH aB : Option Addr) (n cH m cB : Nat) (w : World) : Calls Try.prog 120 #[.slice aH n cH, .slice aB m cB] w fun e w' => e = .returned (.func (.func 128) #[] #[.pointer (some ⟨w.heap.size + 1, 0, none⟩), .pointer (some ⟨w.heap.size, 0, none⟩)]) ∧ w' = (w.alloc (.cells #[.slice aH n cH] 27)).alloc (.cells #[.slice aB m cB] 28) := by
  go_enter Try.func120, Try.ntmps120
  go_wp2
  go_ret
  exact ⟨by simp, rfl⟩
end Go.Proofs.Ytapjonmgjccpbaa
end
section
set_option linter.unusedSimpArgs false
set_option linter.unusedVariables false
namespace Go.Proofs.Ytapjonmgjccpbaa
open Go.RowKit Go.Shelf
attribute [local go_sem] Oper.semAt_some

/-! blob.Fits. -/
def big (x : Nat × ByteArray) : Bool := decide (64 < x.2.size)
def unfit (x : Nat × ByteArray) : Bool := decide (mk (blp x.2) ≠ x.1)
def fitE (hl n : Nat) (g : Nat → Nat) (f : Nat → ByteArray) : Int :=
  if cnts n = true ∧ hl = n then (if (prs g f n).any big then 2 else if (prs g f n).any unfit then 1 else 0) else 1
def flt (pre : List (Nat × ByteArray)) : Int := if pre.any unfit then 1 else 0
theorem flt_snoc (pre : List (Nat × ByteArray)) (x : Nat × ByteArray) : flt (pre ++ [x]) = if mk (blp x.2) ≠ x.1 then 1 else flt pre := by
  unfold flt
  rw [List.any_append]
  by_cases h : mk (blp x.2) = x.1
  · have e : [x].any unfit = false := by simp [unfit, h]
    rw [e, Bool.or_false, if_neg (not_not_intro h)]
  · have e : [x].any unfit = true := by simp [unfit, h]
    rw [e, Bool.or_true, if_pos h]
    rfl
theorem flt_val (pre : List (Nat × ByteArray)) : flt pre = 0 ∨ flt pre = 1 := by
  unfold flt
  split
  · exact .inr rfl
  · exact .inl rfl
structure FtI (w W : World) (pre : List (Nat × ByteArray)) : Prop where
  bF : Bk W w.heap.size #[.int .i64 (flt pre)] 33
  ok : ∀ x ∈ pre, x.2.size ≤ 64
  hB : Below w.heap.size w W
theorem FtI.below {w A B : World} {k : Nat} {pre : List (Nat × ByteArray)} (h : FtI w A pre) (hb : Below k A B) (hk : w.heap.size < k) : FtI w B pre :=
  ⟨h.bF.below hb (by omega), h.ok, h.hB.trans (hb.mono (by omega))⟩
structure FtX (w W : World) (pre : List (Nat × ByteArray)) : Prop where
  bF : Bk W w.heap.size #[.int .i64 2] 33
  ok : pre.any big = true
  hB : Below w.heap.size w W
theorem FtX.below {w A B : World} {k : Nat} {pre : List (Nat × ByteArray)} (h : FtX w A pre) (hb : Below k A B) (hk : w.heap.size < k) : FtX w B pre :=
  ⟨h.bF.below hb (by omega), h.ok, h.hB.trans (hb.mono (by omega))⟩
set_option maxRecDepth 100000 in
set_option maxHeartbeats 2000000 in
theorem fits_no (hl n : Nat) (aH aB : Option Addr) (cH cB : Nat) (g : Nat → Nat) (f : Nat → ByteArray) (w : World) (h : ¬ (cnts n = true ∧ hl = n)) (hn : n ≤ 9223372036854775807) (hln : hl ≤ 9223372036854775807) :
    Calls Try.prog 106 #[.slice aH hl cH, .slice aB n cB] w fun e w' => e = .returned (.int .i64 (fitE hl n g f)) ∧ Below w.heap.size w w' := by
  have HV : Hid (fitE hl n g f = 1) := if_neg h
  have HC : Hid (∀ w, Calls Try.prog 119 #[.int .i64 (n : Int)] w fun e w' => e = .returned (.bool (cnts n)) ∧ w' = w) := fun w => counts n w
  refine (callsIn_wide (n := 6)).1 ?_
  refine callsIn_of_wp_marks Try.func106 rfl trivial ?_ rfl
  simp only [Try.ntmps106, List.size_toArray, List.length_cons, List.length_nil, Nat.reduceAdd, Nat.reduceSub, Array.replicate_succ, Array.replicate_zero, List.push_toArray, List.append_toArray, List.nil_append, List.cons_append]
  gi_wp2
  refine wpIn_wide.2 (wp_scope_straight ((wpIn_wide (n := 6)).1 ?_))
  generalize cnts n = c at *
  cases c with
  | false =>
    gi_wp2_with (refine ⟨trivial, ?_⟩; gi_at_call 119; refine (callsIn_wide.2 (HC.out _)).mono ?_; rintro e w' ⟨rfl, rfl⟩)
    simp only [Exit.noGoto]
    refine ⟨.int .i64 1, ?_, by rw [HV.out], Below.refl _ _⟩
    simp [results, Try.f106, go_sem]
  | true =>
    have hne : ((hl : Int) != (n : Int)) = true := by rw [bne_iff_ne]; intro e; exact h ⟨rfl, by omega⟩
    clear h
    gi_wp2_with (refine ⟨trivial, ?_⟩; gi_at_call 119; refine (callsIn_wide.2 (HC.out _)).mono ?_; rintro e w' ⟨rfl, rfl⟩)
    simp only [Exit.noGoto]
    refine ⟨.int .i64 1, ?_, by rw [HV.out], Below.refl _ _⟩
    simp [results, Try.f106, go_sem]
set_option maxRecDepth 100000 in
set_option maxHeartbeats 2000000 in
theorem fits_go (n : Nat) (aH aB : Option Addr) (cH cB : Nat) (g : Nat → Nat) (f : Nat → ByteArray) (w : World) (hc : cnts n = true)
    (hH : ∀ i, i < n → ∃ b off, aH = some ⟨b, off, none⟩ ∧ w.cell? ⟨b, off + i, none⟩ = some (.int .u64 (g i : Int))) (hB : ∀ i, i < n → ∃ b off, aB = some ⟨b, off, none⟩ ∧ w.cell? ⟨b, off + i, none⟩ = some (.string (f i))) :
    Calls Try.prog 106 #[.slice aH n cH, .slice aB n cB] w fun e w' => e = .returned (.int .i64 (fitE n n g f)) ∧ Below w.heap.size w w' := by
  have HV : Hid (fitE n n g f = if (prs g f n).any big then 2 else if (prs g f n).any unfit then 1 else 0) := if_pos ⟨hc, rfl⟩
  have HC : Hid (∀ w, Calls Try.prog 119 #[.int .i64 (n : Int)] w fun e w' => e = .returned (.bool true) ∧ w' = w) := fun w => by have := counts n w; rw [hc] at this; exact this
  have hn4 : n ≤ 4 := by
    have : (1 : Int) ≤ n ∧ (n : Int) ≤ 4 := by simpa [cnts] using hc
    omega
  have HP : Hid ((∀ i, i < n → ∃ b off, aH = some ⟨b, off, none⟩ ∧ w.cell? ⟨b, off + i, none⟩ = some (.int .u64 (g i : Int))) ∧ (∀ i, i < n → ∃ b off, aB = some ⟨b, off, none⟩ ∧ w.cell? ⟨b, off + i, none⟩ = some (.string (f i)))) := ⟨hH, hB⟩
  clear hH hB hc
  refine (callsIn_wide (n := 6)).1 ?_
  refine callsIn_of_wp_marks Try.func106 rfl trivial ?_ rfl
  simp only [Try.ntmps106, List.size_toArray, List.length_cons, List.length_nil, Nat.reduceAdd, Nat.reduceSub, Array.replicate_succ, Array.replicate_zero, List.push_toArray, List.append_toArray, List.nil_append, List.cons_append]
  gi_wp2
  refine wpIn_wide.2 (wp_scope_straight ((wpIn_wide (n := 6)).1 ?_))
  gi_wp2_with (refine ⟨trivial, ?_⟩; gi_at_call 119; refine (callsIn_wide.2 (HC.out _)).mono ?_; rintro e w' ⟨rfl, rfl⟩)
  refine wpIn_label ?_
  gi_wp2_with (refine ⟨trivial, ?_⟩; gi_at_call 120; refine (callsIn_wide.2 (pairs_any aH aB n cH n cB _)).mono ?_; rintro e w' ⟨rfl, rfl⟩)
  obtain ⟨W9, hW9⟩ : ∃ W9, W9 = ((w'.alloc (.cells #[.int .i64 0] 33)).alloc (.cells #[.slice aH n cH] 27)).alloc (.cells #[.slice aB n cB] 28) := ⟨_, rfl⟩
  rw [← hW9]
  have hbW : Below w'.heap.size w' W9 := by rw [hW9]; exact (((Below.refl _ w').alloc (Nat.le_refl _) _).alloc (by simp) _).alloc (by simp; omega) _
  have h0 : FtI w' W9 [] := ⟨by rw [hW9]; exact ((Bk.new' _ _ _ (by simp)).alloc _).alloc _, (fun x hx => by cases hx), hbW⟩
  have b1 : Bk W9 (w'.heap.size + 1) #[.slice aH n cH] 27 := by rw [hW9]; exact (Bk.new' _ _ _ (by simp)).alloc _
  have b2 : Bk W9 (w'.heap.size + 1 + 1) #[.slice aB n cB] 28 := by rw [hW9]; exact Bk.new' _ _ _ (by simp)
  have hz9 : W9.heap.size = w'.heap.size + 3 := by rw [hW9]; simp
  clear hW9
  have c1 := b1.cell 0
  have c2 := b2.cell 0
  simp only [List.getElem?_toArray, List.getElem?_cons_zero] at c1 c2
  have hP : PrI g f n aH aB cH (w'.heap.size + 1) w'.heap.size W9 := ⟨c1, fun i hi => by
      obtain ⟨b, off, ha, hc⟩ := HP.out.1 i hi
      exact ⟨b, off, ha, Nat.ne_of_lt (cell_lt' hc), (hbW.cell (cell_lt' hc)).trans hc⟩, fun i hi => by
      obtain ⟨b, off, ha, hc⟩ := HP.out.2 i hi
      exact ⟨b, off, ha, Nat.ne_of_lt (cell_lt' hc), (hbW.cell (cell_lt' hc)).trans hc⟩⟩
  clear HP HC b1 b2 hbW c1
  refine wpIn_rangeB rfl (by omega) (gf := 128) (lb := #[.pointer (some ⟨w'.heap.size + 1 + 1, 0, none⟩), .pointer (some ⟨w'.heap.size + 1, 0, none⟩)]) rfl trivial (enters_of Try.func128 rfl rfl)
    (pairs_seq _ g f n aH aB cH cB (w'.heap.size + 1) (w'.heap.size + 1 + 1) w'.heap.size (by omega) (by omega) W9 hP c2 (by omega)) KpC.trans (fun W l o o' _ h hc => kpc_put W l o o' h hc) (Below.refl _ _) (fun _ => rfl)
    (fun pre W => FtI w' W pre) (fun c pre W => c = .exit 0 ∧ FtX w' W pre) (fun s A B h hb => h.below hb (by omega)) (fun c s A B h hb => ⟨h.1, h.2.below hb (by omega)⟩) h0
    (fun x a' W => a' = { tmps := #[.slice aH n cH, .slice aB n cB, undef, undef, .int .i64 0, .pointer (some ⟨w'.heap.size, 0, none⟩), .int .u64 (x.1 : Int), .string x.2, undef, undef, .slice aB n cB, .int .i64 n, .bool true, .bool false, .bool false, .slice aH n cH, .int .i64 n, .slice aB n cB, .int .i64 n, .bool false, .bool false, .slice aH n cH, .slice aB n cB, .func (.func 128) #[] #[.pointer (some ⟨w'.heap.size + 1 + 1, 0, none⟩), .pointer (some ⟨w'.heap.size + 1, 0, none⟩)], .int .u64 (x.1 : Int), .string x.2, undef, undef, undef, undef, undef, undef, undef, undef, undef, undef, undef, undef, undef, undef], defers := [] })
    (fun x a' A l o o' _ h hc hx => hx) ?assign ?body ?done ?stop
  case assign =>
    intro l pre x W K hi hK
    simp only [bpenc]
    gi_wp2
    exact hK _ _ (KeepsFrom.refl _ _) (fun p v _ h => h) hi rfl
  case body =>
    rintro l pre x a' W hi rfl
    have HI : Hid (FtI w' W pre) := hi
    have lF := hi.bF.lt
    have HH : Hid (∀ w, Calls Try.prog 121 #[.string x.2] w fun e w' => e = .returned (.tuple #[.int .u64 (hV x.2 : Int), .int .i64 (hE x.2)]) ∧ Below w.heap.size w w') := fun w => hash x.2 w
    clear hi
    by_cases hbg : 64 < x.2.size
    · have eE : hE x.2 = 2 := if_pos hbg
      rw [eE] at HH
      clear eE
      generalize hV x.2 = hv at HH
      gi_wp2_with (refine ⟨trivial, ?_⟩; gi_at_call 121; refine (CallsIn.inRound l (callsIn_wide.2 (HH.out _))).mono ?_; rintro e w2 ⟨rfl, hb2⟩; have bF2 := HI.out.bF.below hb2 HI.out.bF.lt; have lF2 := bF2.lt; have p0 := bF2.cell 0; have pf0 := bF2.frozen 0; simp only [List.getElem?_toArray, List.getElem?_cons_zero] at p0)
      refine ⟨(kf_below hb2).trans ((KeepsOthers.setCell _ _ _).from _), rfl, ⟨bF2.set 0 _ rfl, ?_, (HI.out.hB.trans (hb2.mono HI.out.hB.size)).setCell (p := ⟨w'.heap.size, 0, none⟩) (by simp) _⟩⟩
      rw [List.any_append]
      simp [big, hbg]
    · have eE : hE x.2 = 0 := if_neg hbg
      have eV : hV x.2 = mk (blp x.2) := if_neg hbg
      rw [eE, eV] at HH
      have HS : Hid (flt (pre ++ [x]) = if mk (blp x.2) ≠ x.1 then 1 else flt pre) := flt_snoc pre x
      have HO : Hid (∀ y ∈ pre ++ [x], y.2.size ≤ 64) := fun y hy => by
        rcases List.mem_append.1 hy with h | h
        · exact HI.out.ok y h
        · simp at h; rw [h]; omega
      clear eE eV
      generalize mk (blp x.2) = m at *
      by_cases hm : m = x.1
      · rw [if_neg (by simpa using hm)] at HS
        have hm' : ((m : Int) != (x.1 : Int)) = false := by rw [bne_eq_false_iff_eq]; omega
        clear hm
        gi_wp2_with (refine ⟨trivial, ?_⟩; gi_at_call 121; refine (CallsIn.inRound l (callsIn_wide.2 (HH.out _))).mono ?_; rintro e w2 ⟨rfl, hb2⟩)
        have hk2 : KpC w'.heap.size W w2 := fun p v _ h => (hb2.cell (cell_lt' h)).trans h
        exact ⟨kf_below hb2, hk2, ⟨by rw [HS.out]; exact HI.out.bF.below hb2 HI.out.bF.lt, HO.out, HI.out.hB.trans (hb2.mono HI.out.hB.size)⟩⟩
      · rw [if_pos hm] at HS
        have hm' : ((m : Int) != (x.1 : Int)) = true := by rw [bne_iff_ne]; omega
        clear hm
        gi_wp2_with (refine ⟨trivial, ?_⟩; gi_at_call 121; refine (CallsIn.inRound l (callsIn_wide.2 (HH.out _))).mono ?_; rintro e w2 ⟨rfl, hb2⟩; have bF2 := HI.out.bF.below hb2 HI.out.bF.lt; have lF2 := bF2.lt; have p0 := bF2.cell 0; have pf0 := bF2.frozen 0; simp only [List.getElem?_toArray, List.getElem?_cons_zero] at p0)
        have hk2 : KpC w'.heap.size W (w2.setCell ⟨w'.heap.size, 0, none⟩ (.int .i64 1)) := fun p v hp h => by
          rw [World.cell?_of_block (w := w2) (Below.heap_setCell w2 _ _ p.block hp)]
          exact (hb2.cell (cell_lt' h)).trans h
        exact ⟨(kf_below hb2).trans ((KeepsOthers.setCell _ _ _).from _), hk2, ⟨by rw [HS.out]; exact bF2.set 0 _ rfl, HO.out, (HI.out.hB.trans (hb2.mono HI.out.hB.size)).setCell (p := ⟨w'.heap.size, 0, none⟩) (by simp) _⟩⟩
  case done =>
    rintro D xs W hD rfl hi hK
    have s0 := hi.bF.cell 0
    simp only [List.getElem?_toArray, List.getElem?_cons_zero] at s0
    have hno : (prs g f n).any big = false := by
      rw [List.any_eq_false]
      intro x hx
      have := hi.ok x hx
      simp [big]
      omega
    have hV : Hid (fitE n n g f = flt (prs g f n)) := by show _ = _; rw [HV.out, hno]; rfl
    clear hno
    gi_wp2
    simp only [Exit.noGoto]
    refine ⟨by simp, .inl ⟨_, _, rfl, run_takeDeferred hK, ?_⟩⟩
    refine ⟨.int .i64 (flt (prs g f n)), ?_, by rw [hV.out], hi.hB.trans (below_put _ _ (by omega))⟩
    simp [results, Try.f106, go_sem]
  case stop =>
    rintro D c pre W hD ⟨k, hk, rfl⟩ ⟨rfl, hi⟩ hK
    have s0 := hi.bF.cell 0
    simp only [List.getElem?_toArray, List.getElem?_cons_zero] at s0
    have hno : (prs g f n).any big = true := by
      obtain ⟨x, hx, hb⟩ := List.any_eq_true.1 hi.ok
      refine List.any_eq_true.2 ⟨x, ?_, hb⟩
      simp only [prs, List.mem_map, List.mem_range] at hx ⊢
      obtain ⟨j, hj, rfl⟩ := hx
      exact ⟨j, by omega, rfl⟩
    have hV : Hid (fitE n n g f = 2) := by show _ = _; rw [HV.out, hno]; rfl
    clear hno
    gi_wp2
    simp only [Exit.noGoto]
    refine ⟨by simp, .inl ⟨_, _, rfl, run_takeDeferred hK, ?_⟩⟩
    refine ⟨.int .i64 2, ?_, by rw [hV.out], hi.hB.trans (below_put _ _ (by omega))⟩
    simp [results, Try.f106, go_sem]
end Go.Proofs.Ytapjonmgjccpbaa
end
section
set_option linter.unusedSimpArgs false
set_option linter.unusedVariables false
namespace Go.Proofs.Ytapjonmgjccpbaa
open Go.RowKit

/-! The page's Fits. -/
theorem any_prs_true {p : Nat × ByteArray → Bool} {g : Nat → Nat} {f : Nat → ByteArray} {n k : Nat} (hk : k < n) (h : p (g k, f k) = true) : (prs g f n).any p = true := by
  refine List.any_eq_true.2 ⟨_, ?_, h⟩
  simp only [prs, List.mem_map, List.mem_range]
  exact ⟨k, hk, rfl⟩
theorem any_prs_false {p : Nat × ByteArray → Bool} {g : Nat → Nat} {f : Nat → ByteArray} {n : Nat} (h : ∀ k, k < n → p (g k, f k) = false) : (prs g f n).any p = false := by
  refine List.any_eq_false.2 fun x hx => ?_
  simp only [prs, List.mem_map, List.mem_range] at hx
  obtain ⟨k, hk, rfl⟩ := hx
  rw [h k hk]
  exact Bool.false_ne_true
set_option maxRecDepth 100000 in
set_option maxHeartbeats 2000000 in
theorem rfits_no (hl n : Nat) (aH aB : Option Addr) (cH cB : Nat) (g : Nat → Nat) (f : Nat → ByteArray) (w : World) (h : ¬ (cnts n = true ∧ hl = n)) (hn : n ≤ 9223372036854775807) (hln : hl ≤ 9223372036854775807) :
    Calls Try.prog 47 #[.slice aH hl cH, .slice aB n cB] w fun e w' => e = .returned (.int .i64 (fitE hl n g f)) ∧ w' = w := by
  have HV : Hid (fitE hl n g f = 1) := if_neg h
  by_cases h1 : (n : Int) < 1
  · clear h
    go_enter Try.func47, Try.ntmps47
    go_wp2
    go_ret
    exact ⟨by rw [HV.out]; rfl, rfl⟩
  · by_cases h4 : 4 < (n : Int)
    · clear h
      go_enter Try.func47, Try.ntmps47
      go_wp2
      go_ret
      exact ⟨by rw [HV.out]; rfl, rfl⟩
    · have hne : ((hl : Int) != (n : Int)) = true := by
        rw [bne_iff_ne]
        intro e
        exact h ⟨by simp [cnts]; omega, by omega⟩
      clear h
      go_enter Try.func47, Try.ntmps47
      go_wp2
      go_ret
      exact ⟨by rw [HV.out]; rfl, rfl⟩
set_option maxRecDepth 100000 in
set_option maxHeartbeats 2000000 in
theorem rfits_go (n : Nat) (aH aB : Option Addr) (cH cB : Nat) (g : Nat → Nat) (f : Nat → ByteArray) (w : World) (hc : cnts n = true)
    (hH : ∀ i, i < n → ∃ b off, aH = some ⟨b, off, none⟩ ∧ w.cell? ⟨b, off + i, none⟩ = some (.int .u64 (g i : Int))) (hB : ∀ i, i < n → ∃ b off, aB = some ⟨b, off, none⟩ ∧ w.cell? ⟨b, off + i, none⟩ = some (.string (f i))) :
    Calls Try.prog 47 #[.slice aH n cH, .slice aB n cB] w fun e w' => e = .returned (.int .i64 (fitE n n g f)) ∧ Below w.heap.size w w' := by
  have HV : Hid (fitE n n g f = if (prs g f n).any big then 2 else if (prs g f n).any unfit then 1 else 0) := if_pos ⟨hc, rfl⟩
  have hn : (1 : Int) ≤ n ∧ (n : Int) ≤ 4 := by simpa [cnts] using hc
  have h1 : ¬ (n : Int) < 1 := by omega
  have h4 : ¬ 4 < (n : Int) := by omega
  have hne : ((n : Int) != (n : Int)) = false := by rw [bne_eq_false_iff_eq]
  have HP : Hid ((∀ i, i < n → ∃ b off, aH = some ⟨b, off, none⟩ ∧ w.cell? ⟨b, off + i, none⟩ = some (.int .u64 (g i : Int))) ∧ (∀ i, i < n → ∃ b off, aB = some ⟨b, off, none⟩ ∧ w.cell? ⟨b, off + i, none⟩ = some (.string (f i)))) := ⟨hH, hB⟩
  clear hH hB hc hn
  go_enter Try.func47, Try.ntmps47
  go_wp2
  go_loopw [5] (fun i wr => ∃ k : Nat, k ≤ n ∧ i = .int .i64 k ∧ wr = w ∧ ∀ j, j < k → (f j).size ≤ 64) (fun i _ => n - (intOf i).toNat)
  case atStart => exact ⟨0, by omega, rfl, rfl, fun j hj => absurd hj (by omega)⟩
  case round =>
    obtain ⟨k, hk, rfl, rfl, hall⟩ := hrel
    have HAll : Hid (∀ j, j < k → (f j).size ≤ 64) := hall
    clear hall
    by_cases hlt : k < n
    · have hlt' : (k : Int) < (n : Int) := by omega
      obtain ⟨b, off, rfl, hcB⟩ := HP.out.2 k hlt
      by_cases hb : 64 < (f k).size
      · have hb' : 64 < ((f k).size : Int) := by omega
        have HR : Hid (fitE n n g f = 2) := by show _ = _; rw [HV.out, any_prs_true (p := big) hlt (by simp [big, hb])]; rfl
        clear HV
        go_wp2
        go_ret
        exact ⟨by rw [HR.out]; rfl, Below.refl _ _⟩
      · have hb' : ¬ 64 < ((f k).size : Int) := by omega
        go_wp2
        go_roundw
        case rel =>
          refine ⟨k + 1, by omega, by go_num, trivial, fun j hj => ?_⟩
          rcases Nat.lt_or_ge j k with h | h
          · exact HAll.out j h
          · obtain rfl : j = k := by omega
            omega
        case measure => simp [intOf]; omega
    · have hlt' : ¬ (k : Int) < (n : Int) := by omega
      obtain rfl : k = n := by omega
      have HB : Hid ((prs g f k).any big = false) := any_prs_false (p := big) fun j hj => by have := HAll.out j hj; simp [big]; omega
      have HV : Hid (fitE k k g f = if (prs g f k).any unfit then 1 else 0) := by show _ = _; rw [HV.out, HB.out]; rfl
      clear HB hlt hlt'
      go_wp2
      go_loopw [6] (fun i wq => ∃ j : Nat, j ≤ k ∧ i = .int .i64 j ∧ Below wr.heap.size wr wq ∧ ∀ l, l < j → mk (blp (f l)) = g l) (fun i _ => k - (intOf i).toNat)
      case atStart => exact ⟨0, by omega, rfl, Below.refl _ _, fun j hj => absurd hj (by omega)⟩
      case round =>
        obtain ⟨j, hj, rfl, hbq, hfit⟩ := hrel
        have HFit : Hid (∀ l, l < j → mk (blp (f l)) = g l) := hfit
        clear hfit
        by_cases hlt : j < k
        · have hlt' : (j : Int) < (k : Int) := by omega
          obtain ⟨b, off, rfl, hcB⟩ := HP.out.2 j hlt
          obtain ⟨b', off', rfl, hcH⟩ := HP.out.1 j hlt
          have hcB := (hbq.cell (cell_lt' hcB)).trans hcB
          have hcH := (hbq.cell (cell_lt' hcH)).trans hcH
          have hz := HAll.out j hlt
          have hh := fun w => rhash (f j) (by omega) w
          by_cases hb : mk (blp (f j)) = g j
          · rw [hb] at hh
            have HH : Hid (∀ w, Calls Try.prog 35 #[.string (f j)] w fun e w' => e = .returned (.int .u64 (g j : Int)) ∧ w' = w) := hh
            clear hh
            go_wp2_with fail
            go_quiet ((go_at_call 35; exact Calls.quiet_of_same (HH.out _)))
            go_wp2
            go_roundw
            case rel =>
              refine ⟨j + 1, by omega, by go_num, bdrewN hbq _, fun l hl => ?_⟩
              rcases Nat.lt_or_ge l j with h | h
              · exact HFit.out l h
              · obtain rfl : l = j := by omega
                exact hb
            case measure => simp [intOf]; omega
          · have HH : Hid (∀ w, Calls Try.prog 35 #[.string (f j)] w fun e w' => e = .returned (.int .u64 (mk (blp (f j)) : Int)) ∧ w' = w) := hh
            have HR : Hid (fitE k k g f = 1) := by show _ = _; rw [HV.out, any_prs_true (p := unfit) hlt (by simp [unfit, hb])]; rfl
            have hb' : ((g j : Int) != (mk (blp (f j)) : Int)) = true := by rw [bne_iff_ne]; omega
            clear hh
            generalize mk (blp (f j)) = m at *
            go_wp2_with fail
            go_quiet ((go_at_call 35; exact Calls.quiet_of_same (HH.out _)))
            go_wp2
            go_ret
            exact ⟨by rw [HR.out]; rfl, bdrewN hbq _⟩
        · have hlt' : ¬ (j : Int) < (k : Int) := by omega
          have HR : Hid (fitE k k g f = 0) := by show _ = _; rw [HV.out, any_prs_false (p := unfit) fun l hl => by simp [unfit]; exact HFit.out l (by omega)]; rfl
          go_wp2
          go_ret
          exact ⟨by rw [HR.out]; rfl, hbq⟩
end Go.Proofs.Ytapjonmgjccpbaa
end
section
set_option linter.unusedSimpArgs false
set_option linter.unusedVariables false
namespace Go.Proofs.Ytapjonmgjccpbaa
open Go.RowKit

/-! tarnref7.Tx: whether a transaction may be. -/
def fitT (t : TX) : Int := fitE t.hs.length t.bs.length (fun i => t.hs.getD i 0) (fun i => t.bs.getD i ByteArray.empty)
def inN (n m : Int) : Prop := 0 ≤ n ∧ n ≤ m
instance (n m : Int) : Decidable (inN n m) := by unfold inN; infer_instance
/-- It may be. -/
def TxOk (t : TX) : Prop := inN t.fr 7 ∧ inN t.no 1099511627776 ∧ inN t.ga 1073741824 ∧ t.ti ≤ t.ca ∧ fitT t = 0 ∧ costN t < M256
instance (t : TX) : Decidable (TxOk t) := by unfold TxOk; infer_instance
theorem rnum (n m : Int) (w : World) : Calls Try.prog 46 #[.int .i64 n, .int .i64 m] w fun e w' => e = .returned (.bool (decide (inN n m))) ∧ w' = w := by
  by_cases h1 : 0 ≤ n
  · by_cases h2 : n ≤ m
    · have HC : Hid (decide (inN n m) = true) := decide_eq_true ⟨h1, h2⟩
      go_enter Try.func46, Try.ntmps46
      go_wp2
      go_ret
      exact ⟨by rw [HC.out]; rfl, rfl⟩
    · have HC : Hid (decide (inN n m) = false) := decide_eq_false fun h => h2 h.2
      go_enter Try.func46, Try.ntmps46
      go_wp2
      go_ret
      exact ⟨by rw [HC.out]; rfl, rfl⟩
  · have HC : Hid (decide (inN n m) = false) := decide_eq_false fun h => h1 h.1
    go_enter Try.func46, Try.ntmps46
    go_wp2
    go_ret
    exact ⟨by rw [HC.out]; rfl, rfl⟩
/-- Whatever hashes and blobs (as Ask6's, by the page's alone). -/
theorem rfits_t (t : TX) (aH aB : Option Addr) (cH cB : Nat) (w : World) (h : RT w t (.slice aH t.hs.length cH) (.slice aB t.bs.length cB)) :
    Calls Try.prog 47 #[.slice aH t.hs.length cH, .slice aB t.bs.length cB] w fun e w' => e = .returned (.int .i64 (fitT t)) ∧ Below w.heap.size w w' := by
  obtain ⟨⟨l1, _, a1, c1, e1, h1⟩, ⟨l2, _, a2, c2, e2, h2⟩⟩ := h
  unfold maxLen at l1 l2
  simp at e1 e2
  obtain ⟨rfl, rfl⟩ := e1
  obtain ⟨rfl, rfl⟩ := e2
  unfold fitT
  by_cases h : cnts t.bs.length = true ∧ t.hs.length = t.bs.length
  · have := rfits_go t.bs.length aH aB cH cB _ _ w h.1 (fun i hi => h1 i (by omega)) h2
    rw [h.2]
    exact this
  · exact (rfits_no t.hs.length t.bs.length aH aB cH cB _ _ w h (by omega) (by omega)).mono fun e w' h => ⟨h.1, by rw [h.2]; exact Below.refl _ _⟩
set_option maxRecDepth 100000 in
set_option maxHeartbeats 4000000 in
theorem rtx (t : TX) (aH aB : Option Addr) (cH cB : Nat) (w : World) (hw : TXw t) (hr : RT w t (.slice aH t.hs.length cH) (.slice aB t.bs.length cB)) :
    Calls Try.prog 18 #[.agg (txc t (.slice aH t.hs.length cH) (.slice aB t.bs.length cB))] w fun e w' => e = .returned (.bool (decide (TxOk t))) ∧ Below w.heap.size w w' := by
  have HW : Hid (TXw t) := hw
  have HN1 : Hid (∀ w, Calls Try.prog 46 #[.int .i64 t.fr, .int .i64 7] w fun e w' => e = .returned (.bool (decide (inN t.fr 7))) ∧ w' = w) := fun w => rnum _ _ w
  have HN2 : Hid (∀ w, Calls Try.prog 46 #[.int .i64 t.no, .int .i64 1099511627776] w fun e w' => e = .returned (.bool (decide (inN t.no 1099511627776))) ∧ w' = w) := fun w => rnum _ _ w
  have HN3 : Hid (∀ w, Calls Try.prog 46 #[.int .i64 t.ga, .int .i64 1073741824] w fun e w' => e = .returned (.bool (decide (inN t.ga 1073741824))) ∧ w' = w) := fun w => rnum _ _ w
  have HC : Hid (∀ w, Calls Try.prog 21 #[V t.ti, V t.ca] w fun e w' => e = .returned (.int .i64 (cmpV t.ti t.ca)) ∧ Below w.heap.size w w') := fun w => rcmp _ _ hw.ti hw.ca w
  have HF : Hid (∀ W, Below w.heap.size w W → Calls Try.prog 47 #[.slice aH t.hs.length cH, .slice aB t.bs.length cB] W fun e w' => e = .returned (.int .i64 (fitT t)) ∧ Below W.heap.size W w') := fun W h => rfits_t t aH aB cH cB W (hr.below h)
  obtain ⟨wr, hwr⟩ : ∃ wr, wr = w.alloc (.cells (txc t (.slice aH t.hs.length cH) (.slice aB t.bs.length cB)) 30) := ⟨_, rfl⟩
  clear hw hr
  go_enter Try.func18, Try.ntmps18
  go_upto_region 1 with fail
  rw [← hwr]
  have bX : Bk wr w.heap.size (txc t (.slice aH t.hs.length cH) (.slice aB t.bs.length cB)) 30 := by rw [hwr]; exact Bk.new _ _ _
  have HB : Hid (Below w.heap.size w wr) := by show Below _ _ _; rw [hwr]; exact (Below.refl _ _).alloc (Nat.le_refl _) _
  clear hwr
  obtain ⟨X, hX⟩ : ∃ X, X = w.heap.size := ⟨_, rfl⟩
  rw [← hX] at bX ⊢
  clear hX
  have lX := bX.lt
  have x0 := bX.cell 0
  have x1 := bX.cell 1
  have x2 := bX.cell 2
  have x3 := bX.cell 3
  have x4 := bX.cell 4
  have x5 := bX.cell 5
  have x6 := bX.cell 6
  have x7 := bX.cell 7
  have x8 := bX.cell 8
  have x9 := bX.cell 9
  have x18 := bX.cell 18
  have x19 := bX.cell 19
  have x20 := bX.cell 20
  simp only [List.getElem?_toArray, List.getElem?_cons_zero, List.getElem?_cons_succ] at x0 x1 x2 x3 x4 x5 x6 x7 x8 x9 x18 x19 x20
  have HX : Hid (Bk wr X (txc t (.slice aH t.hs.length cH) (.slice aB t.bs.length cB)) 30) := bX
  clear bX
  by_cases h1 : inN t.fr 7
  · rw [decide_eq_true h1] at HN1
    by_cases h2 : inN t.no 1099511627776
    · rw [decide_eq_true h2] at HN2
      by_cases h3 : inN t.ga 1073741824
      · rw [decide_eq_true h3] at HN3
        go_wp2_with (go_at_call 46; (first | with_reducible refine (HN1.out _).mono ?_ | with_reducible refine (HN2.out _).mono ?_ | with_reducible refine (HN3.out _).mono ?_); rintro e w1 ⟨rfl, rfl⟩)
        refine (HC.out _).mono ?_
        rintro e w2 ⟨rfl, hb2⟩
        have bX2 := HX.out.below hb2 lX
        replace HB : Hid (Below w.heap.size w w2) := HB.out.trans (hb2.mono HB.out.size)
        have lX2 := bX2.lt
        replace HX : Hid (Bk w2 X (txc t (.slice aH t.hs.length cH) (.slice aB t.bs.length cB)) 30) := bX2
        clear x0 x1 x2 x3 x4 x5 x6 x7 x8 x9 x18 x19 x20
        have x19 := bX2.cell 19
        have x20 := bX2.cell 20
        simp only [List.getElem?_toArray, List.getElem?_cons_zero, List.getElem?_cons_succ] at x19 x20
        clear bX2 hb2
        by_cases h4 : t.ti ≤ t.ca
        · have hc : ¬ 0 < cmpV t.ti t.ca := by unfold cmpV; split <;> (try split) <;> omega
          generalize cmpV t.ti t.ca = cv at *
          go_wp2_with fail
          refine (HF.out _ HB.out).mono ?_
          rintro e w3 ⟨rfl, hb3⟩
          have bX3 := HX.out.below hb3 lX2
          replace HB : Hid (Below w.heap.size w w3) := HB.out.trans (hb3.mono HB.out.size)
          have lX3 := bX3.lt
          clear x19 x20
          by_cases h5 : fitT t = 0
          · have hfe : ((fitT t) != 0) = false := by rw [h5]; rfl
            have hn4 : t.bs.length ≤ 4 := by
              unfold fitT fitE at h5
              split at h5
              · next h => have : (1 : Int) ≤ t.bs.length ∧ (t.bs.length : Int) ≤ 4 := by simpa [cnts] using h.1
                          omega
              · omega
            obtain ⟨g, hg⟩ : ∃ g : Nat, t.ga = (g : Int) := ⟨t.ga.toNat, by have := h3.1; omega⟩
            have HCo : Hid (∀ w, Calls Try.prog 48 #[.agg (txc t (.slice aH t.hs.length cH) (.slice aB t.bs.length cB))] w fun e w' => e = .returned (.tuple #[V (costV t), .bool (decide (costN t < M256))]) ∧ Below w.heap.size w w') := fun w => rcost t _ aB cB w HW.out g hg (by omega)
            have HE : Hid (decide (TxOk t) = decide (costN t < M256)) := by
              show _ = _
              by_cases h6 : costN t < M256
              · rw [decide_eq_true h6, decide_eq_true (show TxOk t from ⟨h1, h2, h3, h4, h5, h6⟩)]
              · rw [decide_eq_false h6, decide_eq_false (show ¬ TxOk t from fun h => h6 h.2.2.2.2.2)]
            generalize fitT t = fe at *
            have HX3 : Hid (Bk w3 X (txc t (.slice aH t.hs.length cH) (.slice aB t.bs.length cB)) 30) := bX3
            clear bX3 hg
            generalize decide (costN t < M256) = ok at *
            generalize costV t = cv2 at *
            go_wp2_with (refine wpList_load_tx rfl _ rfl rfl HX3.out ?_)
            refine (HCo.out _).mono ?_
            rintro e w4 ⟨rfl, hb4⟩
            go_wp2_with fail
            go_ret
            exact ⟨by rw [HE.out]; rfl, (HB.out.trans (hb4.mono HB.out.size)).alloc (by have := HB.out.size; have := hb4.size; omega) _⟩
          · have hfe : ((fitT t) != 0) = true := by rw [bne_iff_ne]; exact h5
            have HN : Hid (decide (TxOk t) = false) := decide_eq_false fun h => h5 h.2.2.2.2.1
            generalize fitT t = fe at *
            go_wp2_with fail
            go_ret
            exact ⟨by rw [HN.out]; rfl, HB.out⟩
        · have hc : 0 < cmpV t.ti t.ca := by unfold cmpV; rw [if_neg (by omega), if_neg (by omega)]; omega
          have HN : Hid (decide (TxOk t) = false) := decide_eq_false fun h => h4 h.2.2.2.1
          generalize cmpV t.ti t.ca = cv at *
          go_wp2_with fail
          go_ret
          exact ⟨by rw [HN.out]; rfl, HB.out⟩
      · rw [decide_eq_false h3] at HN3
        have HN : Hid (decide (TxOk t) = false) := decide_eq_false fun h => h3 h.2.2.1
        go_wp2_with (go_at_call 46; (first | with_reducible refine (HN1.out _).mono ?_ | with_reducible refine (HN2.out _).mono ?_ | with_reducible refine (HN3.out _).mono ?_); rintro e w1 ⟨rfl, rfl⟩)
        go_ret
        exact ⟨by rw [HN.out]; rfl, HB.out⟩
    · rw [decide_eq_false h2] at HN2
      have HN : Hid (decide (TxOk t) = false) := decide_eq_false fun h => h2 h.2.1
      go_wp2_with (go_at_call 46; (first | with_reducible refine (HN1.out _).mono ?_ | with_reducible refine (HN2.out _).mono ?_ | with_reducible refine (HN3.out _).mono ?_); rintro e w1 ⟨rfl, rfl⟩)
      go_ret
      exact ⟨by rw [HN.out]; rfl, HB.out⟩
  · rw [decide_eq_false h1] at HN1
    have HN : Hid (decide (TxOk t) = false) := decide_eq_false fun h => h1 h.1
    go_wp2_with (go_at_call 46; (first | with_reducible refine (HN1.out _).mono ?_ | with_reducible refine (HN2.out _).mono ?_ | with_reducible refine (HN3.out _).mono ?_); rintro e w1 ⟨rfl, rfl⟩)
    go_ret
    exact ⟨by rw [HN.out]; rfl, HB.out⟩
end Go.Proofs.Ytapjonmgjccpbaa
end

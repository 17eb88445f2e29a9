import Derived.Test.YtnhmhedabdmnbaaMk
set_option linter.unusedSimpArgs false
set_option linter.unusedVariables false
namespace Go.Proofs.Ytnhmhedabdmnbaa
open Go.RowKit Go.Shelf
attribute [local go_sem] Oper.semAt_some

theorem each_any (s : ByteArray) (w : World) : Calls Try.prog 19 #[.string s] w fun e w' => e = .returned (.func (.func 21) #[] #[.pointer (some ⟨w.heap.size, 0, none⟩)]) ∧ w' = w.alloc (.cells #[.string s] 9) := by
  go_enter Try.func19, Try.ntmps19
  go_wp2
  go_ret
  exact ⟨rfl, rfl⟩
structure MI (w W : World) (pre : List (Nat × UInt8)) : Prop where
  bM : Bk W w.heap.size #[.int .u64 (mkf pre : Int)] 27
  hB : Below w.heap.size w W
theorem MI.below {w A B : World} {k : Nat} {pre : List (Nat × UInt8)} (h : MI w A pre) (hb : Below k A B) (hk : w.heap.size < k) : MI w B pre :=
  ⟨h.bM.below hb (by omega), h.hB.trans (hb.mono (by omega))⟩
set_option maxRecDepth 100000 in
set_option maxHeartbeats 2000000 in
theorem mark (s : ByteArray) (hs : s.size ≤ 4611686018427387904) (w : World) :
    Calls Try.prog 15 #[.string s] w fun e w' => e = .returned (.int .u64 (mk s : Int)) ∧ Below w.heap.size w w' := by
  have Hs : Hid (s.size ≤ 4611686018427387904) := hs
  clear hs
  refine (callsIn_wide (n := 6)).1 ?_
  refine callsIn_of_wp_marks Try.func15 rfl trivial ?_ rfl
  simp only [Try.ntmps15, List.size_toArray, List.length_cons, List.length_nil, Nat.reduceAdd, Nat.reduceSub, Array.replicate_succ, Array.replicate_zero, List.push_toArray, List.append_toArray, List.nil_append, List.cons_append]
  gi_wp2_with (refine ⟨trivial, ?_⟩; gi_at_call 19; refine (callsIn_wide.2 (each_any s _)).mono ?_; rintro e w' ⟨rfl, rfl⟩)
  have bA : Bk ((w.alloc (.cells #[.int .u64 14695981039346656037] 27)).alloc (.cells #[.string s] 9)) (w.heap.size + 1) #[.string s] 9 := Bk.new' _ _ _ (by simp)
  have h0 : MI w ((w.alloc (.cells #[.int .u64 14695981039346656037] 27)).alloc (.cells #[.string s] 9)) [] := ⟨by rw [mkf_nil]; exact (Bk.new' _ _ _ (by simp)).alloc _, ((Below.refl _ w).alloc (Nat.le_refl _) _).alloc (by simp) _⟩
  have hz9 : ((w.alloc (.cells #[.int .u64 14695981039346656037] 27)).alloc (.cells #[.string s] 9)).heap.size = w.heap.size + 2 := by simp
  generalize ((w.alloc (.cells #[.int .u64 14695981039346656037] 27)).alloc (.cells #[.string s] 9)) = w9 at bA h0 hz9 ⊢
  refine wpIn_rangeB rfl (by omega) (gf := 21) (lb := #[.pointer (some ⟨w.heap.size + 1, 0, none⟩)]) rfl trivial (enters_of Try.func21 rfl rfl)
    (each_seq _ s (w.heap.size + 1) w.heap.size w.heap.size (by omega) Hs.out w9 bA ⟨by omega, by omega⟩) KpX.trans (fun W l o o' _ h hc => kpx_put W l o o' h hc) (Below.refl _ _) (fun _ => rfl)
    (fun pre W => MI w W pre) (fun c pre W => False) (fun s A B h hb => h.below hb (by omega)) (fun c s A B h hb => h) h0
    (fun x a' W => a' = { tmps := #[.string s, undef, .int .u64 0, .pointer (some ⟨w.heap.size, 0, none⟩), undef, .int .u8 (x.2.toNat : Int), .string s, .func (.func 21) #[] #[.pointer (some ⟨w.heap.size + 1, 0, none⟩)], .int .i64 ((x.1 % 4611686018427387904 : Nat) : Int), .int .u8 (x.2.toNat : Int), undef, undef, undef, undef, undef, undef], defers := [] })
    (fun x a' A l o o' _ h hc hx => hx) ?assign ?body ?done ?stop
  case assign =>
    intro l pre x W K hi hK
    simp only [eenc]
    gi_wp2
    exact hK _ _ (KeepsFrom.refl _ _) (fun b vs t _ _ hb => hb) hi rfl
  case body =>
    rintro l pre x a' W hi rfl
    have bM := hi.bM
    have lM := bM.lt
    have s0 := bM.cell 0
    have sf0 := bM.frozen 0
    simp only [List.getElem?_toArray, List.getElem?_cons_zero] at s0
    have hv := mstep_val (mkf pre) x.2.toNat (mkf_lt pre) (byte_lt _)
    have HB : Hid (Below w.heap.size w W) := hi.hB
    have HS : Hid (mkf (pre ++ [x]) = mstep (mkf pre) x.2.toNat) := mkf_snoc pre x
    have hb8 := byte_lt x.2
    generalize mkf pre = m at *
    have HM : Hid (Bk W w.heap.size #[.int .u64 (m : Int)] 27) := bM
    clear hi bM
    gi_wp2
    exact ⟨(KeepsOthers.setCell _ _ _).from _, fun b' vs t h1 h2 hb => hb.other (by simpa using h1) _, by rw [HS.out]; exact HM.out.set 0 _ rfl, HB.out.setCell (p := ⟨w.heap.size, 0, none⟩) (by simp) _⟩
  case done =>
    rintro D xs W hD rfl hi hK
    have s0 := hi.bM.cell 0
    simp only [List.getElem?_toArray, List.getElem?_cons_zero] at s0
    gi_wp2
    refine ⟨by simp, .inl ⟨_, _, rfl, run_takeDeferred hK, ?_⟩⟩
    refine ⟨.int .u64 (mk s : Int), ?_, rfl, hi.hB.trans (below_put _ _ (by omega))⟩
    simp [results, Try.f15, go_sem, mk]
  case stop =>
    rintro D c pre W hD ⟨k, hk, rfl⟩ hf hK
    exact hf.elim
end Go.Proofs.Ytnhmhedabdmnbaa

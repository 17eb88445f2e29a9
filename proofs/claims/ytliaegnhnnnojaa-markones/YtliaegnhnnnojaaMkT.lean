import Derived.Test.YtliaegnhnnnojaaMkM
import Derived.Laws.Bits64b
set_option linter.unusedSimpArgs false
set_option linter.unusedVariables false
namespace Go.Proofs.Ytliaegnhnnnojaa
open Go.RowKit Go.Shelf
attribute [local go_sem] Oper.semAt_some

/-! mark.Take. -/
def tstp (s : Nat × Nat) (x : Nat × UInt8) : Nat × Nat := if 8 < x.1 % 4611686018427387904 + 1 then (s.1, x.1 % 4611686018427387904 + 1) else (s.1 % 72057594037927936 * 256 + x.2.toNat, x.1 % 4611686018427387904 + 1)
def tst (l : List (Nat × UInt8)) : Nat × Nat := l.foldl tstp (0, 0)
theorem tst_snoc (l : List (Nat × UInt8)) (x : Nat × UInt8) : tst (l ++ [x]) = tstp (tst l) x := by unfold tst; rw [List.foldl_append, List.foldl_cons, List.foldl_nil]
theorem tst_lt (l : List (Nat × UInt8)) : (tst l).1 < 18446744073709551616 := by
  have : ∀ (l : List (Nat × UInt8)) (s : Nat × Nat), s.1 < 18446744073709551616 → (l.foldl tstp s).1 < 18446744073709551616 := by
    intro l
    induction l with
    | nil => intro s h; exact h
    | cons x l ih =>
      intro s h
      rw [List.foldl_cons]
      refine ih _ ?_
      unfold tstp
      have := byte_lt x.2
      split
      · exact h
      · show s.1 % 72057594037927936 * 256 + x.2.toNat < _
        omega
  exact this l (0, 0) (by show 0 < _; omega)
theorem tst_n (s : ByteArray) (k : Nat) (h : k ≤ 4611686018427387904) : (tst (ees s k)).2 = k := by
  cases k with
  | zero => rfl
  | succ j =>
    rw [ees_succ, tst_snoc]
    have e : j % 4611686018427387904 = j := Nat.mod_eq_of_lt (by omega)
    unfold tstp
    simp only [e]
    split <;> rfl
theorem tst_m (s : ByteArray) (k : Nat) (h : k ≤ 8) (hs : k ≤ s.size) : (tst (ees s k)).1 = takeV (s.data.toList.take k) := by
  induction k with
  | zero => rw [List.take_zero]; rfl
  | succ j ih =>
    have ih := ih (by omega) (by omega)
    have hl : j < s.data.toList.length := by rw [data_len]; omega
    rw [ees_succ, tst_snoc, List.take_succ_eq_append_getElem hl, takeV_snoc]
    have e : j % 4611686018427387904 = j := Nat.mod_eq_of_lt (by omega)
    have hb : byt s j = s.data.toList[j] := by
      unfold byt
      rw [List.getD_eq_getElem?_getD, List.getElem?_eq_getElem hl]
      rfl
    have hlt := takeV_lt (s.data.toList.take j)
    rw [List.length_take, Nat.min_eq_left (by omega)] at hlt
    have h56 : takeV (s.data.toList.take j) < 72057594037927936 := by
      have : (2 : Nat) ^ (8 * j) ≤ 2 ^ 56 := Nat.pow_le_pow_right (by omega) (by omega)
      omega
    unfold tstp
    simp only [e]
    rw [if_neg (by omega), ih, hb, Nat.mod_eq_of_lt h56]
theorem sh_or (m b : Nat) (hm : m < 18446744073709551616) (hb : b < 256) : Go.bits BinOp.or IntKind.u64 (IntKind.u64.wrap ((m : Int) * 256)) (b : Int) = ((m % 72057594037927936 * 256 + b : Nat) : Int) := by
  have e : IntKind.u64.wrap ((m : Int) * 256) = ((m % 72057594037927936 * 256 : Nat) : Int) := by rw [IntKind.wrap_u64]; omega
  rw [e, bits_or_u64_nat _ _ (by omega) (by omega)]
  congr 1
  have := Nat.shiftLeft_add_eq_or_of_lt (i := 8) (show b < 2 ^ 8 by omega) (m % 72057594037927936)
  rw [Nat.shiftLeft_eq] at this
  exact this.symm
def mtV (s : ByteArray) : Nat := if s.size = 8 then takeV s.data.toList else 0
structure TI (w W : World) (pre : List (Nat × UInt8)) : Prop where
  bM : Bk W w.heap.size #[.int .u64 ((tst pre).1 : Int)] 48
  bN : Bk W (w.heap.size + 1) #[.int .i64 ((tst pre).2 : Int)] 3
  hB : Below w.heap.size w W
theorem TI.below {w A B : World} {k : Nat} {pre : List (Nat × UInt8)} (h : TI w A pre) (hb : Below k A B) (hk : w.heap.size + 1 < k) : TI w B pre :=
  ⟨h.bM.below hb (by omega), h.bN.below hb (by omega), h.hB.trans (hb.mono (by omega))⟩
set_option maxRecDepth 100000 in
set_option maxHeartbeats 2000000 in
theorem mtake (s : ByteArray) (hs : s.size ≤ 4611686018427387904) (w : World) :
    Calls Try.prog 24 #[.string s] w fun e w' => e = .returned (.tuple #[.int .u64 (mtV s : Int), .bool (s.size == 8)]) ∧ Below w.heap.size w w' := by
  have Hs : Hid (s.size ≤ 4611686018427387904) := hs
  clear hs
  refine (callsIn_wide (n := 6)).1 ?_
  refine callsIn_of_wp_marks Try.func24 rfl trivial ?_ rfl
  simp only [Try.ntmps24, List.size_toArray, List.length_cons, List.length_nil, Nat.reduceAdd, Nat.reduceSub, Array.replicate_succ, Array.replicate_zero, List.push_toArray, List.append_toArray, List.nil_append, List.cons_append]
  gi_wp2
  refine wpIn_wide.2 (wp_scope_straight ((wpIn_wide (n := 6)).1 ?_))
  gi_wp2
  refine wpIn_label ?_
  gi_wp2_with (refine ⟨trivial, ?_⟩; gi_at_call 39; refine (callsIn_wide.2 (each_any s _)).mono ?_; rintro e w' ⟨rfl, rfl⟩)
  have bA : Bk (((w.alloc (.cells #[.int .u64 0] 48)).alloc (.cells #[.int .i64 0] 3)).alloc (.cells #[.string s] 9)) (w.heap.size + 1 + 1) #[.string s] 9 := Bk.new' _ _ _ (by simp)
  have h0 : TI w (((w.alloc (.cells #[.int .u64 0] 48)).alloc (.cells #[.int .i64 0] 3)).alloc (.cells #[.string s] 9)) [] := ⟨((Bk.new' _ _ _ (by simp)).alloc _).alloc _, (Bk.new' _ _ _ (by simp)).alloc _, (((Below.refl _ w).alloc (Nat.le_refl _) _).alloc (by simp) _).alloc (by simp; omega) _⟩
  have hz9 : (((w.alloc (.cells #[.int .u64 0] 48)).alloc (.cells #[.int .i64 0] 3)).alloc (.cells #[.string s] 9)).heap.size = w.heap.size + 3 := by simp
  generalize (((w.alloc (.cells #[.int .u64 0] 48)).alloc (.cells #[.int .i64 0] 3)).alloc (.cells #[.string s] 9)) = w9 at bA h0 hz9 ⊢
  refine wpIn_rangeB rfl (by omega) (gf := 51) (lb := #[.pointer (some ⟨w.heap.size + 1 + 1, 0, none⟩)]) rfl trivial (enters_of Try.func51 rfl rfl)
    (each_seq _ s (w.heap.size + 1 + 1) w.heap.size (w.heap.size + 1) (by omega) Hs.out w9 bA ⟨by omega, by omega⟩) KpX.trans (fun W l o o' _ h hc => kpx_put W l o o' h hc) (Below.refl _ _) (fun _ => rfl)
    (fun pre W => TI w W pre ∧ (tst pre).2 ≤ 8) (fun c pre W => c = .exit 0 ∧ TI w W pre ∧ 8 < (tst pre).2) (fun s A B h hb => ⟨h.1.below hb (by omega), h.2⟩) (fun c s A B h hb => ⟨h.1, h.2.1.below hb (by omega), h.2.2⟩) ⟨h0, by show (0 : Nat) ≤ 8; omega⟩
    (fun x a' W => a' = { tmps := #[.string s, undef, .int .u64 0, .bool false, .pointer (some ⟨w.heap.size, 0, none⟩), .pointer (some ⟨w.heap.size + 1, 0, none⟩), .int .i64 ((x.1 % 4611686018427387904 : Nat) : Int), .int .u8 (x.2.toNat : Int), .string s, .func (.func 51) #[] #[.pointer (some ⟨w.heap.size + 1 + 1, 0, none⟩)], .int .i64 ((x.1 % 4611686018427387904 : Nat) : Int), .int .u8 (x.2.toNat : Int), undef, undef, undef, undef, undef, undef, undef, undef, undef, undef, undef, undef, undef], defers := [] })
    (fun x a' A l o o' _ h hc hx => hx) ?assign ?body ?done ?stop
  case assign =>
    intro l pre x W K hi hK
    simp only [eenc]
    gi_wp2
    exact hK _ _ (KeepsFrom.refl _ _) (fun b vs t _ _ hb => hb) hi rfl
  case body =>
    rintro l pre x a' W hi rfl
    have bM := hi.1.bM
    have bN := hi.1.bN
    have lM := bM.lt
    have lN := bN.lt
    have s0 := bM.cell 0
    have sf0 := bM.frozen 0
    have n0 := bN.cell 0
    have nf0 := bN.frozen 0
    simp only [List.getElem?_toArray, List.getElem?_cons_zero] at s0 n0
    have hv := sh_or (tst pre).1 x.2.toNat (tst_lt pre) (byte_lt _)
    have HB : Hid (Below w.heap.size w W) := hi.1.hB
    have HS : Hid (tst (pre ++ [x]) = if 8 < x.1 % 4611686018427387904 + 1 then ((tst pre).1, x.1 % 4611686018427387904 + 1) else ((tst pre).1 % 72057594037927936 * 256 + x.2.toNat, x.1 % 4611686018427387904 + 1)) := tst_snoc pre x
    have hb8 := byte_lt x.2
    have HM : Hid (Bk W w.heap.size #[.int .u64 ((tst pre).1 : Int)] 48) := bM
    have HN : Hid (Bk W (w.heap.size + 1) #[.int .i64 ((tst pre).2 : Int)] 3) := bN
    generalize (tst pre).1 = m at *
    generalize (tst pre).2 = n at *
    have hj : x.1 % 4611686018427387904 < 4611686018427387904 := Nat.mod_lt _ (by omega)
    generalize x.1 % 4611686018427387904 = j at *
    clear hi bM bN
    by_cases h8 : 8 < j + 1
    · have h8' : 8 < (j : Int) + 1 := by omega
      rw [if_pos h8] at HS
      gi_wp2
      refine ⟨(KeepsOthers.setCell _ _ _).from _, rfl, ⟨?_, ?_, HB.out.setCell (p := ⟨w.heap.size + 1, 0, none⟩) (by simp) _⟩, by rw [HS.out]; exact h8⟩
      · rw [HS.out]; exact HM.out.other (by simp) _
      · rw [HS.out]; exact HN.out.set 0 _ rfl
    · have h8' : ¬ 8 < (j : Int) + 1 := by omega
      rw [if_neg h8] at HS
      gi_wp2
      have e : ((m % 72057594037927936 * 256 + x.2.toNat : Nat) : Int) = (m : Int) % 72057594037927936 * 256 + x.2.toNat := by omega
      refine ⟨((KeepsOthers.setCell _ _ _).from _).trans ((KeepsOthers.setCell _ _ _).from _), fun b' vs t h1 h2 hb => (hb.other (by simpa using h2) _).other (by simpa using h1) _, ⟨?_, ?_, (HB.out.setCell (p := ⟨w.heap.size + 1, 0, none⟩) (by simp) _).setCell (p := ⟨w.heap.size, 0, none⟩) (by simp) _⟩, by rw [HS.out]; show j + 1 ≤ 8; omega⟩
      · rw [HS.out]; show Bk _ _ #[.int .u64 ((m % 72057594037927936 * 256 + x.2.toNat : Nat) : Int)] _; rw [e]; exact (HM.out.other (by simp) _).set 0 _ rfl
      · rw [HS.out]; exact (HN.out.set 0 _ rfl).other (by simp) _
  case done =>
    rintro D xs W hD rfl hi hK
    have s0 := hi.1.bM.cell 0
    have n0 := hi.1.bN.cell 0
    simp only [List.getElem?_toArray, List.getElem?_cons_zero] at s0 n0
    have hn := tst_n s s.size Hs.out
    have h8 := hi.2
    rw [hn] at n0 h8
    by_cases he : s.size = 8
    · have hV : (tst (ees s s.size)).1 = mtV s := by rw [tst_m s s.size h8 (Nat.le_refl _), mtV, if_pos he, ← data_len, List.take_length]
      rw [hV] at s0
      have he' : (s.size : Int) = 8 := by omega
      rw [he'] at n0
      gi_wp2
      simp only [Exit.noGoto]
      refine ⟨by simp, .inl ⟨_, _, rfl, run_takeDeferred hK, ?_⟩⟩
      refine ⟨.tuple #[.int .u64 (mtV s : Int), .bool true], ?_, by rw [he]; rfl, hi.1.hB.trans (below_put _ _ (by omega))⟩
      simp [results, Try.f24, go_sem]
    · have he' : ((s.size : Int) != 8) = true := by rw [bne_iff_ne]; omega
      gi_wp2
      simp only [Exit.noGoto]
      refine ⟨by simp, .inl ⟨_, _, rfl, run_takeDeferred hK, ?_⟩⟩
      refine ⟨.tuple #[.int .u64 0, .bool false], ?_, by rw [mtV, if_neg he, beq_eq_false_iff_ne.2 he]; rfl, hi.1.hB.trans (below_put _ _ (by omega))⟩
      simp [results, Try.f24, go_sem]
  case stop =>
    rintro D c pre W hD ⟨k, hk, rfl⟩ ⟨rfl, hi, hz⟩ hK
    have hn := tst_n s (k + 1) (by have := Hs.out; omega)
    have n0 := hi.bN.cell 0
    simp only [List.getElem?_toArray, List.getElem?_cons_zero] at n0
    rw [hn] at n0 hz
    have he' : ((((k + 1 : Nat)) : Int) != 8) = true := by rw [bne_iff_ne]; omega
    have he : ¬ s.size = 8 := by omega
    gi_wp2
    simp only [Exit.noGoto]
    refine ⟨by simp, .inl ⟨_, _, rfl, run_takeDeferred hK, ?_⟩⟩
    refine ⟨.tuple #[.int .u64 0, .bool false], ?_, by rw [mtV, if_neg he, beq_eq_false_iff_ne.2 he]; rfl, hi.hB.trans (below_put _ _ (by omega))⟩
    simp [results, Try.f24, go_sem]
end Go.Proofs.Ytliaegnhnnnojaa

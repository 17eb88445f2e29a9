/- Texts joined: Cst Tk7 RTxM RtM RtC. -/
import Derived.Test.YtapjonmgjccpbaaJ11
import Derived.Test.YtapjonmgjccpbaaJ15
import Derived.Test.YtapjonmgjccpbaaRd7
import Derived.Test.YtapjonmgjccpbaaJ10
import Derived.Test.YtapjonmgjccpbaaJ2
import Derived.Test.YtapjonmgjccpbaaJ12
import Derived.Test.YtapjonmgjccpbaaJ7
section
set_option linter.unusedSimpArgs false
set_option linter.unusedVariables false
namespace Go.Proofs.Ytapjonmgjccpbaa
open Go.RowKit Go.Shelf
attribute [local go_sem] Oper.semAt_some

/-! tx.Cost. -/
/-- What it costs, as far as it may be. -/
def cosV (t : TX) : Nat := if TxOk t then costN t else 0
def cosE (t : TX) : Int := if TxOk t then 0 else 1
theorem V_mod (n : Nat) : V (n % M256) = V n := by
  have h : ∀ i, i < 4 → lb (n % M256) i = lb n i := fun i hi => by
    have : i = 0 ∨ i = 1 ∨ i = 2 ∨ i = 3 := by omega
    rcases this with rfl | rfl | rfl | rfl <;> (unfold lb M256; simp only [Nat.reduceMul, Nat.reducePow]; omega)
  show Value.agg _ = Value.agg _
  rw [h 0 (by omega), h 1 (by omega), h 2 (by omega), h 3 (by omega)]
/-- The sum of the shares. -/
def sms (l : List (Nat × Nat)) : Nat := (l.map fun x => (x.1 % M256) * (x.2 % M256)).sum
theorem sms_snoc (l : List (Nat × Nat)) (x : Nat × Nat) : sms (l ++ [x]) = sms l + (x.1 % M256) * (x.2 % M256) := by simp [sms]
theorem sms_all (t : TX) (g : Nat) (hw : TXw t) (hg : t.ga = (g : Int)) (hg2 : g ≤ 1073741824) (hn : t.bs.length ≤ 4) : sms (shL t g) = costN t := by
  have e1 : t.ca % M256 = t.ca := Nat.mod_eq_of_lt hw.ca
  have e2 : t.bc % M256 = t.bc := Nat.mod_eq_of_lt hw.bc
  have e3 : t.va % M256 = t.va := Nat.mod_eq_of_lt hw.va
  have e4 : g % M256 = g := Nat.mod_eq_of_lt (by unfold M256; omega)
  have e5 : (131072 * t.bs.length) % M256 = 131072 * t.bs.length := Nat.mod_eq_of_lt (by unfold M256; omega)
  have e6 : 1 % M256 = 1 := Nat.mod_eq_of_lt (by unfold M256; omega)
  simp only [sms, shL, List.map_cons, List.map_nil, List.sum_cons, List.sum_nil, e1, e2, e3, e4, e5, e6, costN, hg, Int.toNat_natCast]
  omega
theorem sms_take (l : List (Nat × Nat)) (k : Nat) : sms (l.take k) ≤ sms l := by
  conv => rhs; rw [← List.take_append_drop k l]
  simp only [sms, List.map_append, List.sum_append]
  omega
structure CI (w W : World) (X C : Nat) (pre : List (Nat × Nat)) : Prop where
  bC : Bk W C (A4 (lb (sms pre) 0) (lb (sms pre) 1) (lb (sms pre) 2) (lb (sms pre) 3)) 26
  bO : Bk W (C + 1) #[.bool false] 4
  bR : Bk W (X + 1) (A4 0 0 0 0) 26
  lt : sms pre < M256
  hB : Below w.heap.size w W
structure CX (w W : World) (X C : Nat) (pre : List (Nat × Nat)) : Prop where
  bO : Bk W (C + 1) #[.bool true] 4
  bR : Bk W (X + 1) (A4 0 0 0 0) 26
  ge : ¬ sms pre < M256
  hB : Below w.heap.size w W
theorem CI.below {w A B : World} {X C k : Nat} {pre : List (Nat × Nat)} (h : CI w A X C pre) (hb : Below k A B) (h1 : C + 1 < k) (h2 : X + 1 < k) (h3 : w.heap.size ≤ k) : CI w B X C pre :=
  ⟨h.bC.below hb (by omega), h.bO.below hb (by omega), h.bR.below hb (by omega), h.lt, h.hB.trans (hb.mono (by omega))⟩
theorem CX.below {w A B : World} {X C k : Nat} {pre : List (Nat × Nat)} (h : CX w A X C pre) (hb : Below k A B) (h1 : C + 1 < k) (h2 : X + 1 < k) (h3 : w.heap.size ≤ k) : CX w B X C pre :=
  ⟨h.bO.below hb (by omega), h.bR.below hb (by omega), h.ge, h.hB.trans (hb.mono (by omega))⟩
theorem set4_heap {W : World} {b D : Nat} (h : D ≠ b) (u0 u1 u2 u3 : Value) : ((((W.setCell ⟨b, 0, none⟩ u0).setCell ⟨b, 1, none⟩ u1).setCell ⟨b, 2, none⟩ u2).setCell ⟨b, 3, none⟩ u3).heap[D]? = W.heap[D]? :=
  (((Below.heap_setCell _ _ _ D h).trans (Below.heap_setCell _ _ _ D h)).trans (Below.heap_setCell _ _ _ D h)).trans (Below.heap_setCell _ _ _ D h)
theorem kf_set4 {B b : Nat} (W : World) (u0 u1 u2 u3 : Value) : KeepsFrom B W ((((W.setCell ⟨b, 0, none⟩ u0).setCell ⟨b, 1, none⟩ u1).setCell ⟨b, 2, none⟩ u2).setCell ⟨b, 3, none⟩ u3) :=
  ((((KeepsOthers.setCell _ _ _).from _).trans ((KeepsOthers.setCell _ _ _).from _)).trans ((KeepsOthers.setCell _ _ _).from _)).trans ((KeepsOthers.setCell _ _ _).from _)
theorem ci_end {w W w3 : World} {X C : Nat} {pre pre' : List (Nat × Nat)} (B : Nat) (hi : CI w W X C pre) (hb : Below W.heap.size W w3) (hXC : X + 1 < C) (hwC : w.heap.size ≤ C) (S : Nat) (hS : sms pre' = S) (hlt : S < M256) :
    KeepsFrom B W ((((w3.setCell ⟨C, 0, none⟩ (.int .u64 (lb S 0))).setCell ⟨C, 1, none⟩ (.int .u64 (lb S 1))).setCell ⟨C, 2, none⟩ (.int .u64 (lb S 2))).setCell ⟨C, 3, none⟩ (.int .u64 (lb S 3))) ∧
    KpS C (C + 1) W ((((w3.setCell ⟨C, 0, none⟩ (.int .u64 (lb S 0))).setCell ⟨C, 1, none⟩ (.int .u64 (lb S 1))).setCell ⟨C, 2, none⟩ (.int .u64 (lb S 2))).setCell ⟨C, 3, none⟩ (.int .u64 (lb S 3))) ∧
    CI w ((((w3.setCell ⟨C, 0, none⟩ (.int .u64 (lb S 0))).setCell ⟨C, 1, none⟩ (.int .u64 (lb S 1))).setCell ⟨C, 2, none⟩ (.int .u64 (lb S 2))).setCell ⟨C, 3, none⟩ (.int .u64 (lb S 3))) X C pre' := by
  refine ⟨(kf_below hb).trans (kf_set4 _ _ _ _ _), ⟨fun b vs t h1 h2 h => set4_other (h.below hb h.lt) h1 _ _ _ _, by simp; exact hb.size⟩, ?_⟩
  refine ⟨?_, set4_other (hi.bO.below hb hi.bO.lt) (by omega) _ _ _ _, set4_other (hi.bR.below hb hi.bR.lt) (by omega) _ _ _ _, by rw [hS]; exact hlt, set4_below (hi.hB.trans (hb.mono hi.hB.size)) hwC _ _ _ _⟩
  rw [hS]
  exact set4_Bk (hi.bC.below hb hi.bC.lt) _ _ _ _
theorem cx_end {w W w3 : World} {X C : Nat} {pre pre' : List (Nat × Nat)} (B : Nat) (hi : CI w W X C pre) (hk : KeepsFrom B W w3) (bO : Bk w3 (C + 1) #[.bool false] 4) (bR : Bk w3 (X + 1) (A4 0 0 0 0) 26) (hb : Below w.heap.size w w3) (hXC : X + 1 < C) (hwC : w.heap.size ≤ C) (hlt : ¬ sms pre' < M256) :
    KeepsFrom B W (w3.setCell ⟨C + 1, 0, none⟩ (.bool true)) ∧ CX w (w3.setCell ⟨C + 1, 0, none⟩ (.bool true)) X C pre' := by
  refine ⟨hk.trans ((KeepsOthers.setCell _ _ _).from _), ⟨bO.set 0 _ rfl, ?_, hlt, hb.setCell (p := ⟨C + 1, 0, none⟩) (by show _ ≤ C + 1; omega) _⟩⟩
  exact (Below.heap_setCell w3 _ _ (X + 1) (by show X + 1 ≠ C + 1; omega)).trans bR
set_option maxRecDepth 100000 in
set_option maxHeartbeats 1000000 in
theorem cost_go (t : TX) (aH aB : Option Addr) (cH cB : Nat) (w : World) (hw : TXw t) (hr : RT w t (.slice aH t.hs.length cH) (.slice aB t.bs.length cB)) (hi : InBd t) :
    Calls Try.prog 56 #[.agg (txc t (.slice aH t.hs.length cH) (.slice aB t.bs.length cB))] w fun e w' => e = .returned (.tuple #[V (cosV t), .int .i64 (cosE t)]) ∧ Below w.heap.size w w' := by
  have HI : Hid (∀ W, Below w.heap.size w W → Calls Try.prog 87 #[.agg (txc t (.slice aH t.hs.length cH) (.slice aB t.bs.length cB))] W fun e w' => e = .returned (.bool true) ∧ Below W.heap.size W w') := fun W hW => by
    have := inBounds t aH aB cH cB W hw (hr.below hW)
    rw [decide_eq_true hi] at this
    exact this
  have HS : Hid (∀ w, Calls Try.prog 88 #[.agg (txc t (.slice aH t.hs.length cH) (.slice aB t.bs.length cB))] w fun e w' => e = .returned (.func (.func 107) #[] #[.pointer (some ⟨w.heap.size, 0, none⟩)]) ∧ w' = w.alloc (.cells (txc t (.slice aH t.hs.length cH) (.slice aB t.bs.length cB)) 30)) := fun w => shares_any t _ _ w
  have HW : Hid (TXw t ∧ InBd t) := ⟨hw, hi⟩
  obtain ⟨wr, hwr⟩ : ∃ wr, wr = (w.alloc (.cells (txc t (.slice aH t.hs.length cH) (.slice aB t.bs.length cB)) 30)).alloc (.cells (A4 0 0 0 0) 26) := ⟨_, rfl⟩
  clear hw hr hi
  refine (callsIn_wide (n := 6)).1 ?_
  refine callsIn_of_wp_marks Try.func56 rfl trivial ?_ rfl
  simp only [Try.ntmps56, List.size_toArray, List.length_cons, List.length_nil, Nat.reduceAdd, Nat.reduceSub, Array.replicate_succ, Array.replicate_zero, List.push_toArray, List.append_toArray, List.nil_append, List.cons_append]
  refine wpIn_wide.2 ?_
  go_wp2_with fail
  rw [← hwr]
  have bX : Bk wr w.heap.size (txc t (.slice aH t.hs.length cH) (.slice aB t.bs.length cB)) 30 := by rw [hwr]; exact (Bk.new _ _ _).alloc _
  have bR : Bk wr (w.heap.size + 1) (A4 0 0 0 0) 26 := by rw [hwr]; exact Bk.new' _ _ _ (by simp)
  have hB : Below w.heap.size w wr := by rw [hwr]; exact ((Below.refl _ _).alloc (Nat.le_refl _) _).alloc (by simp) _
  clear hwr
  obtain ⟨X, hX⟩ : ∃ X, X = w.heap.size := ⟨_, rfl⟩
  have HX0 : Hid (X = w.heap.size) := hX
  rw [← hX] at bX bR ⊢
  clear hX
  have HX : Hid (Bk wr X (txc t (.slice aH t.hs.length cH) (.slice aB t.bs.length cB)) 30) := bX
  have lX := bX.lt
  have lR := bR.lt
  go_wp2_with (refine wpList_load_tx rfl _ rfl rfl HX.out ?_)
  refine wp_scope_straight ?_
  go_wp2_with (refine wpList_load_tx rfl _ rfl rfl HX.out ?_)
  refine (HI.out _ hB).mono ?_
  rintro e w1 ⟨rfl, hb1⟩
  replace bX := bX.below hb1 lX
  replace bR := bR.below hb1 lR
  replace hB := hB.trans (hb1.mono hB.size)
  replace HX : Hid (Bk w1 X (txc t (.slice aH t.hs.length cH) (.slice aB t.bs.length cB)) 30) := bX
  clear hb1 lX lR HI
  go_wp2_with fail
  refine (wpIn_wide (n := 6)).1 (wpIn_label ?_)
  obtain ⟨C, hC⟩ : ∃ C, C = w1.heap.size := ⟨_, rfl⟩
  obtain ⟨W8, hW8⟩ : ∃ W8, W8 = (w1.alloc (.cells (A4 0 0 0 0) 26)).alloc (.cells #[.bool false] 4) := ⟨_, rfl⟩
  rw [← hW8, ← hC]
  have hXC : X + 1 < C := by have := bR.lt; omega
  have bC : Bk W8 C (A4 0 0 0 0) 26 := by rw [hW8, hC]; exact (Bk.new _ _ _).alloc _
  have bO : Bk W8 (C + 1) #[.bool false] 4 := by rw [hW8, hC]; exact Bk.new' _ _ _ (by simp)
  have hz : W8.heap.size = C + 2 := by rw [hW8, hC]; simp
  replace bX : Bk W8 X (txc t (.slice aH t.hs.length cH) (.slice aB t.bs.length cB)) 30 := by rw [hW8]; exact (bX.alloc _).alloc _
  replace bR : Bk W8 (X + 1) (A4 0 0 0 0) 26 := by rw [hW8]; exact (bR.alloc _).alloc _
  replace hB : Below w.heap.size w W8 := by rw [hW8]; exact (hB.alloc hB.size _).alloc (by have := hB.size; simp; omega) _
  replace HX : Hid (Bk W8 X (txc t (.slice aH t.hs.length cH) (.slice aB t.bs.length cB)) 30) := bX
  have HwC : Hid (w.heap.size ≤ C) := by have := HX0.out; show _ ≤ _; omega
  have HZ : Hid (W8.heap.size = C + 2) := hz
  clear hW8 hC hz
  go_wp2_with (first | (refine wpList_load_tx rfl _ rfl rfl HX.out ?_) | (go_at_call 88; refine (HS.out _).mono ?_; rintro e W9 ⟨rfl, hW9⟩))
  rw [← hW9, HZ.out]
  have bS : Bk W9 (C + 2) (txc t (.slice aH t.hs.length cH) (.slice aB t.bs.length cB)) 30 := by rw [hW9, ← HZ.out]; exact Bk.new _ _ _
  have hz9 : W9.heap.size = C + 3 := by rw [hW9]; simp [HZ.out]
  have h0 : CI w W9 X C [] := by rw [hW9]; exact ⟨bC.alloc _, bO.alloc _, bR.alloc _, by decide, hB.alloc hB.size _⟩
  clear hW9 bC bO bR hB bX HX
  obtain ⟨hwt, hib⟩ := HW.out
  obtain ⟨g, hg⟩ : ∃ g : Nat, t.ga = (g : Int) := ⟨t.ga.toNat, by have := hib.2.2.1.1; omega⟩
  have hg2 : g ≤ 1073741824 := by have := hib.2.2.1.2; omega
  have hn4 : 1 ≤ t.bs.length ∧ t.bs.length ≤ 4 := by
    have h5 := hib.2.2.2.2
    unfold fitT fitE at h5
    split at h5
    · next h =>
      have : (1 : Int) ≤ t.bs.length ∧ (t.bs.length : Int) ≤ 4 := by simpa [cnts] using h.1
      omega
    · omega
  have HSum : Hid (sms (shL t g) = costN t) := sms_all t g hwt hg hg2 hn4.2
  refine (wpIn_wide (n := 6)).1 ?_
  refine wpIn_rangeB rfl (by omega) (gf := 107) (lb := #[.pointer (some ⟨C + 2, 0, none⟩)]) rfl trivial (enters_of Try.func107 rfl rfl)
    (shares_seq _ t (.slice aH t.hs.length cH) aB cB (C + 2) C (C + 1) g (by omega) W9 bS (by omega) (by omega) hg hg2 hn4.1 hn4.2) KpS.trans (fun W l o o' _ h hc => ⟨kpx_put W l o o' h hc, by simp [World.putObj]⟩) (Below.refl _ _) (fun _ => rfl)
    (fun pre W => CI w W X C pre) (fun c pre W => c = .exit 0 ∧ CX w W X C pre) (fun s A B h hb => h.below hb (by omega) (by omega) (by have := HwC.out; omega)) (fun c s A B h hb => ⟨h.1, h.2.below hb (by omega) (by omega) (by have := HwC.out; omega)⟩) h0
    (fun x a' W => ∃ P, a' = { tmps := #[.agg (txc t (.slice aH t.hs.length cH) (.slice aB t.bs.length cB)), .pointer (some ⟨X, 0, none⟩), .pointer (some ⟨X + 1, 0, none⟩), .int .i64 0, .pointer (some ⟨C, 0, none⟩), .pointer (some ⟨C + 1, 0, none⟩), .pointer (some ⟨P, 0, none⟩), .pointer (some ⟨P + 1, 0, none⟩), undef, undef, .agg (txc t (.slice aH t.hs.length cH) (.slice aB t.bs.length cB)), .bool true, .bool false, undef, .agg (txc t (.slice aH t.hs.length cH) (.slice aB t.bs.length cB)), .func (.func 107) #[] #[.pointer (some ⟨C + 2, 0, none⟩)], V x.1, V x.2, undef, undef, undef, undef, undef, undef, undef, undef, undef, undef, undef, undef, undef, undef, undef, undef, undef, undef, undef], defers := [] } ∧ Bk W P (A4 (lb x.1 0) (lb x.1 1) (lb x.1 2) (lb x.1 3)) 26 ∧ Bk W (P + 1) (A4 (lb x.2 0) (lb x.2 1) (lb x.2 2) (lb x.2 3)) 26)
    (fun x a' A l o o' _ h hc hx => by obtain ⟨P, h1, h2, h3⟩ := hx; exact ⟨P, h1, bk_put h2 h hc, bk_put h3 h hc⟩) ?assign ?body ?done ?stop
  case assign =>
    intro l pre x W K hi hK
    simp only [shenc]
    gi_wp2
    have hb : Below W.heap.size W ((W.alloc (.cells (A4 (lb x.1 0) (lb x.1 1) (lb x.1 2) (lb x.1 3)) 26)).alloc (.cells (A4 (lb x.2 0) (lb x.2 1) (lb x.2 2) (lb x.2 3)) 26)) := ((Below.refl _ W).alloc (Nat.le_refl _) _).alloc (by simp) _
    have lO := hi.bO.lt
    have lR := hi.bR.lt
    exact hK _ _ (kf_below hb) ⟨fun b vs t _ _ h => (h.alloc _).alloc _, hb.size⟩ (hi.below hb (by omega) (by omega) hi.hB.size) ⟨W.heap.size, rfl, (Bk.new _ _ _).alloc _, Bk.new' _ _ _ (by simp)⟩
  case body =>
    rintro l pre x a' W hi ⟨P, rfl, bP, bQ⟩
    obtain ⟨q1, hq1⟩ : ∃ q, q = x.1 % M256 := ⟨_, rfl⟩
    obtain ⟨q2, hq2⟩ : ∃ q, q = x.2 % M256 := ⟨_, rfl⟩
    have hl1 : q1 < M256 := by rw [hq1]; exact Nat.mod_lt _ (by decide)
    have hl2 : q2 < M256 := by rw [hq2]; exact Nat.mod_lt _ (by decide)
    have HM : Hid (∀ w, Calls Try.prog 89 #[V x.1, V x.2] w fun e w' => e = .returned (.tuple #[V (mulV q1 q2), .int .i64 (mulOkE q1 q2)]) ∧ Below w.heap.size w w') := fun w => by
      have := mul q1 q2 hl1 hl2 w
      rw [hq1, hq2, V_mod, V_mod, ← hq1, ← hq2] at this
      exact this
    have HSn : Hid (sms (pre ++ [x]) = sms pre + q1 * q2) := by show _ = _; rw [sms_snoc, hq1, hq2]
    clear hq1 hq2
    obtain ⟨x1, x2⟩ := x
    dsimp only at *
    have HCI : Hid (CI w W X C pre) := hi
    have lO := hi.bO.lt
    have lC := hi.bC.lt
    have p0 := bP.cell 0
    have p1 := bP.cell 1
    have p2 := bP.cell 2
    have p3 := bP.cell 3
    simp only [List.getElem?_toArray, List.getElem?_cons_zero, List.getElem?_cons_succ] at p0 p1 p2 p3
    have y0 := bQ.cell 0
    have y1 := bQ.cell 1
    have y2 := bQ.cell 2
    have y3 := bQ.cell 3
    simp only [List.getElem?_toArray, List.getElem?_cons_zero, List.getElem?_cons_succ] at y0 y1 y2 y3
    have HP : Hid (Bk W P (A4 (lb x1 0) (lb x1 1) (lb x1 2) (lb x1 3)) 26) := bP
    have hs := hi.lt
    obtain ⟨S, hS⟩ : ∃ S, S = sms pre := ⟨_, rfl⟩
    rw [← hS] at hs HSn
    have HSp : Hid (S = sms pre) := hS
    clear hS
    clear bP bQ hi
    by_cases hm : q1 * q2 < M256
    · have eV : mulV q1 q2 = q1 * q2 := if_pos hm
      have eE : mulOkE q1 q2 = 0 := if_pos hm
      rw [eV, eE] at HM
      clear eV eE
      generalize q1 * q2 = pq at *
      have HA : Hid (∀ w, Calls Try.prog 90 #[V S, V pq] w fun e w' => e = .returned (.tuple #[V (addV S pq), .int .i64 (addOkE S pq)]) ∧ Below w.heap.size w w') := fun w => add S pq hs hm w
      by_cases ha : S + pq < M256
      · have eV : addV S pq = S + pq := if_pos ha
        have eE : addOkE S pq = 0 := if_pos ha
        rw [eV, eE] at HA
        clear eV eE
        have HLT : Hid (S + pq < M256) := ha
        clear hm ha hs
        gi_wp2_with (first
          | (refine ⟨trivial, ?_⟩; gi_at_call 89; with_reducible refine (CallsIn.inRound l (callsIn_wide.2 (HM.out _))).mono ?_; rintro e w2 ⟨rfl, hb2⟩; have bC2 := HCI.out.bC.below hb2 lC; rw [← HSp.out] at bC2; have lC2 := bC2.lt; have hO2 : C + 1 < w2.heap.size := Nat.lt_of_lt_of_le lO hb2.size; have c0 := bC2.cell 0; have c1 := bC2.cell 1; have c2 := bC2.cell 2; have c3 := bC2.cell 3; simp only [List.getElem?_toArray, List.getElem?_cons_zero, List.getElem?_cons_succ] at c0 c1 c2 c3)
          | (refine ⟨trivial, ?_⟩; gi_at_call 90; with_reducible refine (CallsIn.inRound l (callsIn_wide.2 (HA.out _))).mono ?_; rintro e w3 ⟨rfl, hb3⟩; have bC3 := (bC2.alloc (.cells (A4 (lb pq 0) (lb pq 1) (lb pq 2) (lb pq 3)) 26)).below hb3 (by simp; omega); have lC3 := bC3.lt; have d0 := bC3.cell 0; have df0 := bC3.frozen 0; have d1 := bC3.cell 1; have df1 := bC3.frozen 1; have d2 := bC3.cell 2; have df2 := bC3.frozen 2; have d3 := bC3.cell 3; have df3 := bC3.frozen 3; simp only [List.getElem?_toArray, List.getElem?_cons_zero, List.getElem?_cons_succ] at d0 d1 d2 d3))
        have hba : Below W.heap.size W (w2.alloc (.cells (A4 (lb pq 0) (lb pq 1) (lb pq 2) (lb pq 3)) 26)) := hb2.alloc hb2.size _
        exact ci_end _ HCI.out (hba.trans (hb3.mono hba.size)) hXC HwC.out _ HSn.out HLT.out
      · have eV : addV S pq = 0 := if_neg ha
        have eE : addOkE S pq = 8 := if_neg ha
        rw [eV, eE] at HA
        clear eV eE
        have HLT : Hid (¬ S + pq < M256) := ha
        clear hm ha hs
        gi_wp2_with (first
          | (refine ⟨trivial, ?_⟩; gi_at_call 89; with_reducible refine (CallsIn.inRound l (callsIn_wide.2 (HM.out _))).mono ?_; rintro e w2 ⟨rfl, hb2⟩; have bC2 := HCI.out.bC.below hb2 lC; rw [← HSp.out] at bC2; have lC2 := bC2.lt; have hO2 : C + 1 < w2.heap.size := Nat.lt_of_lt_of_le lO hb2.size; have c0 := bC2.cell 0; have c1 := bC2.cell 1; have c2 := bC2.cell 2; have c3 := bC2.cell 3; simp only [List.getElem?_toArray, List.getElem?_cons_zero, List.getElem?_cons_succ] at c0 c1 c2 c3)
          | (refine ⟨trivial, ?_⟩; gi_at_call 90; with_reducible refine (CallsIn.inRound l (callsIn_wide.2 (HA.out _))).mono ?_; rintro e w3 ⟨rfl, hb3⟩; have bC3 := (bC2.alloc (.cells (A4 (lb pq 0) (lb pq 1) (lb pq 2) (lb pq 3)) 26)).below hb3 (by simp; omega); have lC3 := bC3.lt; have bO3 := HCI.out.bO.below ((hb2.alloc hb2.size (.cells (A4 (lb pq 0) (lb pq 1) (lb pq 2) (lb pq 3)) 26)).trans (hb3.mono (by have := hb2.size; simp; omega))) lO; have o0 := bO3.cell 0; have of0 := bO3.frozen 0; have lO3 := bO3.lt; have hCO : ¬ C = C + 1 := (by omega); have hOC : ¬ C + 1 = C := (by omega); simp only [List.getElem?_toArray, List.getElem?_cons_zero] at o0; have d0 := bC3.cell 0; have df0 := bC3.frozen 0; have d1 := bC3.cell 1; have df1 := bC3.frozen 1; have d2 := bC3.cell 2; have df2 := bC3.frozen 2; have d3 := bC3.cell 3; have df3 := bC3.frozen 3; simp only [List.getElem?_toArray, List.getElem?_cons_zero, List.getElem?_cons_succ] at d0 d1 d2 d3))
        have hba : Below W.heap.size W (w2.alloc (.cells (A4 (lb pq 0) (lb pq 1) (lb pq 2) (lb pq 3)) 26)) := hb2.alloc hb2.size _
        have hbb := hba.trans (hb3.mono hba.size)
        have hend := cx_end (w3 := (((w3.setCell ⟨C, 0, none⟩ (.int .u64 (lb 0 0))).setCell ⟨C, 1, none⟩ (.int .u64 (lb 0 1))).setCell ⟨C, 2, none⟩ (.int .u64 (lb 0 2))).setCell ⟨C, 3, none⟩ (.int .u64 (lb 0 3))) W9.heap.size HCI.out ((kf_below hbb).trans (kf_set4 _ _ _ _ _)) (set4_other bO3 (by omega) _ _ _ _) (set4_other (HCI.out.bR.below hbb HCI.out.bR.lt) (by omega) _ _ _ _) (set4_below (HCI.out.hB.trans (hbb.mono HCI.out.hB.size)) HwC.out _ _ _ _) hXC HwC.out (pre' := pre ++ [(x1, x2)]) (by rw [HSn.out]; exact HLT.out)
        exact ⟨hend.1, rfl, hend.2⟩
    · have eV : mulV q1 q2 = 0 := if_neg hm
      have eE : mulOkE q1 q2 = 8 := if_neg hm
      rw [eV, eE] at HM
      clear eV eE
      have HLT : Hid (¬ q1 * q2 < M256) := hm
      clear hm hs
      gi_wp2_with (refine ⟨trivial, ?_⟩; gi_at_call 89; with_reducible refine (CallsIn.inRound l (callsIn_wide.2 (HM.out _))).mono ?_; rintro e w2 ⟨rfl, hb2⟩; have bC2 := HCI.out.bC.below hb2 lC; rw [← HSp.out] at bC2; have lC2 := bC2.lt; have hO2 : C + 1 < w2.heap.size := Nat.lt_of_lt_of_le lO hb2.size; have c0 := bC2.cell 0; have c1 := bC2.cell 1; have c2 := bC2.cell 2; have c3 := bC2.cell 3; simp only [List.getElem?_toArray, List.getElem?_cons_zero, List.getElem?_cons_succ] at c0 c1 c2 c3; have bO3 := HCI.out.bO.below hb2 lO; have o0 := bO3.cell 0; have of0 := bO3.frozen 0; simp only [List.getElem?_toArray, List.getElem?_cons_zero] at o0)
      have hend := cx_end W9.heap.size HCI.out (kf_below hb2) bO3 (HCI.out.bR.below hb2 HCI.out.bR.lt) (HCI.out.hB.trans (hb2.mono HCI.out.hB.size)) hXC HwC.out (pre' := pre ++ [(x1, x2)]) (by rw [HSn.out]; have := HLT.out; omega)
      have hX2 : X + 1 < w2.heap.size := by omega
      exact ⟨hend.1.trans (kf_below ((Below.refl _ _).alloc (Nat.le_refl _) _)), rfl, hend.2.below ((Below.refl _ _).alloc (Nat.le_refl _) _) (by simp; omega) (by simp; omega) (by have := HCI.out.hB.size; have := hb2.size; simp; omega)⟩
  case done =>
    rintro D xs W hD rfl hi hK
    have hlt := hi.lt
    have HV : Hid (cosV t = sms (shL t g) ∧ cosE t = 0) := by
      have hok : TxOk t := ⟨hib.1, hib.2.1, hib.2.2.1, hib.2.2.2.1, hib.2.2.2.2, by rw [← HSum.out]; exact hlt⟩
      exact ⟨by rw [cosV, if_pos hok, HSum.out], if_pos hok⟩
    have HI : Hid (CI w W X C (shL t g)) := hi
    have lR := hi.bR.lt
    obtain ⟨hc0, hcf⟩ : True ∧ True := ⟨trivial, trivial⟩
    have o0 := hi.bO.cell 0
    have bC := hi.bC
    have bR := hi.bR
    have c0 := bC.cell 0
    have c1 := bC.cell 1
    have c2 := bC.cell 2
    have c3 := bC.cell 3
    have r0 := bR.cell 0
    have rf0 := bR.frozen 0
    have r1 := bR.cell 1
    have rf1 := bR.frozen 1
    have r2 := bR.cell 2
    have rf2 := bR.frozen 2
    have r3 := bR.cell 3
    have rf3 := bR.frozen 3
    simp only [List.getElem?_toArray, List.getElem?_cons_zero, List.getElem?_cons_succ] at o0 c0 c1 c2 c3 r0 r1 r2 r3
    generalize sms (shL t g) = S at *
    clear hi bC bR hlt
    go_wp2_with fail
    have hK4 : ((((W.setCell ⟨X + 1, 0, none⟩ (.int .u64 (lb S 0))).setCell ⟨X + 1, 1, none⟩ (.int .u64 (lb S 1))).setCell ⟨X + 1, 2, none⟩ (.int .u64 (lb S 2))).setCell ⟨X + 1, 3, none⟩ (.int .u64 (lb S 3))).heap[D]? = some (.deferred (some [])) := (set4_heap (by omega) _ _ _ _).trans hK
    simp only [Exit.noGoto]
    refine ⟨by simp, .inl ⟨_, _, rfl, run_takeDeferred hK4, ?_⟩⟩
    have bQ := bk_put (x' := .deferred none) (set4_Bk HI.out.bR (.int .u64 (lb S 0)) (.int .u64 (lb S 1)) (.int .u64 (lb S 2)) (.int .u64 (lb S 3))) hK4 rfl
    have s0 := bQ.cell 0
    have s1 := bQ.cell 1
    have s2 := bQ.cell 2
    have s3 := bQ.cell 3
    simp only [List.getElem?_toArray, List.getElem?_cons_zero, List.getElem?_cons_succ] at s0 s1 s2 s3
    refine ⟨.tuple #[V S, .int .i64 0], ?_, by rw [HV.out.1, HV.out.2], (set4_below HI.out.hB (by have := HX0.out; omega) _ _ _ _).trans (below_put _ _ (by have := HwC.out; omega))⟩
    simp [results, Try.f56, go_sem, s0, s1, s2, s3]
  case stop =>
    rintro D c pre W hD ⟨k, rfl⟩ ⟨rfl, hi⟩ hK
    have hge := hi.ge
    have HV : Hid (cosV t = 0 ∧ cosE t = 1) := by
      have hno : ¬ TxOk t := fun h => by
        have h6 := h.2.2.2.2.2
        have := sms_take (shL t g) (k + 1)
        rw [← HSum.out] at h6
        omega
      exact ⟨if_neg hno, if_neg hno⟩
    have HI : Hid (CX w W X C ((shL t g).take (k + 1))) := hi
    have lR := hi.bR.lt
    have o0 := hi.bO.cell 0
    have bR := hi.bR
    have r0 := bR.cell 0
    have rf0 := bR.frozen 0
    have r1 := bR.cell 1
    have rf1 := bR.frozen 1
    have r2 := bR.cell 2
    have rf2 := bR.frozen 2
    have r3 := bR.cell 3
    have rf3 := bR.frozen 3
    simp only [List.getElem?_toArray, List.getElem?_cons_zero, List.getElem?_cons_succ] at o0 r0 r1 r2 r3
    clear hi bR hge
    gi_wp2
    go_wp2_with fail
    have hK4 : ((((W.setCell ⟨X + 1, 0, none⟩ (.int .u64 (0))).setCell ⟨X + 1, 1, none⟩ (.int .u64 (0))).setCell ⟨X + 1, 2, none⟩ (.int .u64 (0))).setCell ⟨X + 1, 3, none⟩ (.int .u64 (0))).heap[D]? = some (.deferred (some [])) := (set4_heap (by omega) _ _ _ _).trans hK
    simp only [Exit.noGoto]
    refine ⟨by simp, .inl ⟨_, _, rfl, run_takeDeferred hK4, ?_⟩⟩
    have bQ := bk_put (x' := .deferred none) (set4_Bk HI.out.bR (.int .u64 (0)) (.int .u64 (0)) (.int .u64 (0)) (.int .u64 (0))) hK4 rfl
    have s0 := bQ.cell 0
    have s1 := bQ.cell 1
    have s2 := bQ.cell 2
    have s3 := bQ.cell 3
    simp only [List.getElem?_toArray, List.getElem?_cons_zero, List.getElem?_cons_succ] at s0 s1 s2 s3
    refine ⟨.tuple #[.agg (A4 0 0 0 0), .int .i64 1], ?_, by rw [HV.out.1, HV.out.2, V_zero], (set4_below HI.out.hB (by have := HX0.out; omega) _ _ _ _).trans (below_put _ _ (by have := HwC.out; omega))⟩
    simp [results, Try.f56, go_sem, s0, s1, s2, s3]
set_option maxRecDepth 100000 in
set_option maxHeartbeats 4000000 in
theorem cost_no (t : TX) (aH aB : Option Addr) (cH cB : Nat) (w : World) (hw : TXw t) (hr : RT w t (.slice aH t.hs.length cH) (.slice aB t.bs.length cB)) (hi : ¬ InBd t) :
    Calls Try.prog 56 #[.agg (txc t (.slice aH t.hs.length cH) (.slice aB t.bs.length cB))] w fun e w' => e = .returned (.tuple #[V (cosV t), .int .i64 (cosE t)]) ∧ Below w.heap.size w w' := by
  have HI : Hid (∀ W, Below w.heap.size w W → Calls Try.prog 87 #[.agg (txc t (.slice aH t.hs.length cH) (.slice aB t.bs.length cB))] W fun e w' => e = .returned (.bool false) ∧ Below W.heap.size W w') := fun W hW => by
    have := inBounds t aH aB cH cB W hw (hr.below hW)
    rw [decide_eq_false hi] at this
    exact this
  have HV : Hid (cosV t = 0 ∧ cosE t = 1) := by
    have hno : ¬ TxOk t := fun h => hi ⟨h.1, h.2.1, h.2.2.1, h.2.2.2.1, h.2.2.2.2.1⟩
    exact ⟨if_neg hno, if_neg hno⟩
  obtain ⟨wr, hwr⟩ : ∃ wr, wr = (w.alloc (.cells (txc t (.slice aH t.hs.length cH) (.slice aB t.bs.length cB)) 30)).alloc (.cells (A4 0 0 0 0) 26) := ⟨_, rfl⟩
  clear hw hr hi
  refine (callsIn_wide (n := 6)).1 ?_
  refine callsIn_of_wp_marks Try.func56 rfl trivial ?_ rfl
  simp only [Try.ntmps56, List.size_toArray, List.length_cons, List.length_nil, Nat.reduceAdd, Nat.reduceSub, Array.replicate_succ, Array.replicate_zero, List.push_toArray, List.append_toArray, List.nil_append, List.cons_append]
  refine wpIn_wide.2 ?_
  go_wp2_with fail
  rw [← hwr]
  have bX : Bk wr w.heap.size (txc t (.slice aH t.hs.length cH) (.slice aB t.bs.length cB)) 30 := by rw [hwr]; exact (Bk.new _ _ _).alloc _
  have bR : Bk wr (w.heap.size + 1) (A4 0 0 0 0) 26 := by rw [hwr]; exact Bk.new' _ _ _ (by simp)
  have hB : Below w.heap.size w wr := by rw [hwr]; exact ((Below.refl _ _).alloc (Nat.le_refl _) _).alloc (by simp) _
  clear hwr
  obtain ⟨X, hX⟩ : ∃ X, X = w.heap.size := ⟨_, rfl⟩
  have HX0 : Hid (X = w.heap.size) := hX
  rw [← hX] at bX bR ⊢
  clear hX
  have HX : Hid (Bk wr X (txc t (.slice aH t.hs.length cH) (.slice aB t.bs.length cB)) 30) := bX
  have lX := bX.lt
  have lR := bR.lt
  refine wp_scope_straight ?_
  go_wp2_with (refine wpList_load_tx rfl _ rfl rfl HX.out ?_)
  refine (HI.out _ hB).mono ?_
  rintro e w1 ⟨rfl, hb1⟩
  replace bR := bR.below hb1 lR
  replace hB := hB.trans (hb1.mono hB.size)
  have HBR : Hid (Bk w1 (X + 1) (A4 0 0 0 0) 26 ∧ Below w.heap.size w w1) := ⟨bR, hB⟩
  have lR1 := bR.lt
  have r0 := bR.cell 0
  have rf0 := bR.frozen 0
  have r1 := bR.cell 1
  have rf1 := bR.frozen 1
  have r2 := bR.cell 2
  have rf2 := bR.frozen 2
  have r3 := bR.cell 3
  have rf3 := bR.frozen 3
  simp only [List.getElem?_toArray, List.getElem?_cons_zero, List.getElem?_cons_succ] at r0 r1 r2 r3
  clear hb1 lX lR HI bX bR hB HX
  go_wp2_with fail
  simp only [Exit.noGoto]
  have bQ := set4_Bk HBR.out.1 (.int .u64 0) (.int .u64 0) (.int .u64 0) (.int .u64 0)
  have s0 := bQ.cell 0
  have s1 := bQ.cell 1
  have s2 := bQ.cell 2
  have s3 := bQ.cell 3
  simp only [List.getElem?_toArray, List.getElem?_cons_zero, List.getElem?_cons_succ] at s0 s1 s2 s3
  refine ⟨.tuple #[.agg (A4 0 0 0 0), .int .i64 1], ?_, by rw [HV.out.1, HV.out.2, V_zero], set4_below HBR.out.2 (by have := HX0.out; omega) _ _ _ _⟩
  simp [results, Try.f56, go_sem, s0, s1, s2, s3]
theorem cost (t : TX) (aH aB : Option Addr) (cH cB : Nat) (w : World) (hw : TXw t) (hr : RT w t (.slice aH t.hs.length cH) (.slice aB t.bs.length cB)) :
    Calls Try.prog 56 #[.agg (txc t (.slice aH t.hs.length cH) (.slice aB t.bs.length cB))] w fun e w' => e = .returned (.tuple #[V (cosV t), .int .i64 (cosE t)]) ∧ Below w.heap.size w w' := by
  by_cases h : InBd t
  · exact cost_go t aH aB cH cB w hw hr h
  · exact cost_no t aH aB cH cB w hw hr h
/-! tx.Check. -/
set_option maxRecDepth 100000 in
set_option maxHeartbeats 1000000 in
theorem check7 (t : TX) (aH aB : Option Addr) (cH cB : Nat) (w : World) (hw : TXw t) (hr : RT w t (.slice aH t.hs.length cH) (.slice aB t.bs.length cB)) :
    Calls Try.prog 23 #[.agg (txc t (.slice aH t.hs.length cH) (.slice aB t.bs.length cB))] w fun e w' => e = .returned (.int .i64 (cosE t)) ∧ Below w.heap.size w w' := by
  have HC : Hid (∀ W, Below w.heap.size w W → Calls Try.prog 56 #[.agg (txc t (.slice aH t.hs.length cH) (.slice aB t.bs.length cB))] W fun e w' => e = .returned (.tuple #[V (cosV t), .int .i64 (cosE t)]) ∧ Below W.heap.size W w') := fun W hW => cost t aH aB cH cB W hw (hr.below hW)
  have HX : Hid (Bk (w.alloc (.cells (txc t (.slice aH t.hs.length cH) (.slice aB t.bs.length cB)) 30)) w.heap.size (txc t (.slice aH t.hs.length cH) (.slice aB t.bs.length cB)) 30) := Bk.new _ _ _
  have hB : Below w.heap.size w (w.alloc (.cells (txc t (.slice aH t.hs.length cH) (.slice aB t.bs.length cB)) 30)) := (Below.refl _ _).alloc (Nat.le_refl _) _
  generalize cosV t = cv at *
  generalize cosE t = ce at *
  clear hw hr
  go_enter Try.func23, Try.ntmps23
  go_wp2_with (refine wpList_load_tx rfl _ rfl rfl HX.out ?_)
  refine (HC.out _ hB).mono ?_
  rintro e w1 ⟨rfl, hb1⟩
  go_wp2_with fail
  go_ret
  have hb2 := hB.trans (hb1.mono hB.size)
  exact ⟨rfl, hb2.alloc hb2.size _⟩
end Go.Proofs.Ytapjonmgjccpbaa
end
section
set_option linter.unusedSimpArgs false
set_option linter.unusedVariables false
set_option maxRecDepth 100000
namespace Go.Proofs.Ytapjonmgjccpbaa
open Go.RowKit

/-! tx.Take. -/
/-- The transaction that these bytes are. -/
def tkOk (s : ByteArray) : Prop := (pz s).2 = 0 ∧ (pz s).1.list = true ∧ okT (pz s).1.items = true ∧ TxOk (rdT (pz s).1.items)
instance (s : ByteArray) : Decidable (tkOk s) := by unfold tkOk; infer_instance
def zTX : TX := ⟨0, 0, 0, 0, 0, 0, 0, [], []⟩
def tkT (s : ByteArray) : TX := if tkOk s then rdT (pz s).1.items else zTX
def tkTE (s : ByteArray) : Int := if tkOk s then 0 else 1
theorem wpList_load_txG {ops : Array Oper} {rest : List Oper} {op : Oper} {a : Act} {w : World} {Q : Exit → Act → World → Prop} (hw : Region.wanted op (yielded ops a.tmps) = true) (x : Operand) (ho : op.op = .load 30 x)
    {X : Nat} (hx : a.eval x = .pointer (some ⟨X, 0, none⟩)) {t : TX} {u v : Value} (h : Bk w X (txc t u v) 30) (hk : wpList Try.prog ops Q rest (a.put op.dst (.agg (txc t u v))) w) : wpList Try.prog ops Q (op :: rest) a w :=
  BigFrame.wpList_want hw fun _ hK => wp_load_mid 30 x ho X 0 hx (txc t u v).toList _ (fun j y hy => by rw [Nat.zero_add, h.cell, ← Array.getElem?_toList]; exact hy) Try.underlying30 rfl infoT (hK _ _ hk)
theorem z21_txc : txc zTX (.slice none 0 0) (.slice none 0 0) = z21 := by simp [zTX, z21, lb_zero]
set_option maxHeartbeats 4000000 in
theorem take7 (s : ByteArray) (w : World) (hs : s.size ≤ 1000000) (hwt : (pz s).1.wt ≤ 1048576) (htx : ∀ y ∈ (atI (pz s).1.items 8).items, y.text.size ≤ maxLen) :
    Calls Try.prog 11 #[.string s] w fun e w' => (∃ a b c d, e = .returned (.tuple #[.agg (txc (tkT s) (.slice a (tkT s).hs.length b) (.slice c (tkT s).bs.length d)), .int .i64 (tkTE s)]) ∧ OT w' w.heap.size (tkT s) (.slice a (tkT s).hs.length b) (.slice c (tkT s).bs.length d)) ∧ Below w.heap.size w w' := by
  have HP : Hid (∀ w, Calls Try.prog 37 #[.string s] w (PaQ s w)) := fun w => iParse s w (by omega)
  obtain ⟨wr, hwr⟩ : ∃ wr, wr = w.alloc (.cells z21 30) := ⟨_, rfl⟩
  have bR : Bk wr w.heap.size z21 30 := by rw [hwr]; exact Bk.new _ _ _
  have hB : Below w.heap.size w wr := by rw [hwr]; exact (Below.refl _ _).alloc (Nat.le_refl _) _
  have HWR : Hid (wr = w.alloc (.cells z21 30)) := hwr
  clear hwr
  go_enter Try.func11, Try.ntmps11
  go_upto_region 1 with fail
  rw [show w.alloc (.cells #[.int .i64 0, .int .i64 0, .int .u64 0, .int .u64 0, .int .u64 0, .int .u64 0, .int .u64 0, .int .u64 0, .int .u64 0, .int .u64 0, .int .u64 0, .int .u64 0, .int .u64 0, .int .u64 0, .int .u64 0, .int .u64 0, .int .u64 0, .int .u64 0, .int .i64 0, .slice none 0 0, .slice none 0 0] 30) = wr from HWR.out.symm]
  go_wp2_with fail
  refine (HP.out _).mono ?_
  rintro e w1 ⟨⟨ad, l, c, rfl, hrd⟩, hb1⟩
  have bR1 := bR.below hb1 bR.lt
  have hB1 := hB.trans (hb1.mono hB.size)
  have HW : Hid ((pz s).1.wt ≤ 1048576 ∧ ∀ y ∈ (atI (pz s).1.items 8).items, y.text.size ≤ maxLen) := ⟨hwt, htx⟩
  have HR : Hid (Bk w1 w.heap.size z21 30) := bR1
  have HB : Hid (Below w.heap.size w w1) := hB1
  clear hwt htx hs bR hB hb1 HP
  by_cases hz : (pz s).2 = 0
  case neg =>
    have HV : Hid (tkT s = zTX ∧ tkTE s = 1) := ⟨if_neg fun h => hz h.1, if_neg fun h => hz h.1⟩
    have hne : (((pz s).2 : Int) != 0) = true := by rw [bne_iff_ne]; omega
    generalize (pz s).2 = pe at *
    generalize (pz s).1.list = pl at *
    generalize (pz s).1.text = pt at *
    replace HR : Hid (Bk (w1.alloc (.cells #[.bool pl, .string pt, .slice ad l c] 70)) w.heap.size z21 30) := HR.out.alloc _
    replace HB : Hid (Below w.heap.size w (w1.alloc (.cells #[.bool pl, .string pt, .slice ad l c] 70))) := HB.out.alloc HB.out.size _
    clear hz hrd bR1 hB1
    go_wp2_with (first
      | (refine wpList_store_tx (t := zTX) (aH := none) (aB := none) (nH := 0) (cH := 0) (nB := 0) (cB := 0) rfl _ _ rfl rfl (by rw [z21_txc]; rfl) HR.out rfl ?_; intro W6 hS6))
    have hld := run_loadVar_mid (P := Try.prog) W6 w.heap.size 0 30 (txc zTX (.slice none 0 0) (.slice none 0 0)).toList _ (fun j x hx => by rw [Nat.zero_add, hS6.bR.cell]; simpa using hx) Try.underlying30 rfl infoT
    refine bodyPost_ret (v := .tuple #[.agg (txc zTX (.slice none 0 0) (.slice none 0 0)), .int .i64 1]) ?_ rfl ⟨⟨none, 0, none, 0, by rw [HV.out.1, HV.out.2]; rfl, by rw [HV.out.1]; exact ⟨Or.nil _ _ _ _, Or.nil _ _ _ _⟩⟩, hS6.below _ _ (Nat.le_refl _) HB.out⟩
    simp only [results, Try.results11, Act.put]
    simp [asAddr, hld]
  have HRe : Hid (∀ W, Below w1.heap.size w1 W → Calls Try.prog 38 #[.agg #[.bool (pz s).1.list, .string (pz s).1.text, .slice ad l c]] W fun e w' => (∃ t u v, e = .returned (.tuple #[.agg (txc t u v), .bool ((pz s).1.list && okT (pz s).1.items)]) ∧ (∃ x y z, u = .slice x y z) ∧ (∃ x y z, v = .slice x y z) ∧ (((pz s).1.list && okT (pz s).1.items) = true → t = rdT (pz s).1.items ∧ OT w' W.heap.size t u v)) ∧ Below W.heap.size W w') := fun W hW => read7 16 (pz s).1 ad l c W (hrd.rd.below hW) HW.out.1
  have heq : (((pz s).2 : Int) != 0) = false := by rw [hz]; rfl
  have HZ : Hid ((pz s).2 = 0) := hz
  obtain ⟨wA, hwA⟩ : ∃ wA, wA = w1.alloc (.cells #[.bool (pz s).1.list, .string (pz s).1.text, .slice ad l c] 70) := ⟨_, rfl⟩
  have hbA : Below w1.heap.size w1 wA := by rw [hwA]; exact (Below.refl _ _).alloc (Nat.le_refl _) _
  have bA : Bk wA w1.heap.size #[.bool (pz s).1.list, .string (pz s).1.text, .slice ad l c] 70 := by rw [hwA]; exact Bk.new _ _ _
  have bRA : Bk wA w.heap.size z21 30 := by rw [hwA]; exact bR1.alloc _
  have hBA : Below w.heap.size w wA := by rw [hwA]; exact hB1.alloc hB1.size _
  have HWA : Hid (wA = w1.alloc (.cells #[.bool (pz s).1.list, .string (pz s).1.text, .slice ad l c] 70)) := hwA
  clear hwA hrd bR1 hB1
  go_upto_region 4 with fail
  rw [← HWA.out]
  obtain ⟨a0, a1, a2⟩ := box_cells bA
  clear bA HWA hz
  go_wp2_with fail
  refine (HRe.out _ hbA).mono ?_
  rintro e w3 ⟨⟨t, u, v, rfl, ⟨ua, ul, uc, rfl⟩, ⟨va, vl, vc, rfl⟩, hfine⟩, hb3⟩
  have bR3 := bRA.below hb3 bRA.lt
  have hB3 := hBA.trans (hb3.mono hBA.size)
  have lR3 := bR3.lt
  have hwA := bRA.lt
  have hw3 := hb3.size
  have HF : Hid (((pz s).1.list && okT (pz s).1.items) = true → t = rdT (pz s).1.items ∧ OT w3 wA.heap.size t (.slice ua ul uc) (.slice va vl vc)) := hfine
  have HOK : Hid (((pz s).1.list && okT (pz s).1.items) = true ↔ ((pz s).1.list = true ∧ okT (pz s).1.items = true)) := by show _ ↔ _; rw [Bool.and_eq_true]
  generalize ((pz s).1.list && okT (pz s).1.items) = okb at *
  have bN : Bk (w3.alloc (.cells z21 30)) w3.heap.size z21 30 := Bk.new _ _ _
  have HBN : Hid (Bk (w3.alloc (.cells z21 30)) w3.heap.size z21 30) := bN
  have HR3 : Hid (Bk (w3.alloc (.cells z21 30)) w.heap.size z21 30 ∧ Below w.heap.size w (w3.alloc (.cells z21 30))) := ⟨bR3.alloc _, hB3.alloc hB3.size _⟩
  clear a0 a1 a2 bN bR3 hB3 hfine bRA hBA HRe hbA hb3 HR HB
  go_upto_region 5 with (refine wpList_store_tx rfl _ _ rfl rfl rfl HBN.out rfl ?_; intro W4 hS4)
  have HR : Hid (Bk W4 w.heap.size z21 30) := hS4.other HR3.out.1 (by omega)
  have HB : Hid (Below w.heap.size w W4) := hS4.below _ _ (by omega) HR3.out.2
  have HT4 : Hid (Bk W4 w3.heap.size (txc t (.slice ua ul uc) (.slice va vl vc)) 30) := hS4.bR
  cases okb with
  | false =>
    have hno : ¬ tkOk s := fun h => by have := HOK.out.2 ⟨h.2.1, h.2.2.1⟩; cases this
    have HV : Hid (tkT s = zTX ∧ tkTE s = 1) := ⟨if_neg hno, if_neg hno⟩
    clear hno HOK HF
    go_wp2_with (first
      | (refine wpList_store_tx (t := zTX) (aH := none) (aB := none) (nH := 0) (cH := 0) (nB := 0) (cB := 0) rfl _ _ rfl rfl (by rw [z21_txc]; rfl) HR.out rfl ?_; intro W6 hS6))
    have hld := run_loadVar_mid (P := Try.prog) W6 w.heap.size 0 30 (txc zTX (.slice none 0 0) (.slice none 0 0)).toList _ (fun j x hx => by rw [Nat.zero_add, hS6.bR.cell]; simpa using hx) Try.underlying30 rfl infoT
    refine bodyPost_ret (v := .tuple #[.agg (txc zTX (.slice none 0 0) (.slice none 0 0)), .int .i64 1]) ?_ rfl ⟨⟨none, 0, none, 0, by rw [HV.out.1, HV.out.2]; rfl, by rw [HV.out.1]; exact ⟨Or.nil _ _ _ _, Or.nil _ _ _ _⟩⟩, hS6.below _ _ (Nat.le_refl _) HB.out⟩
    simp only [results, Try.results11, Act.put]
    simp [asAddr, hld]
  | true =>
    obtain ⟨rfl, hOT⟩ := HF.out rfl
    have e1 : ul = (rdT (pz s).1.items).hs.length := by
      obtain ⟨_, _, e, -⟩ := hOT.h.shape
      injection e
    have e2 : vl = (rdT (pz s).1.items).bs.length := by
      obtain ⟨_, _, e, -⟩ := hOT.b.shape
      injection e
    subst e1 e2
    have hw7 : TXw (rdT (pz s).1.items) := rdT_w _ HW.out.2
    have hOT4 : OT W4 wA.heap.size (rdT (pz s).1.items) (.slice ua (rdT (pz s).1.items).hs.length uc) (.slice va (rdT (pz s).1.items).bs.length vc) := by
      have h1 := hOT.h.alloc (.cells z21 30)
      have h2 := hOT.b.alloc (.cells z21 30)
      exact ⟨hS4.or h1 (fun e => by have := (hOT.h.ge e).2; omega), hS4.or h2 (fun e => by have := (hOT.b.ge e).2; omega)⟩
    have HOT4 : Hid (OT W4 wA.heap.size (rdT (pz s).1.items) (.slice ua (rdT (pz s).1.items).hs.length uc) (.slice va (rdT (pz s).1.items).bs.length vc)) := hOT4
    have HC : Hid (Calls Try.prog 23 #[.agg (txc (rdT (pz s).1.items) (.slice ua (rdT (pz s).1.items).hs.length uc) (.slice va (rdT (pz s).1.items).bs.length vc))] W4 fun e w' => e = .returned (.int .i64 (cosE (rdT (pz s).1.items))) ∧ Below W4.heap.size W4 w') := check7 _ ua va uc vc W4 hw7 ⟨hOT4.h.su hw7.hs, hOT4.b.ss hw7.bs⟩
    have HL : Hid ((pz s).1.list = true ∧ okT (pz s).1.items = true) := HOK.out.1 rfl
    have hzz := HZ.out
    clear hOT hOT4 HF HOK hw7 HBN HR3
    by_cases hok : TxOk (rdT (pz s).1.items)
    · have hce : cosE (rdT (pz s).1.items) = 0 := if_pos hok
      have htk : tkOk s := ⟨hzz, HL.out.1, HL.out.2, hok⟩
      have HV : Hid (tkT s = rdT (pz s).1.items ∧ tkTE s = 0) := ⟨if_pos htk, if_pos htk⟩
      rw [hce] at HC
      clear hce htk hok HL hzz
      generalize rdT (pz s).1.items = T0 at *
      go_wp2_with (refine wpList_load_txG rfl _ rfl rfl HT4.out ?_)
      refine HC.out.mono ?_
      rintro e w5 ⟨rfl, hb5⟩
      have HT5 : Hid (Bk w5 w3.heap.size (txc T0 (.slice ua T0.hs.length uc) (.slice va T0.bs.length vc)) 30) := HT4.out.below hb5 HT4.out.lt
      have HR5 : Hid (Bk w5 w.heap.size z21 30) := HR.out.below hb5 HR.out.lt
      have HB5 : Hid (Below w.heap.size w w5) := HB.out.trans (hb5.mono HB.out.size)
      have HO5 : Hid (Or 24 cU w5 wA.heap.size (.slice ua T0.hs.length uc) T0.hs ∧ Or 9 cS w5 wA.heap.size (.slice va T0.bs.length vc) T0.bs) := ⟨HOT4.out.h.below' hb5, HOT4.out.b.below' hb5⟩
      clear HC hb5
      go_wp2_with (first
        | (refine wpList_load_tx rfl _ rfl rfl HT5.out ?_)
        | (refine wpList_store_tx rfl _ _ rfl rfl rfl HR5.out rfl ?_; intro W6 hS6))
      have hld := run_loadVar_mid (P := Try.prog) W6 w.heap.size 0 30 (txc T0 (.slice ua T0.hs.length uc) (.slice va T0.bs.length vc)).toList _ (fun j x hx => by rw [Nat.zero_add, hS6.bR.cell]; simpa using hx) Try.underlying30 rfl infoT
      refine bodyPost_ret (v := .tuple #[.agg (txc T0 (.slice ua T0.hs.length uc) (.slice va T0.bs.length vc)), .int .i64 0]) ?_ rfl ⟨⟨ua, uc, va, vc, by rw [HV.out.1, HV.out.2], by rw [HV.out.1]; exact ⟨(hS6.or HO5.out.1 (fun e => by have := (HO5.out.1.ge e).1; omega)).based (by omega), (hS6.or HO5.out.2 (fun e => by have := (HO5.out.2.ge e).1; omega)).based (by omega)⟩⟩, hS6.below _ _ (Nat.le_refl _) HB5.out⟩
      simp only [results, Try.results11, Act.put]
      simp [asAddr, hld]
    · have hce : cosE (rdT (pz s).1.items) = 1 := if_neg hok
      have hno : ¬ tkOk s := fun h => hok h.2.2.2
      have HV : Hid (tkT s = zTX ∧ tkTE s = 1) := ⟨if_neg hno, if_neg hno⟩
      rw [hce] at HC
      clear hce hno hok HL hzz
      generalize rdT (pz s).1.items = T0 at *
      go_wp2_with (refine wpList_load_txG rfl _ rfl rfl HT4.out ?_)
      refine HC.out.mono ?_
      rintro e w5 ⟨rfl, hb5⟩
      replace HR : Hid (Bk w5 w.heap.size z21 30) := HR.out.below hb5 HR.out.lt
      replace HB : Hid (Below w.heap.size w w5) := HB.out.trans (hb5.mono HB.out.size)
      clear HC hb5
      go_wp2_with (first
      | (refine wpList_store_tx (t := zTX) (aH := none) (aB := none) (nH := 0) (cH := 0) (nB := 0) (cB := 0) rfl _ _ rfl rfl (by rw [z21_txc]; rfl) HR.out rfl ?_; intro W6 hS6))
      have hld := run_loadVar_mid (P := Try.prog) W6 w.heap.size 0 30 (txc zTX (.slice none 0 0) (.slice none 0 0)).toList _ (fun j x hx => by rw [Nat.zero_add, hS6.bR.cell]; simpa using hx) Try.underlying30 rfl infoT
      refine bodyPost_ret (v := .tuple #[.agg (txc zTX (.slice none 0 0) (.slice none 0 0)), .int .i64 1]) ?_ rfl ⟨⟨none, 0, none, 0, by rw [HV.out.1, HV.out.2]; rfl, by rw [HV.out.1]; exact ⟨Or.nil _ _ _ _, Or.nil _ _ _ _⟩⟩, hS6.below _ _ (Nat.le_refl _) HB.out⟩
      simp only [results, Try.results11, Act.put]
      simp [asAddr, hld]
end Go.Proofs.Ytapjonmgjccpbaa
end
section
set_option linter.unusedSimpArgs false
set_option linter.unusedVariables false
namespace Go.Proofs.Ytapjonmgjccpbaa
open Go.RowKit

/-! Bytes of a number, from the top. -/
theorem top_byte (n : Nat) (h : n ≠ 0) : 0 < tlen n ∧ by8 n (tlen n - 1) ≠ 0 := by
  have hb : bl n ≠ 0 := by unfold bl; rw [if_neg h]; omega
  have ht : 0 < tlen n := by unfold tlen; omega
  refine ⟨ht, ?_⟩
  have h1 : n < 2 ^ (8 * tlen n) := (bl_iff n _).1 (by unfold tlen; omega)
  have h2 : ¬ n < 2 ^ (8 * (tlen n - 1)) := by rw [← bl_iff]; unfold tlen; omega
  have h3 : n / 2 ^ (8 * (tlen n - 1)) < 256 := by
    rw [Nat.div_lt_iff_lt_mul (Nat.two_pow_pos _)]
    have e : 8 * tlen n = 8 + 8 * (tlen n - 1) := by omega
    rw [e, Nat.pow_add] at h1
    exact h1
  have h4 : 1 ≤ n / 2 ^ (8 * (tlen n - 1)) := (Nat.le_div_iff_mul_le (Nat.two_pow_pos _)).2 (by omega)
  unfold by8
  generalize n / 2 ^ (8 * (tlen n - 1)) = q at *
  omega
theorem high_byte (n i : Nat) (h : tlen n ≤ i) : by8 n i = 0 := by
  have h1 : n < 2 ^ (8 * tlen n) := (bl_iff n _).1 (by unfold tlen; omega)
  have h2 : (2 : Nat) ^ (8 * tlen n) ≤ 2 ^ (8 * i) := Nat.pow_le_pow_right (by omega) (by omega)
  have h3 : n < 2 ^ (8 * i) := by omega
  unfold by8
  rw [Nat.div_eq_of_lt h3]
  rfl
theorem tnums_take (n i : Nat) (h : i < tlen n) : (tnums n).take (tlen n - i) = (tnums n).take (tlen n - (i + 1)) ++ [by8 n i] := by
  have e : tlen n - i = tlen n - (i + 1) + 1 := by omega
  rw [e, List.take_succ_eq_append_getElem (by rw [tnums_length]; omega)]
  congr 2
  simp only [tnums, List.getElem_map, List.getElem_range]
  congr 1
  omega
theorem own_kept {w w' : World} {b : Nat} {vs : Array Value} {t : TypeId} {row : Option Nat} (h : Bk w b vs t) (hg : w.grownBy w' row) (hl : b < w.heap.size) (hr : some b ≠ row) : Bk w' b vs t :=
  (hg.block b hl hr).trans h
end Go.Proofs.Ytapjonmgjccpbaa
end
section
set_option linter.unusedSimpArgs false
set_option linter.unusedVariables false
namespace Go.Proofs.Ytapjonmgjccpbaa
open Go.RowKit

/-! What is written is read again: mathematics of tk and raw. -/
theorem st_list (l : List UInt8) : (st l).data.toList = l := by simp [st]
theorem st_tb_size (n : Nat) : (st (tb n)).size = tlen n := by rw [st_size, tb_length]
theorem st_ext (a b c : List UInt8) : (st (a ++ b ++ c)).extract a.length (a.length + b.length) = st b := by
  apply ByteArray.ext
  apply Array.ext'
  simp [st, ByteArray.data_extract]
theorem by8_bd4 (n i : Nat) : 0 ≤ by8 n i ∧ by8 n i < 256 := by unfold by8; omega
theorem u8_of4 (q : Int) (h : 0 ≤ q ∧ q < 256) : (UInt8.ofNat q.toNat).toNat = q.toNat := by
  simp only [UInt8.toNat_ofNat']; omega
/-- The bytes of a number, from the k-th on, are what of it is below 2^8k. -/
theorem take_tail4 (n : Nat) (k : Nat) (hk : k ≤ tlen n) : takeV (((tnums n).map fun q => UInt8.ofNat q.toNat).drop (tlen n - k)) = n % 2 ^ (8 * k) := by
  have hl : ((tnums n).map fun q => UInt8.ofNat q.toNat).length = tlen n := by simp [tnums_length]
  induction k with
  | zero => rw [List.drop_of_length_le (by omega)]; simp [takeV, Nat.mod_one]
  | succ k ih =>
    have ih := ih (by omega)
    rw [List.drop_eq_getElem_cons (by omega), takeV_cons]
    have e1 : tlen n - (k + 1) + 1 = tlen n - k := by omega
    have hl2 : (((tnums n).map fun q => UInt8.ofNat q.toNat).drop (tlen n - k)).length = k := by rw [List.length_drop, hl]; omega
    rw [e1, ih, hl2]
    have e2 : (((tnums n).map fun q => UInt8.ofNat q.toNat)[tlen n - (k + 1)]'(by omega)).toNat = n / 2 ^ (8 * k) % 256 := by
      simp only [List.getElem_map]
      rw [u8_of4 _ (by simp only [tnums, List.getElem_map]; exact by8_bd4 _ _)]
      simp only [tnums, List.getElem_map, List.getElem_range]
      rw [show tlen n - 1 - (tlen n - (k + 1)) = k by omega]
      unfold by8; omega
    rw [e2]
    have e3 : 8 * (k + 1) = 8 * k + 8 := by omega
    rw [e3, Nat.pow_add, Nat.mod_mul, Nat.mul_comm, Nat.add_comm]
theorem take_txt4 (n : Nat) (hn : n < M256) : takeV (tb n) = n := by
  unfold tb
  have h := take_tail4 n (tlen n) (Nat.le_refl _)
  rw [Nat.sub_self, List.drop_zero] at h
  rw [h, Nat.mod_eq_of_lt]
  exact (bl_iff n _).1 (by unfold tlen; omega)
theorem good_txt4 (n : Nat) (hn : n < M256) : tkGood (st (tb n)) = true := by
  have h1 : (st (tb n)).size ≤ 32 := by rw [st_tb_size]; exact tlen_le n hn
  by_cases h0 : n = 0
  · subst h0; decide +kernel
  · obtain ⟨ht, hb⟩ := top_byte n h0
    have hp : 0 < (st (tb n)).size := by rw [st_tb_size]; exact ht
    unfold tkGood
    rw [st_list]; unfold tb
    have e : ((tnums n).map fun q => UInt8.ofNat q.toNat).head? = some (UInt8.ofNat (by8 n (tlen n - 1)).toNat) := by
      rw [List.head?_map, List.head?_eq_getElem?, List.getElem?_eq_getElem (by rw [tnums_length]; exact ht)]
      simp only [tnums, List.getElem_map, List.getElem_range, Option.map_some, Nat.sub_zero]
    rw [e]
    have hbd := by8_bd4 n (tlen n - 1)
    have hu := u8_of4 _ hbd
    have hne : ¬ UInt8.ofNat (by8 n (tlen n - 1)).toNat = 0 := by
      intro h
      have := congrArg UInt8.toNat h
      rw [hu] at this
      simp at this
      omega
    unfold tb at h1
    simp [h1, hne]

theorem st_hd0 (x : UInt8) (l : List UInt8) : hd0 (st (x :: l)) = x.toNat := by simp [hd0, st]
theorem tlen3 (n : Nat) (h : n ≤ 65536) : tlen n ≤ 3 := tlen_lt (n := n) (k := 3) (by omega)
theorem fin_st (L : Bool) (a b c : List UInt8) (h : a.length + b.length ≤ 65536) (hb : L = false → bare b = false) : fin (st (a ++ b ++ c)) L a.length b.length = (L, a.length, a.length + b.length, 0) := by
  unfold fin
  rw [if_neg (by omega), if_neg (by rw [st_size]; simp only [List.length_append]; omega), if_neg]
  rw [st_ext]
  unfold bareS
  rw [st_list]
  cases L
  · simp [hb rfl]
  · simp
theorem fnd_hd (L : Bool) (b c : List UInt8) (h : (hd (if L then 192 else 128) b.length).length + b.length ≤ 65536) (hb : L = false → bare b = false) :
    fnd (st (hd (if L then 192 else 128) b.length ++ b ++ c)) = (L, (hd (if L then 192 else 128) b.length).length, (hd (if L then 192 else 128) b.length).length + b.length, 0) := by
  have hF := fin_st L (hd (if L then 192 else 128) b.length) b c h hb
  have hn : b.length ≤ 65536 := by omega
  have hl3 := tlen3 _ hn
  by_cases h55 : b.length ≤ 55
  · have e : hd (if L then 192 else 128) b.length = [UInt8.ofNat ((if L then 192 else 128) + b.length)] := by unfold hd; rw [if_pos h55]
    rw [e] at hF ⊢
    have hh : hd0 (st ([UInt8.ofNat ((if L then 192 else 128) + b.length)] ++ b ++ c)) = (if L then 192 else 128) + b.length := by
      simp only [List.cons_append, List.nil_append]
      rw [st_hd0]
      cases L <;> simp [UInt8.toNat_ofNat'] <;> omega
    unfold fnd
    rw [hh, if_neg (by rw [st_size]; simp), if_neg (by cases L <;> simp <;> omega)]
    have e2 : (if 192 ≤ (if L then 192 else 128) + b.length then 192 else 128) = (if L then 192 else 128) := by cases L <;> simp <;> omega
    have e3 : decide (192 ≤ (if L then 192 else 128) + b.length) = L := by cases L <;> simp <;> omega
    rw [e2, e3, if_pos (by omega), Nat.add_sub_cancel_left]
    exact hF
  · have e : hd (if L then 192 else 128) b.length = UInt8.ofNat ((if L then 192 else 128) + 55 + tlen b.length) :: tb b.length := by unfold hd; rw [if_neg h55]
    have hp : 1 ≤ tlen b.length := (top_byte b.length (by omega)).1
    rw [e] at hF ⊢
    have hh : hd0 (st (UInt8.ofNat ((if L then 192 else 128) + 55 + tlen b.length) :: tb b.length ++ b ++ c)) = (if L then 192 else 128) + 55 + tlen b.length := by
      simp only [List.cons_append]
      rw [st_hd0]
      cases L <;> simp [UInt8.toNat_ofNat'] <;> omega
    have hx : (st (UInt8.ofNat ((if L then 192 else 128) + 55 + tlen b.length) :: tb b.length ++ b ++ c)).extract 1 (1 + tlen b.length) = st (tb b.length) := by
      have := st_ext [UInt8.ofNat ((if L then 192 else 128) + 55 + tlen b.length)] (tb b.length) (b ++ c)
      rw [tb_length] at this
      simpa using this
    have hM : b.length < M256 := by have : (65536 : Nat) < M256 := by decide +kernel
                                    omega
    have hv : tkV (st (tb b.length)) = b.length := by unfold tkV; rw [if_pos (good_txt4 _ hM), st_list, take_txt4 _ hM]
    have hg : tlGood (st (tb b.length)) = true := by unfold tlGood; rw [hv, good_txt4 _ hM]; simp; omega
    unfold fnd
    have e2 : (if 192 ≤ (if L then 192 else 128) + 55 + tlen b.length then 192 else 128) = (if L then 192 else 128) := by cases L <;> simp <;> omega
    have e3 : decide (192 ≤ (if L then 192 else 128) + 55 + tlen b.length) = L := by cases L <;> simp <;> omega
    have e4 : (if L then 192 else 128) + 55 + tlen b.length - (if L then 192 else 128) - 55 = tlen b.length := by omega
    rw [hh, if_neg (by rw [st_size]; simp), if_neg (by cases L <;> simp <;> omega), e2, e3, if_neg (by omega), e4, if_neg (by rw [st_size]; simp [tb_length]; omega), hx, if_pos hg, hv]
    have e5 : (UInt8.ofNat ((if L then 192 else 128) + 55 + tlen b.length) :: tb b.length).length = 1 + tlen b.length := by simp [tb_length]; omega
    rw [e5] at hF ⊢
    exact hF
theorem st_tail (a b : List UInt8) : (st (a ++ b)).extract a.length (st (a ++ b)).size = st b := by
  have := st_ext a b []
  rw [List.append_nil] at this
  rw [st_size, List.length_append]
  exact this
theorem tkAt_raws (f : ByteArray → TR) (hf : Prog1 f) (B : Nat) : ∀ (xs : List IT), (∀ x ∈ xs, ∀ t, x.raw.length ≤ B → f (st (x.raw ++ t)) = (x, x.raw.length, 0)) → (IT.raws xs).length ≤ B →
    ∀ (m : Nat) (pre : List UInt8), (IT.raws xs).length ≤ m → tkAt f (st (pre ++ IT.raws xs)) m pre.length = some xs
  | [], _, _, m, pre, _ => by
    have : (st (pre ++ IT.raws [])).size ≤ pre.length := by rw [st_size]; simp [IT.raws]
    cases m <;> simp only [tkAt, if_pos this]
  | x :: xs, hx, hB, m, pre, hm => by
    have e : IT.raws (x :: xs) = x.raw ++ IT.raws xs := by simp [IT.raws]
    rw [e] at hB hm ⊢
    rw [List.length_append] at hB hm
    have h1 := hx x (by simp) (IT.raws xs) (by omega)
    have hp := hf (st (x.raw ++ IT.raws xs)) (by rw [h1])
    rw [h1] at hp
    have hp1 : 1 ≤ x.raw.length := hp.1
    have ht := st_tail pre (x.raw ++ IT.raws xs)
    obtain ⟨m, rfl⟩ : ∃ k, m = k + 1 := ⟨m - 1, by omega⟩
    have hs : ¬ (st (pre ++ (x.raw ++ IT.raws xs))).size ≤ pre.length := by rw [st_size]; simp only [List.length_append]; omega
    have ih := tkAt_raws f hf B xs (fun y hy => hx y (List.mem_cons_of_mem _ hy)) (by omega) m (pre ++ x.raw) (by omega)
    rw [List.append_assoc, List.length_append] at ih
    simp only [tkAt, if_neg hs, ht, h1, if_true, ih, Option.map_some]
theorem pds_mem {xs : List IT} {x : IT} (h : x ∈ xs) : x.pd ≤ IT.pds xs := by
  induction xs with
  | nil => cases h
  | cons y ys ih =>
    simp only [IT.pds]
    rcases List.mem_cons.1 h with rfl | h
    · omega
    · have := ih h; omega
theorem st_of (t : ByteArray) : st t.data.toList = t := by apply ByteArray.ext; simp [st]
theorem tk_rawText (r : Nat) (tx : ByteArray) (t : List UInt8) (h : (traw tx.data.toList).length ≤ 65536) : tk r (st (traw tx.data.toList ++ t)) = (.mk false tx [], (traw tx.data.toList).length, 0) := by
  have key : ∀ s f k, fnd s = (false, f, k, 0) → s.extract f k = tx → k = (traw tx.data.toList).length → tk r s = (.mk false tx [], (traw tx.data.toList).length, 0) := by
    intro s f k h1 h2 h3
    subst h3
    cases r <;> simp [tk, h1, h2]
  unfold traw at h key ⊢
  by_cases hb : bare tx.data.toList = true
  · rw [if_pos hb] at h key ⊢
    have hb' := hb
    unfold bare at hb'
    generalize hl : tx.data.toList = l at *
    match l, hb', hl with
    | [x], hb', hl =>
      simp at hb'
      refine key _ 0 1 ?_ ?_ rfl
      · show fnd (st (x :: t)) = _
        unfold fnd
        rw [if_neg (by rw [st_size]; simp), if_pos (by rw [st_hd0]; exact hb')]
      · have := st_ext [] [x] t
        simp only [List.nil_append, List.length_nil, List.length_cons, Nat.zero_add] at this
        rw [this, ← hl, st_of]
    | [], hb', _ => simp at hb'
    | _ :: _ :: _, hb', _ => simp at hb'
  · rw [if_neg hb] at h key ⊢
    rw [List.length_append] at h
    refine key _ _ _ (fnd_hd false tx.data.toList t h (fun _ => by simpa using hb)) ?_ ?_
    · exact (st_ext _ _ _).trans (st_of tx)
    · rw [List.length_append]; rfl
/-- What is written of an item that may be is read as that item, whatever follows. -/
theorem tk_raw : ∀ (r : Nat), r ≤ 16 → ∀ (a : IT) (t : List UInt8), a.pd ≤ r → a.raw.length ≤ 65536 → tk r (st (a.raw ++ t)) = (a, a.raw.length, 0)
  | r, hr, .mk false tx s, t, hp, hl => by
    have hs : s = [] := by
      cases s with
      | nil => rfl
      | cons y ys => simp [IT.pd] at hp; omega
    subst hs
    simp only [IT.raw, Bool.false_eq_true, if_false] at hl ⊢
    exact tk_rawText r tx t hl
  | 0, hr, .mk true tx s, t, hp, hl => by
    simp only [IT.pd, Bool.true_eq_false, if_false] at hp
    split at hp <;> omega
  | r + 1, hr, .mk true tx s, t, hp, hl => by
    have htx : tx.size = 0 := by
      simp only [IT.pd] at hp
      by_cases h : tx.size = 0
      · exact h
      · simp [h] at hp; omega
    have htx' : tx = ⟨#[]⟩ := by
      apply ByteArray.ext
      exact Array.eq_empty_of_size_eq_zero htx
    have hpd : IT.pds s ≤ r := by simp only [IT.pd] at hp; simp [htx] at hp; exact hp
    subst htx'
    simp only [IT.raw, if_true] at hl ⊢
    rw [List.length_append] at hl
    have hf := fnd_hd true (IT.raws s) t hl (fun h => by cases h)
    have hx := st_ext (hd 192 (IT.raws s).length) (IT.raws s) t
    have hall : tkAll (tk r) (st (IT.raws s)) = some s := by
      have := tkAt_raws (tk r) (tk_prog r) 65536 s (fun x hx t hxl => tk_raw r (by omega) x t (Nat.le_trans (pds_mem hx) hpd) hxl) (by omega) (IT.raws s).length [] (Nat.le_refl _)
      unfold tkAll
      rw [st_size]
      simpa using this
    simp only [if_true] at hf
    unfold tk
    rw [hf]
    simp only [ne_eq, not_true_eq_false, if_false, Bool.true_eq_false, hx, hall, List.length_append]
end Go.Proofs.Ytapjonmgjccpbaa
end
section
set_option linter.unusedSimpArgs false
set_option linter.unusedVariables false
namespace Go.Proofs.Ytapjonmgjccpbaa
open Go.RowKit

/-! What is cut off is told as cut off. -/
theorem fin_cut (s : ByteArray) (L : Bool) (f n : Nat) (h : f + n ≤ 65536) (hs : s.size < f + n) : fin s L f n = (false, 0, 0, 7) := by
  unfold fin
  rw [if_neg (by omega), if_pos hs]
theorem fnd_cut (L : Bool) (b : List UInt8) (j : Nat) (h : (hd (if L then 192 else 128) b.length).length + b.length ≤ 65536) (hj : j < (hd (if L then 192 else 128) b.length ++ b).length) :
    fnd (st ((hd (if L then 192 else 128) b.length ++ b).take j)) = (false, 0, 0, 7) := by
  have hn : b.length ≤ 65536 := by omega
  have hl3 := tlen3 _ hn
  rw [List.length_append] at hj
  cases j with
  | zero =>
    unfold fnd
    rw [if_pos (by rw [st_size]; simp)]
  | succ j =>
    by_cases h55 : b.length ≤ 55
    · have e : hd (if L then 192 else 128) b.length = [UInt8.ofNat ((if L then 192 else 128) + b.length)] := by unfold hd; rw [if_pos h55]
      rw [e] at h hj ⊢
      simp only [List.cons_append, List.nil_append, List.take_succ_cons, List.length_cons, List.length_nil] at h hj ⊢
      have hh : hd0 (st (UInt8.ofNat ((if L then 192 else 128) + b.length) :: b.take j)) = (if L then 192 else 128) + b.length := by
        rw [st_hd0]
        cases L <;> simp [UInt8.toNat_ofNat'] <;> omega
      unfold fnd
      have e2 : (if 192 ≤ (if L then 192 else 128) + b.length then 192 else 128) = (if L then 192 else 128) := by cases L <;> simp <;> omega
      rw [hh, if_neg (by rw [st_size]; simp), if_neg (by cases L <;> simp <;> omega), e2, if_pos (by omega), Nat.add_sub_cancel_left]
      exact fin_cut _ _ _ _ (by omega) (by rw [st_size, List.length_cons, List.length_take]; omega)
    · have e : hd (if L then 192 else 128) b.length = UInt8.ofNat ((if L then 192 else 128) + 55 + tlen b.length) :: tb b.length := by unfold hd; rw [if_neg h55]
      have hp : 1 ≤ tlen b.length := (top_byte b.length (by omega)).1
      rw [e] at h hj ⊢
      simp only [List.cons_append, List.take_succ_cons, List.length_cons, tb_length] at h hj ⊢
      have hh : hd0 (st (UInt8.ofNat ((if L then 192 else 128) + 55 + tlen b.length) :: (tb b.length ++ b).take j)) = (if L then 192 else 128) + 55 + tlen b.length := by
        rw [st_hd0]
        cases L <;> simp [UInt8.toNat_ofNat'] <;> omega
      have hM : b.length < M256 := by have : (65536 : Nat) < M256 := by decide +kernel
                                      omega
      have hv : tkV (st (tb b.length)) = b.length := by unfold tkV; rw [if_pos (good_txt4 _ hM), st_list, take_txt4 _ hM]
      have hg : tlGood (st (tb b.length)) = true := by unfold tlGood; rw [hv, good_txt4 _ hM]; simp; omega
      unfold fnd
      have e2 : (if 192 ≤ (if L then 192 else 128) + 55 + tlen b.length then 192 else 128) = (if L then 192 else 128) := by cases L <;> simp <;> omega
      have e4 : (if L then 192 else 128) + 55 + tlen b.length - (if L then 192 else 128) - 55 = tlen b.length := by omega
      rw [hh, if_neg (by rw [st_size]; simp), if_neg (by cases L <;> simp <;> omega), e2, if_neg (by omega), e4]
      by_cases hc : j < tlen b.length
      · rw [if_pos (by rw [st_size, List.length_cons, List.length_take]; simp only [List.length_append, tb_length]; omega)]
      · have hx : (st (UInt8.ofNat ((if L then 192 else 128) + 55 + tlen b.length) :: (tb b.length ++ b).take j)).extract 1 (1 + tlen b.length) = st (tb b.length) := by
          have := st_ext [UInt8.ofNat ((if L then 192 else 128) + 55 + tlen b.length)] (tb b.length) (b.take (j - tlen b.length))
          rw [tb_length] at this
          rw [List.take_append, tb_length, List.take_of_length_le (by rw [tb_length]; omega)]
          simpa using this
        rw [if_neg (by rw [st_size, List.length_cons, List.length_take]; simp only [List.length_append, tb_length]; omega), hx, if_pos hg, hv]
        exact fin_cut _ _ _ _ (by omega) (by rw [st_size, List.length_cons, List.length_take]; simp only [List.length_append, tb_length]; omega)
/-- What of an item's bytes is cut off anywhere is told as cut off. -/
theorem tk_cut (r : Nat) (a : IT) (j : Nat) (hl : a.raw.length ≤ 65536) (hj : j < a.raw.length) : tk r (st (a.raw.take j)) = (zIT, 0, 7) := by
  have key : ∀ s, fnd s = (false, 0, 0, 7) → tk r s = (zIT, 0, 7) := by
    intro s h
    cases r <;> simp [tk, h]
  apply key
  obtain ⟨l, tx, s⟩ := a
  cases l with
  | true =>
    simp only [IT.raw, if_true] at hl hj ⊢
    rw [List.length_append] at hl
    exact fnd_cut true (IT.raws s) j hl hj
  | false =>
    simp only [IT.raw, Bool.false_eq_true, if_false] at hl hj ⊢
    unfold traw at hl hj ⊢
    by_cases hb : bare tx.data.toList = true
    · rw [if_pos hb] at hl hj ⊢
      unfold bare at hb
      simp only [Bool.and_eq_true, beq_iff_eq] at hb
      obtain rfl : j = 0 := by omega
      unfold fnd
      rw [if_pos (by rw [st_size]; simp)]
    · rw [if_neg hb] at hl hj ⊢
      rw [List.length_append] at hl
      exact fnd_cut false tx.data.toList j hl hj
end Go.Proofs.Ytapjonmgjccpbaa
end

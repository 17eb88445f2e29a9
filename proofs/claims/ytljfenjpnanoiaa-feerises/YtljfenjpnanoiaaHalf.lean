import Derived.Test.YtljfenjpnanoiaaRMulM
import Derived.Test.YtljfenjpnanoiaaBits
import Derived.Test.YtljfenjpnanoiaaBack2
set_option linter.unusedSimpArgs false
set_option linter.unusedVariables false
namespace Go.Proofs.Ytljfenjpnanoiaa
open Go.RowKit Go.Shelf
attribute [local go_sem] Oper.semAt_some

/-! Half a number, limb by limb, from the highest on. -/
def hOdd (N : Nat) : List K4 → Int
  | [] => 0
  | x :: _ => lb N x.1 % 2
/-- What lies in limb p of the half when the limbs of 'l' (the last one first) are done. -/
def hDown (N : Nat) : List K4 → Nat → Int
  | [], _ => 0
  | x :: t, p => if p = x.1 then lb N x.1 / 2 + hOdd N t * 9223372036854775808 else hDown N t p
theorem hOdd_bd (N : Nat) (l : List K4) : 0 ≤ hOdd N l ∧ hOdd N l ≤ 1 := by
  cases l with
  | nil => simp [hOdd]
  | cons x t => simp only [hOdd]; omega
theorem half_or (N k : Nat) (o : Int) (ho : 0 ≤ o ∧ o ≤ 1) : Go.bits BinOp.or IntKind.u64 (lb N k / 2) (IntKind.u64.wrap (o * 9223372036854775808)) = lb N k / 2 + o * 9223372036854775808 := by
  have hb := lb_bd N k
  obtain ⟨a, ha⟩ := Int.eq_ofNat_of_zero_le (show 0 ≤ lb N k / 2 by omega)
  obtain ⟨c, rfl⟩ := Int.eq_ofNat_of_zero_le ho.1
  rw [ha]
  have e : IntKind.u64.wrap ((c : Int) * 9223372036854775808) = ((c * 2 ^ 63 : Nat) : Int) := by rw [IntKind.wrap_u64]; omega
  rw [e, bits_or_u64_nat a (c * 2 ^ 63) (by omega) (by omega), or_field a c 63 1 (by omega) (by rw [Nat.div_eq_of_lt (by omega)])]
  omega
theorem half_val (N p : Nat) (hN : N < M256) (hp : p < 4) : hDown N (dn 4).reverse p = lb (N / 2) p := by
  have hl := lb_lim N
  have hv := lb_val N hN
  have key : val (lb N 0 / 2 + lb N 1 % 2 * 9223372036854775808) (lb N 1 / 2 + lb N 2 % 2 * 9223372036854775808) (lb N 2 / 2 + lb N 3 % 2 * 9223372036854775808) (lb N 3 / 2) = ((N / 2 : Nat) : Int) := by
    unfold val at *; omega
  obtain ⟨e0, e1, e2, e3⟩ := lb_of (N / 2) _ _ _ _ (by unfold Lim at *; omega) key
  rw [show (dn 4).reverse = [⟨0, by omega⟩, ⟨1, by omega⟩, ⟨2, by omega⟩, ⟨3, by omega⟩] from rfl]
  have : p = 0 ∨ p = 1 ∨ p = 2 ∨ p = 3 := by omega
  rcases this with rfl | rfl | rfl | rfl
  · simp [hDown, hOdd]; exact e0
  · simp [hDown, hOdd]; exact e1
  · simp [hDown, hOdd]; exact e2
  · simp [hDown, hOdd]; exact e3
theorem zero_cell {w : World} {B : Nat} (h : Bk w B (A4 0 0 0 0) 25) (j : Nat) (hj : j < 4) : w.cell? ⟨B, j, none⟩ = some (.int .u64 0) := by
  rw [h.cell]
  have : j = 0 ∨ j = 1 ∨ j = 2 ∨ j = 3 := by omega
  rcases this with rfl | rfl | rfl | rfl <;> rfl
theorem cellO {w : World} {a b : Addr} {v : Value} (h : a ≠ b) : (w.setCell a v).cell? b = w.cell? b := World.cell?_setCell_other _ _ _ _ h
theorem setDef {W : World} {D : Nat} {o : Obj} (h : W.heap[D]? = some o) (hc : o.isCells = false) (a : Addr) (v : Value) : (W.setCell a v).heap[D]? = some o := (KeepsOthers.setCell W a v).same D o h hc
/-- A block of four limbs, written limb by limb. -/
theorem set4_cells {W : World} {b : Nat} {u0 u1 u2 u3 : Value} (v0 v1 v2 v3 : Value) (h0 : W.cell? ⟨b, 0, none⟩ = some u0) (h1 : W.cell? ⟨b, 1, none⟩ = some u1) (h2 : W.cell? ⟨b, 2, none⟩ = some u2) (h3 : W.cell? ⟨b, 3, none⟩ = some u3) :
    ((((W.setCell ⟨b, 0, none⟩ v0).setCell ⟨b, 1, none⟩ v1).setCell ⟨b, 2, none⟩ v2).setCell ⟨b, 3, none⟩ v3).cell? ⟨b, 0, none⟩ = some v0 ∧ ((((W.setCell ⟨b, 0, none⟩ v0).setCell ⟨b, 1, none⟩ v1).setCell ⟨b, 2, none⟩ v2).setCell ⟨b, 3, none⟩ v3).cell? ⟨b, 1, none⟩ = some v1 ∧ ((((W.setCell ⟨b, 0, none⟩ v0).setCell ⟨b, 1, none⟩ v1).setCell ⟨b, 2, none⟩ v2).setCell ⟨b, 3, none⟩ v3).cell? ⟨b, 2, none⟩ = some v2 ∧ ((((W.setCell ⟨b, 0, none⟩ v0).setCell ⟨b, 1, none⟩ v1).setCell ⟨b, 2, none⟩ v2).setCell ⟨b, 3, none⟩ v3).cell? ⟨b, 3, none⟩ = some v3 := by
  refine ⟨?_, ?_, ?_, ?_⟩
  · rw [cellO (by simp), cellO (by simp), cellO (by simp), World.cell?_setCell_same' _ _ _ (by rw [h0]; rfl)]
  · rw [cellO (by simp), cellO (by simp), World.cell?_setCell_same' _ _ _ (by rw [cellO (by simp), h1]; rfl)]
  · rw [cellO (by simp), World.cell?_setCell_same' _ _ _ (by rw [cellO (by simp), cellO (by simp), h2]; rfl)]
  · rw [World.cell?_setCell_same' _ _ _ (by rw [cellO (by simp), cellO (by simp), cellO (by simp), h3]; rfl)]
set_option maxRecDepth 100000 in
set_option maxHeartbeats 2000000 in
theorem half (N : Nat) (hN : N < M256) (w : World) :
    Calls Try.prog 46 #[V N] w fun e W' => e = .returned (V (N / 2)) ∧ Below w.heap.size w W' := by
  have HN : Hid (N < M256) := hN
  clear hN
  refine (callsIn_wide (n := 6)).1 ?_
  refine callsIn_of_wp_marks Try.func46 rfl trivial ?_ rfl
  simp only [Try.ntmps46, List.size_toArray, List.length_cons, List.length_nil, Nat.reduceAdd, Nat.reduceSub, Array.replicate_succ, Array.replicate_zero, List.push_toArray, List.append_toArray, List.nil_append, List.cons_append]
  gi_wp2_with (refine ⟨trivial, ?_⟩; gi_at_call 35; refine (back_in _ _ trivial rfl _ _ _ _).mono ?_; rintro e w' ⟨rfl, rfl⟩)
  have bA := Bk.new w (A4 (lb N 0) (lb N 1) (lb N 2) (lb N 3)) 25
  have bR := Bk.new (w.alloc (.cells (A4 (lb N 0) (lb N 1) (lb N 2) (lb N 3)) 25)) (A4 0 0 0 0) 25
  have bD := Bk.new ((w.alloc (.cells (A4 (lb N 0) (lb N 1) (lb N 2) (lb N 3)) 25)).alloc (.cells (A4 0 0 0 0) 25)) (A4 0 0 0 0) 25
  have bO := Bk.new (((w.alloc (.cells (A4 (lb N 0) (lb N 1) (lb N 2) (lb N 3)) 25)).alloc (.cells (A4 0 0 0 0) 25)).alloc (.cells (A4 0 0 0 0) 25)) #[.int .u64 0] 23
  have bN := Bk.new ((((w.alloc (.cells (A4 (lb N 0) (lb N 1) (lb N 2) (lb N 3)) 25)).alloc (.cells (A4 0 0 0 0) 25)).alloc (.cells (A4 0 0 0 0) 25)).alloc (.cells #[.int .u64 0] 23)) #[.slice (some ⟨w.heap.size, 0, none⟩) 4 4] 57
  simp only [World.size_alloc] at bR bD bO bN
  have hB0 : Below w.heap.size w (((((w.alloc (.cells (A4 (lb N 0) (lb N 1) (lb N 2) (lb N 3)) 25)).alloc (.cells (A4 0 0 0 0) 25)).alloc (.cells (A4 0 0 0 0) 25)).alloc (.cells #[.int .u64 0] 23)).alloc (.cells #[.slice (some ⟨w.heap.size, 0, none⟩) 4 4] 57)) := (((((Below.refl _ w).alloc (Nat.le_refl _) _).alloc (by simp) _).alloc (by simp; omega) _).alloc (by simp; omega) _).alloc (by simp; omega) _
  refine wpIn_rangeFunc_ownG rfl (by omega) (gf := 47) (lb := #[.pointer (some ⟨w.heap.size + 1 + 1 + 1 + 1, 0, none⟩)]) rfl trivial (enters_of Try.func47 (by kernel_rfl) rfl)
    (backk_stops _ _ trivial rfl (by omega) (w.heap.size + 1 + 1 + 1 + 1) w.heap.size N _ (by simp; omega) (by simp) (bN.cell 0) (fun j hj => lb_cells ((((bA.alloc _).alloc _).alloc _).alloc _) j hj)) Keep2.trans (keep2_b (by simp; omega) (by simp)) (Below.refl _ _) (fun _ => rfl)
    (fun pre W => ((∀ p, p < 4 → W.cell? ⟨w.heap.size + 1 + 1, p, none⟩ = some (.int .u64 (hDown N pre.reverse p)) ∧ W.frozen? ⟨w.heap.size + 1 + 1, p, none⟩ = false) ∧ (W.cell? ⟨w.heap.size + 1 + 1 + 1, 0, none⟩ = some (.int .u64 (hOdd N pre.reverse)) ∧ W.frozen? ⟨w.heap.size + 1 + 1 + 1, 0, none⟩ = false) ∧ (∀ p, p < 4 → W.cell? ⟨w.heap.size + 1, p, none⟩ = some (.int .u64 0) ∧ W.frozen? ⟨w.heap.size + 1, p, none⟩ = false)) ∧ Below w.heap.size w W)
    (fun _ _ _ => False)
    (OwnFrom.and (Own.from (fun s A B row hs hg hr => ⟨fun p hp => ⟨cell_kept (hs.1 p hp).1 hg hr, (frozen_kept (hs.1 p hp).1 hg hr).trans (hs.1 p hp).2⟩, ⟨cell_kept hs.2.1.1 hg hr, (frozen_kept hs.2.1.1 hg hr).trans hs.2.1.2⟩, fun p hp => ⟨cell_kept (hs.2.2 p hp).1 hg hr, (frozen_kept (hs.2.2 p hp).1 hg hr).trans (hs.2.2 p hp).2⟩⟩) _) (ownFrom_below (Nat.le_refl _) (by simp; omega)))
    (fun _ _ _ _ _ hs _ _ => hs)
    ⟨⟨fun p hp => ⟨zero_cell ((bD.alloc _).alloc _) p hp, ((bD.alloc _).alloc _).frozen p⟩, ⟨(bO.alloc _).cell 0, (bO.alloc _).frozen 0⟩, fun p hp => ⟨zero_cell (((bR.alloc _).alloc _).alloc _) p hp, (((bR.alloc _).alloc _).alloc _).frozen p⟩⟩, hB0⟩
    (fun x => { tmps := #[V N, .pointer (some ⟨w.heap.size, 0, none⟩), .pointer (some ⟨w.heap.size + 1, 0, none⟩), .pointer (some ⟨w.heap.size + 1 + 1, 0, none⟩), .pointer (some ⟨w.heap.size + 1 + 1 + 1, 0, none⟩), .int .i64 (x.1 : Int), .int .u64 (lb N x.1), .slice (some ⟨w.heap.size, 0, none⟩) 4 4, .func (.func 47) #[] #[.pointer (some ⟨w.heap.size + 1 + 1 + 1 + 1, 0, none⟩)], .int .i64 (x.1 : Int), .int .u64 (lb N x.1), undef, undef, undef, undef, undef, undef, undef, undef, undef, undef], defers := [] }) ?assign ?body ?done ?stop
  case assign =>
    intro l x W K hK
    gi_wp2
    exact hK
  case body =>
    rintro l pre x W ⟨⟨hd, ⟨ho, hof⟩, hr⟩, hB⟩ _
    have hx4 := x.2
    have hdx := (hd x.1 x.2).1
    have hdf := (hd x.1 x.2).2
    have HD := hd
    have HR := hr
    have hOr := half_or N x.1 (hOdd N pre.reverse) (hOdd_bd N _)
    have HOr : Hid (_ = _) := hOr
    have hAn := and_one_u64 (lb N x.1) (lb_bd N x.1).1 (lb_ub N x.1)
    have HAn : Hid (_ = _) := hAn
    have HD' : Hid (∀ p, p < 4 → W.cell? ⟨w.heap.size + 1 + 1, p, none⟩ = some (.int .u64 (hDown N pre.reverse p)) ∧ W.frozen? ⟨w.heap.size + 1 + 1, p, none⟩ = false) := hd
    have HR' : Hid (∀ p, p < 4 → W.cell? ⟨w.heap.size + 1, p, none⟩ = some (.int .u64 0) ∧ W.frozen? ⟨w.heap.size + 1, p, none⟩ = false) := hr
    clear hd hr HD HR hOr hAn
    gi_wp2
    rw [HOr.out, HAn.out]
    refine ⟨((KeepsOthers.setCell _ _ _).from _).trans ((KeepsOthers.setCell _ _ _).from _), ((Keep2.refl _ _ _).set (by simp; omega) (by simp; omega) _).set (by simp; omega) (by simp) _, ⟨?_, ?_, ?_⟩, (hB.setCell (by simp; omega) _).setCell (by simp; omega) _⟩
    · intro p hp
      refine ⟨?_, by simpa using (HD'.out p hp).2⟩
      rw [cellO (by simp), List.reverse_append]
      by_cases h : p = x.1
      · subst h
        rw [World.cell?_setCell_same' _ _ _ (by rw [hdx]; rfl)]
        simp [hDown]
      · rw [cellO (by simp <;> omega), (HD'.out p hp).1]
        simp [hDown, h]
    · refine ⟨?_, by simpa using hof⟩
      rw [World.cell?_setCell_same' _ _ _ (by rw [cellO (by simp), ho]; rfl), List.reverse_append]
      simp [hOdd]
    · intro p hp
      refine ⟨?_, by simpa using (HR'.out p hp).2⟩
      rw [cellO (by simp <;> omega), cellO (by simp)]
      exact (HR'.out p hp).1
  case done =>
    rintro D ys W hD rfl ⟨⟨hd, ⟨ho, hof⟩, hr⟩, hB⟩ hK
    have hd0 := (hd 0 (by omega)).1
    have hd1 := (hd 1 (by omega)).1
    have hd2 := (hd 2 (by omega)).1
    have hd3 := (hd 3 (by omega)).1
    rw [half_val N _ HN.out (by omega)] at hd0 hd1 hd2 hd3
    have hr0 := (hr 0 (by omega)).1
    have hr1 := (hr 1 (by omega)).1
    have hr2 := (hr 2 (by omega)).1
    have hr3 := (hr 3 (by omega)).1
    have hf0 := (hr 0 (by omega)).2
    have hf1 := (hr 1 (by omega)).2
    have hf2 := (hr 2 (by omega)).2
    have hf3 := (hr 3 (by omega)).2
    clear hd hr
    gi_wp2
    have hK' := setDef (setDef (setDef (setDef hK rfl ⟨w.heap.size + 1, 0, none⟩ (.int .u64 (lb (N / 2) 0))) rfl ⟨w.heap.size + 1, 1, none⟩ (.int .u64 (lb (N / 2) 1))) rfl ⟨w.heap.size + 1, 2, none⟩ (.int .u64 (lb (N / 2) 2))) rfl ⟨w.heap.size + 1, 3, none⟩ (.int .u64 (lb (N / 2) 3))
    obtain ⟨c0, c1, c2, c3⟩ := set4_cells (.int .u64 (lb (N / 2) 0)) (.int .u64 (lb (N / 2) 1)) (.int .u64 (lb (N / 2) 2)) (.int .u64 (lb (N / 2) 3)) hr0 hr1 hr2 hr3
    have hB4 := (((hB.setCell (p := ⟨w.heap.size + 1, 0, none⟩) (by simp) (.int .u64 (lb (N / 2) 0))).setCell (p := ⟨w.heap.size + 1, 1, none⟩) (by simp) (.int .u64 (lb (N / 2) 1))).setCell (p := ⟨w.heap.size + 1, 2, none⟩) (by simp) (.int .u64 (lb (N / 2) 2))).setCell (p := ⟨w.heap.size + 1, 3, none⟩) (by simp) (.int .u64 (lb (N / 2) 3))
    refine ⟨by simp, .inl ⟨_, _, rfl, run_takeDeferred hK', ?_⟩⟩
    have e0 := cell_kept c0 (grownBy_putObj' _ D (.deferred none)) (fun r e => by cases e; exact ⟨_, hK', rfl⟩)
    have e1 := cell_kept c1 (grownBy_putObj' _ D (.deferred none)) (fun r e => by cases e; exact ⟨_, hK', rfl⟩)
    have e2 := cell_kept c2 (grownBy_putObj' _ D (.deferred none)) (fun r e => by cases e; exact ⟨_, hK', rfl⟩)
    have e3 := cell_kept c3 (grownBy_putObj' _ D (.deferred none)) (fun r e => by cases e; exact ⟨_, hK', rfl⟩)
    refine ⟨V (N / 2), ?_, rfl, hB4.trans (belowK_b (w := w) (Nat.le_refl _) _ D _ _ (by simp at hD; omega) hK' rfl rfl)⟩
    simp [results, Try.f46, go_sem, e0, e1, e2, e3]
    try rfl
  case stop =>
    rintro D c pre W _ _ h _
    exact h.elim
end Go.Proofs.Ytljfenjpnanoiaa

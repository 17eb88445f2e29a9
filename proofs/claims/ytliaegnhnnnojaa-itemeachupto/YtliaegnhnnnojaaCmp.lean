import Derived.Test.YtliaegnhnnnojaaBits
set_option linter.unusedSimpArgs false
set_option linter.unusedVariables false
namespace Go.Proofs.Ytliaegnhnnnojaa
open Go.RowKit Go.Shelf
attribute [local go_sem] Oper.semAt_some

theorem dn_alk {N M j : Nat} (hj : j ≤ 4) (h : ∀ p ∈ dn j, lb N p.1 = lb M p.1) : Alk (4 - j) N M := by
  have one : ∀ i, 4 - j ≤ i → i < 4 → lb N i = lb M i := by
    intro i h1 h2
    exact h ⟨i, h2⟩ (by simp only [dn, List.mem_map, List.mem_range]; exact ⟨3 - i, by omega, by ext; simp; omega⟩)
  exact ⟨fun h => one 0 h (by omega), fun h => one 1 h (by omega), fun h => one 2 h (by omega), fun h => one 3 h (by omega)⟩
set_option maxRecDepth 100000 in
set_option maxHeartbeats 2000000 in
theorem cmp (N M : Nat) (hN : N < M256) (hM : M < M256) (w : World) :
    Calls Try.prog 60 #[V N, V M] w fun e W' => e = .returned (.int .i64 (cmpV N M)) ∧ Below w.heap.size w W' := by
  have HN : Hid (N < M256) := hN
  have HM : Hid (M < M256) := hM
  clear hN hM
  refine (callsIn_wide (n := 6)).1 ?_
  refine callsIn_of_wp_marks Try.func60 rfl trivial ?_ rfl
  simp only [Try.ntmps60, List.size_toArray, List.length_cons, List.length_nil, Nat.reduceAdd, Nat.reduceSub, Array.replicate_succ, Array.replicate_zero, List.push_toArray, List.append_toArray, List.nil_append, List.cons_append]
  gi_wp2_with (refine ⟨trivial, ?_⟩; gi_at_call 67; refine (back_in _ _ trivial rfl _ _ _ _).mono ?_; rintro e w' ⟨rfl, rfl⟩)
  have bA := Bk.new w (A4 (lb N 0) (lb N 1) (lb N 2) (lb N 3)) 93
  have bB := Bk.new (w.alloc (.cells (A4 (lb N 0) (lb N 1) (lb N 2) (lb N 3)) 93)) (A4 (lb M 0) (lb M 1) (lb M 2) (lb M 3)) 93
  have bR := Boxed.new ((w.alloc (.cells (A4 (lb N 0) (lb N 1) (lb N 2) (lb N 3)) 93)).alloc (.cells (A4 (lb M 0) (lb M 1) (lb M 2) (lb M 3)) 93)) 3 (.int .i64 0)
  have bN := Bk.new (((w.alloc (.cells (A4 (lb N 0) (lb N 1) (lb N 2) (lb N 3)) 93)).alloc (.cells (A4 (lb M 0) (lb M 1) (lb M 2) (lb M 3)) 93)).alloc (.cells #[.int .i64 0] 3)) #[.slice (some ⟨w.heap.size, 0, none⟩) 4 4] 107
  rw [World.size_alloc] at bB
  rw [World.size_alloc, World.size_alloc] at bR
  rw [World.size_alloc, World.size_alloc, World.size_alloc] at bN
  have hB0 : Below w.heap.size w ((((w.alloc (.cells (A4 (lb N 0) (lb N 1) (lb N 2) (lb N 3)) 93)).alloc (.cells (A4 (lb M 0) (lb M 1) (lb M 2) (lb M 3)) 93)).alloc (.cells #[.int .i64 0] 3)).alloc (.cells #[.slice (some ⟨w.heap.size, 0, none⟩) 4 4] 107)) := ((((Below.refl _ w).alloc (Nat.le_refl _) _).alloc (by simp) _).alloc (by simp; omega) _).alloc (by simp; omega) _
  refine wpIn_rangeFunc_ownG rfl (by omega) (gf := 70) (lb := #[.pointer (some ⟨w.heap.size + 1 + 1 + 1, 0, none⟩)]) rfl trivial (enters_of Try.func70 (by kernel_rfl) rfl)
    (back_stops _ _ trivial rfl (by omega) (w.heap.size + 1 + 1 + 1) (w.heap.size + 4) w.heap.size N _ (by omega) (by omega) (by simp) (bN.cell 0) (fun j hj => lb_cells (((bA.alloc _).alloc _).alloc _) j hj)) belowK_t (belowK_b (by simp)) (Below.refl _ _) (fun _ => rfl)
    (fun pre W => ((∀ p ∈ pre, lb N p.1 = lb M p.1) ∧ (∀ j, j < 4 → W.cell? ⟨w.heap.size + 1, j, none⟩ = some (.int .u64 (lb M j))) ∧ W.cell? ⟨w.heap.size + 1 + 1, 0, none⟩ = some (.int .i64 0) ∧ W.frozen? ⟨w.heap.size + 1 + 1, 0, none⟩ = false) ∧ Below w.heap.size w W)
    (fun c pre W => (c = .ret ∧ ∃ ini last, pre = ini ++ [last] ∧ (∀ p ∈ ini, lb N p.1 = lb M p.1) ∧ ((lb N last.1 < lb M last.1 ∧ W.cell? ⟨w.heap.size + 1 + 1, 0, none⟩ = some (.int .i64 (-1))) ∨ (lb M last.1 < lb N last.1 ∧ W.cell? ⟨w.heap.size + 1 + 1, 0, none⟩ = some (.int .i64 1)))) ∧ Below w.heap.size w W)
    (OwnFrom.and (Own.from (fun s A B row hs hg hr => ⟨hs.1, fun j hj => cell_kept (hs.2.1 j hj) hg hr, cell_kept hs.2.2.1 hg hr, (frozen_kept hs.2.2.1 hg hr).trans hs.2.2.2⟩) _) (ownFrom_below (Nat.le_refl _) (by simp; omega)))
    (fun c => OwnFrom.and (Own.from (fun s A B row hs hg hr => by obtain ⟨hc, ini, last, e1, e2, e3⟩ := hs; exact ⟨hc, ini, last, e1, e2, e3.elim (fun h => .inl ⟨h.1, cell_kept h.2 hg hr⟩) (fun h => .inr ⟨h.1, cell_kept h.2 hg hr⟩)⟩) _) (ownFrom_below (Nat.le_refl _) (by simp; omega)))
    ⟨⟨by simp, fun j hj => lb_cells ((bB.alloc _).alloc _) j hj, (bR.alloc _).cell, (bR.alloc _).frozen⟩, hB0⟩
    (fun x => { tmps := #[V N, V M, .pointer (some ⟨w.heap.size, 0, none⟩), .pointer (some ⟨w.heap.size + 1, 0, none⟩), .pointer (some ⟨w.heap.size + 1 + 1, 0, none⟩), .int .i64 (x.1 : Int), .int .u64 (lb N x.1), .slice (some ⟨w.heap.size, 0, none⟩) 4 4, .func (.func 70) #[] #[.pointer (some ⟨w.heap.size + 1 + 1 + 1, 0, none⟩)], .int .i64 (x.1 : Int), .int .u64 (lb N x.1), undef, undef, undef, undef, undef, undef, undef, undef, undef, undef], defers := [] }) ?assign ?body ?done ?stop
  case assign =>
    intro l x W K hK
    gi_wp2
    exact hK
  case body =>
    rintro l pre x W ⟨⟨hp, hbc, hcr, hfr⟩, hB⟩ _
    have hx4 := x.2
    have hbx := hbc x.1 x.2
    have HB : Hid (∀ j, j < 4 → W.cell? ⟨w.heap.size + 1, j, none⟩ = some (.int .u64 (lb M j))) := hbc
    clear hbc
    gi_wp2
    · have hlt : lb N x.1 < lb M x.1 := by assumption
      exact ⟨(KeepsOthers.setCell _ _ _).from _, ⟨rfl, pre, x, rfl, hp, .inl ⟨hlt, World.cell?_setCell_same' _ _ _ (by rw [hcr]; rfl)⟩⟩, hB.setCell (p := ⟨w.heap.size + 1 + 1, 0, none⟩) (by simp; omega) _⟩
    · have hlt : lb M x.1 < lb N x.1 := by assumption
      exact ⟨(KeepsOthers.setCell _ _ _).from _, ⟨rfl, pre, x, rfl, hp, .inr ⟨hlt, World.cell?_setCell_same' _ _ _ (by rw [hcr]; rfl)⟩⟩, hB.setCell (p := ⟨w.heap.size + 1 + 1, 0, none⟩) (by simp; omega) _⟩
    · have h1 : lb M x.1 ≤ lb N x.1 := by assumption
      have h2 : lb N x.1 ≤ lb M x.1 := by assumption
      exact ⟨KeepsFrom.refl _ _, Below.refl _ _, ⟨fun p hp' => (List.mem_append.1 hp').elim (hp p) (fun e => by simp at e; subst e; omega), HB.out, hcr, hfr⟩, hB⟩
  case done =>
    rintro D ys W hD rfl ⟨⟨hne, hbc, hcr, hfr⟩, hB⟩ hK
    clear hbc
    gi_wp2
    have hK' := (KeepsOthers.setCell W ⟨w.heap.size + 1 + 1, 0, none⟩ (.int .i64 0)).same D _ hK rfl
    refine ⟨by simp, .inl ⟨_, _, rfl, run_takeDeferred hK', ?_⟩⟩
    have hc5 := cell_kept (World.cell?_setCell_same' W ⟨w.heap.size + 1 + 1, 0, none⟩ (.int .i64 0) (by rw [hcr]; rfl)) (grownBy_putObj' _ D (.deferred none)) (fun r e => by cases e; exact ⟨_, hK', rfl⟩)
    have hsame := alkSame HN.out HM.out (dn_alk (Nat.le_refl 4) hne)
    refine ⟨.int .i64 0, ?_, by rw [← hsame, cmpV_same], (hB.setCell (p := ⟨w.heap.size + 1 + 1, 0, none⟩) (by simp; omega) _).trans (belowK_b (w := w) (Nat.le_refl _) _ D _ _ (by simp at hD; omega) hK' rfl rfl)⟩
    simp [results, Try.f60, go_sem, hc5]
  case stop =>
    rintro D c pre W hD ⟨k, hk, rfl⟩ ⟨⟨rfl, ini, last, e1, e2, e3⟩, hB⟩ hK
    gi_wp2
    refine ⟨by simp, .inl ⟨_, _, rfl, run_takeDeferred hK, ?_⟩⟩
    obtain ⟨j, rfl, rfl, hl⟩ := dn_last hk e1
    have ha := dn_alk (by omega) e2
    have e : 4 - j = last.1 + 1 := by omega
    rw [e] at ha
    rcases e3 with ⟨h1, h2⟩ | ⟨h1, h2⟩
    · have hc5 := cell_kept h2 (grownBy_putObj' _ D (.deferred none)) (fun r e => by cases e; exact ⟨_, hK, rfl⟩)
      refine ⟨.int .i64 (-1), ?_, by rw [cmpV_less (alkLess HN.out HM.out last.2 ha h1)], hB.trans (belowK_b (w := w) (Nat.le_refl _) W D _ _ (by simp at hD; omega) hK rfl rfl)⟩
      simp [results, Try.f60, go_sem, hc5]
    · have hc5 := cell_kept h2 (grownBy_putObj' _ D (.deferred none)) (fun r e => by cases e; exact ⟨_, hK, rfl⟩)
      refine ⟨.int .i64 1, ?_, by rw [cmpV_more (alkMore HN.out HM.out last.2 ha h1)], hB.trans (belowK_b (w := w) (Nat.le_refl _) W D _ _ (by simp at hD; omega) hK rfl rfl)⟩
      simp [results, Try.f60, go_sem, hc5]
end Go.Proofs.Ytliaegnhnnnojaa

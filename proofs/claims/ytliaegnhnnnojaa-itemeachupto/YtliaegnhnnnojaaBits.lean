import Derived.Test.YtliaegnhnnnojaaBack
set_option linter.unusedSimpArgs false
set_option linter.unusedVariables false
namespace Go.Proofs.Ytliaegnhnnnojaa
open Go.RowKit Go.Shelf
attribute [local go_sem] Oper.semAt_some

theorem bitLen_le64 (x : Int) (h : 0 ≤ x ∧ x < 18446744073709551616) : Lib.bitLen x.toNat ≤ 64 := Lib.bitLen_le _ 64 (by omega) (by omega)
theorem lb_ub (n i : Nat) : lb n i ≤ 18446744073709551615 := by have := lb_bd n i; omega
/-- The first limb that is not 0, from the highest on, tells how many bits there are. -/
theorem bl_first (n : Nat) (hn : n < M256) (k : Nat) (hk : k < 4) (hz : ∀ i, k < i → i < 4 → lb n i = 0) (hx : lb n k ≠ 0) : (64 * k : Nat) + Lib.bitLen (lb n k).toNat = bl n := by
  have hb := lb_bd n k
  rw [bitLen_bl _ (by omega)]
  have hd : n = n % 2 ^ (64 * k) + 2 ^ (64 * k) * (lb n k).toNat := by
    have a := lb_val n hn
    have c := lb_lim n
    have h4 : k = 0 ∨ k = 1 ∨ k = 2 ∨ k = 3 := by omega
    rcases h4 with rfl | rfl | rfl | rfl
    · have z1 := hz 1 (by omega) (by omega); have z2 := hz 2 (by omega) (by omega); have z3 := hz 3 (by omega) (by omega)
      simp only [Nat.mul_zero, Nat.pow_zero, Nat.mod_one]
      unfold val at a; omega
    · have z2 := hz 2 (by omega) (by omega); have z3 := hz 3 (by omega) (by omega)
      simp only [Nat.mul_one, Nat.reducePow]
      unfold val at a; unfold lb at *
      simp only [Nat.reduceMul, Nat.reducePow, Nat.mul_zero, Nat.pow_zero, Nat.div_one] at *
      omega
    · have z3 := hz 3 (by omega) (by omega)
      simp only [Nat.reduceMul, Nat.reducePow]
      unfold val at a; unfold lb at *
      simp only [Nat.reduceMul, Nat.reducePow, Nat.mul_zero, Nat.pow_zero, Nat.div_one] at *
      omega
    · simp only [Nat.reduceMul, Nat.reducePow]
      unfold val at a; unfold lb at *
      simp only [Nat.reduceMul, Nat.reducePow, Nat.mul_zero, Nat.pow_zero, Nat.div_one] at *
      omega
  have := bl_add (64 * k) (lb n k).toNat (n % 2 ^ (64 * k)) (by omega) (Nat.mod_lt _ (Nat.two_pow_pos _))
  rw [← hd] at this
  omega
theorem bl_none (n : Nat) (hn : n < M256) (hz : ∀ i, i < 4 → lb n i = 0) : bl n = 0 := by
  have a := lb_val n hn
  rw [hz 0 (by omega), hz 1 (by omega), hz 2 (by omega), hz 3 (by omega)] at a
  have : n = 0 := by unfold val at a; omega
  subst this; rfl
theorem dn_zero {n : Nat} {j : Nat} (hj : j ≤ 4) (h : ∀ p ∈ dn j, lb n p.1 = 0) : ∀ i, 4 - j ≤ i → i < 4 → lb n i = 0 := by
  intro i h1 h2
  exact h ⟨i, h2⟩ (by simp only [dn, List.mem_map, List.mem_range]; exact ⟨3 - i, by omega, by ext; simp; omega⟩)
theorem dn_last {ini : List K4} {last : K4} {k : Nat} (hk : k ≤ 4) (h : dn k = ini ++ [last]) : ∃ j, k = j + 1 ∧ ini = dn j ∧ last.1 = 3 - j := by
  cases k with
  | zero => simp [dn] at h
  | succ j =>
    rw [dn_succ] at h
    obtain ⟨h1, h2⟩ := List.append_inj' h rfl
    simp at h2
    exact ⟨j, rfl, h1.symm, by rw [← h2]⟩
theorem lb_cells {w : World} {b N : Nat} {t : TypeId} (h : Bk w b (A4 (lb N 0) (lb N 1) (lb N 2) (lb N 3)) t) (j : Nat) (hj : j < 4) : w.cell? ⟨b, j, none⟩ = some (.int .u64 (lb N j)) := by
  rw [h.cell]
  have : j = 0 ∨ j = 1 ∨ j = 2 ∨ j = 3 := by omega
  rcases this with rfl | rfl | rfl | rfl <;> rfl
set_option maxRecDepth 100000 in
set_option maxHeartbeats 2000000 in
theorem bits (N : Nat) (hN : N < M256) (w : World) :
    Calls Try.prog 64 #[V N] w fun e W' => e = .returned (.int .i64 (bl N)) ∧ Below w.heap.size w W' := by
  have HN : Hid (N < M256) := hN
  clear hN
  refine (callsIn_wide (n := 6)).1 ?_
  refine callsIn_of_wp_marks Try.func64 rfl trivial ?_ rfl
  simp only [Try.ntmps64, List.size_toArray, List.length_cons, List.length_nil, Nat.reduceAdd, Nat.reduceSub, Array.replicate_succ, Array.replicate_zero, List.push_toArray, List.append_toArray, List.nil_append, List.cons_append]
  gi_wp2_with (refine ⟨trivial, ?_⟩; gi_at_call 67; refine (back_in _ _ trivial rfl _ _ _ _).mono ?_; rintro e w' ⟨rfl, rfl⟩)
  have bA := Bk.new w (A4 (lb N 0) (lb N 1) (lb N 2) (lb N 3)) 93
  have bR := Boxed.new (w.alloc (.cells (A4 (lb N 0) (lb N 1) (lb N 2) (lb N 3)) 93)) 3 (.int .i64 0)
  have bN := Bk.new ((w.alloc (.cells (A4 (lb N 0) (lb N 1) (lb N 2) (lb N 3)) 93)).alloc (.cells #[.int .i64 0] 3)) #[.slice (some ⟨w.heap.size, 0, none⟩) 4 4] 107
  rw [World.size_alloc] at bR
  rw [World.size_alloc, World.size_alloc] at bN
  have hB0 : Below w.heap.size w (((w.alloc (.cells (A4 (lb N 0) (lb N 1) (lb N 2) (lb N 3)) 93)).alloc (.cells #[.int .i64 0] 3)).alloc (.cells #[.slice (some ⟨w.heap.size, 0, none⟩) 4 4] 107)) := (((Below.refl _ w).alloc (Nat.le_refl _) _).alloc (by simp) _).alloc (by simp; omega) _
  refine wpIn_rangeFunc_ownG rfl (by omega) (gf := 70) (lb := #[.pointer (some ⟨w.heap.size + 1 + 1, 0, none⟩)]) rfl trivial (enters_of Try.func70 (by kernel_rfl) rfl)
    (back_stops _ _ trivial rfl (by omega) (w.heap.size + 1 + 1) (w.heap.size + 3) w.heap.size N _ (by omega) (by omega) (by simp) (bN.cell 0) (fun j hj => lb_cells ((bA.alloc _).alloc _) j hj)) belowK_t (belowK_b (by simp)) (Below.refl _ _) (fun _ => rfl)
    (fun pre W => ((∀ p ∈ pre, lb N p.1 = 0) ∧ W.cell? ⟨w.heap.size + 1, 0, none⟩ = some (.int .i64 0) ∧ W.frozen? ⟨w.heap.size + 1, 0, none⟩ = false) ∧ Below w.heap.size w W)
    (fun c pre W => (c = .ret ∧ ∃ ini last, pre = ini ++ [last] ∧ (∀ p ∈ ini, lb N p.1 = 0) ∧ lb N last.1 ≠ 0 ∧ W.cell? ⟨w.heap.size + 1, 0, none⟩ = some (.int .i64 (64 * (last.1 : Int) + (Lib.bitLen (lb N last.1).toNat : Int)))) ∧ Below w.heap.size w W)
    (OwnFrom.and (Own.from (fun s A B row hs hg hr => ⟨hs.1, cell_kept hs.2.1 hg hr, (frozen_kept hs.2.1 hg hr).trans hs.2.2⟩) _) (ownFrom_below (Nat.le_refl _) (by simp; omega)))
    (fun c => OwnFrom.and (Own.from (fun s A B row hs hg hr => by obtain ⟨hc, ini, last, e1, e2, e3, e4⟩ := hs; exact ⟨hc, ini, last, e1, e2, e3, cell_kept e4 hg hr⟩) _) (ownFrom_below (Nat.le_refl _) (by simp; omega)))
    ⟨⟨by simp, (bR.alloc _).cell, (bR.alloc _).frozen⟩, hB0⟩
    (fun x => { tmps := #[V N, .pointer (some ⟨w.heap.size, 0, none⟩), .pointer (some ⟨w.heap.size + 1, 0, none⟩), .int .i64 (x.1 : Int), .int .u64 (lb N x.1), .slice (some ⟨w.heap.size, 0, none⟩) 4 4, .func (.func 70) #[] #[.pointer (some ⟨w.heap.size + 1 + 1, 0, none⟩)], .int .i64 (x.1 : Int), .int .u64 (lb N x.1), undef, undef, undef, undef, undef, undef, undef], defers := [] }) ?assign ?body ?done ?stop
  case assign =>
    intro l x W K hK
    gi_wp2
    exact hK
  case body =>
    rintro l pre x W ⟨⟨hp, hcr, hfr⟩, hB⟩ _
    have hx4 := x.2
    have hbd := bitLen_le64 _ (lb_bd N x.1)
    by_cases hz : lb N x.1 = 0
    · have hzb : (lb N x.1 != 0) = false := by simp [hz]
      have HZ : Hid (lb N x.1 = 0) := hz
      clear hz
      gi_wp2
      exact ⟨KeepsFrom.refl _ _, Below.refl _ _, ⟨fun p hp' => (List.mem_append.1 hp').elim (hp p) (fun e => by simp at e; subst e; exact HZ.out), hcr, hfr⟩, hB⟩
    · have hzb : (lb N x.1 != 0) = true := by simp [hz]
      have HZ : Hid (¬ lb N x.1 = 0) := hz
      clear hz
      gi_wp2_with (refine ⟨trivial, ?_⟩; gi_at_call 69; refine (CallsIn.inRound l (callsIn_wide.2 (len64 (lb N x.1) _ (lb_bd _ _).1 (lb_ub _ _)))).mono ?_; rintro e w' ⟨rfl, rfl⟩)
      exact ⟨(KeepsOthers.setCell _ _ _).from _, ⟨rfl, pre, x, rfl, hp, HZ.out, World.cell?_setCell_same' _ _ _ (by rw [hcr]; rfl)⟩, hB.setCell (p := ⟨w.heap.size + 1, 0, none⟩) (by simp) _⟩
  case done =>
    rintro D ys W hD rfl ⟨⟨hne, hcr, hfr⟩, hB⟩ hK
    gi_wp2
    have hK' := (KeepsOthers.setCell W ⟨w.heap.size + 1, 0, none⟩ (.int .i64 0)).same D _ hK rfl
    refine ⟨by simp, .inl ⟨_, _, rfl, run_takeDeferred hK', ?_⟩⟩
    have hc5 := cell_kept (World.cell?_setCell_same' W ⟨w.heap.size + 1, 0, none⟩ (.int .i64 0) (by rw [hcr]; rfl)) (grownBy_putObj' _ D (.deferred none)) (fun r e => by cases e; exact ⟨_, hK', rfl⟩)
    refine ⟨.int .i64 0, ?_, by rw [bl_none N HN.out (fun i hi => dn_zero (Nat.le_refl 4) hne i (by omega) hi)]; rfl, (hB.setCell (p := ⟨w.heap.size + 1, 0, none⟩) (by simp) _).trans (belowK_b (w := w) (Nat.le_refl _) _ D _ _ (by simp at hD; omega) hK' rfl rfl)⟩
    simp [results, Try.f64, go_sem, hc5]
  case stop =>
    rintro D c pre W hD ⟨k, hk, rfl⟩ ⟨⟨rfl, ini, last, e1, e2, e3, e4⟩, hB⟩ hK
    gi_wp2
    refine ⟨by simp, .inl ⟨_, _, rfl, run_takeDeferred hK, ?_⟩⟩
    have hc5 := cell_kept e4 (grownBy_putObj' _ D (.deferred none)) (fun r e => by cases e; exact ⟨_, hK, rfl⟩)
    obtain ⟨j, rfl, rfl, hl⟩ := dn_last hk e1
    have hfin := bl_first N HN.out last.1 last.2 (fun i h1 h2 => dn_zero (by omega) e2 i (by omega) h2) e3
    have hfin' : 64 * (last.1 : Int) + (Lib.bitLen (lb N last.1).toNat : Int) = (bl N : Int) := by omega
    rw [hfin'] at hc5
    refine ⟨.int .i64 (bl N), ?_, rfl, hB.trans (belowK_b (w := w) (Nat.le_refl _) W D _ _ (by simp at hD; omega) hK rfl rfl)⟩
    simp [results, Try.f64, go_sem, hc5]
end Go.Proofs.Ytliaegnhnnnojaa

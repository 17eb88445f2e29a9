import Derived.Test.YtljfenjpnanoiaaMulM
import Derived.Deep.LoopGhost
set_option linter.unusedSimpArgs false
set_option linter.unusedVariables false
namespace Go.Proofs.Ytljfenjpnanoiaa
open Go.RowKit


set_option maxRecDepth 100000 in
set_option maxHeartbeats 2000000 in
theorem mul (n m : Nat) (hn : n < M256) (hm : m < M256) (w : World) :
    Calls Try.prog 22 #[V n, V m] w fun e w' => e = .returned (.tuple #[V (mulV n m), .int .i64 (mulOkE n m)]) ∧ Below w.heap.size w w' := by
  have Hn : Hid (n < M256) := hn
  have Hm : Hid (m < M256) := hm
  clear hn hm
  go_enter Try.func22, Try.ntmps22
  go_wp2
  go_step3
  go_wp2
  go_step3
  go_wp2
  go_loopg [7, 14] 4 (fun g ov ii wr => ∃ i P : Nat, i + g = 4 ∧ ov = .bool false ∧ ii = .int .i64 i ∧ Bk wr w.heap.size (A4 (lb n 0) (lb n 1) (lb n 2) (lb n 3)) 25 ∧ Bk wr (w.heap.size + 1) (A4 (lb m 0) (lb m 1) (lb m 2) (lb m 3)) 25 ∧ Bk wr (w.heap.size + 1 + 1) (A4 0 0 0 0) 25 ∧ Bk wr (w.heap.size + 1 + 1 + 1) (A4 (lb P 0) (lb P 1) (lb P 2) (lb P 3)) 25 ∧ Below w.heap.size w wr ∧ Hid (P = n % q64 i * m ∧ P < M256))
  case atStart =>
    refine ⟨0, 0, by omega, rfl, rfl, ?_, ?_, ?_, ?_, ?_, ?_⟩
    · exact (((Bk.new _ _ _).alloc _).alloc _).alloc _
    · exact ((Bk.new' _ _ _ (by simp)).alloc _).alloc _
    · exact (Bk.new' _ _ _ (by simp)).alloc _
    · simp only [lb_zero]; exact Bk.new' _ _ _ (by simp)
    · exact ((((Below.refl _ _).alloc (Nat.le_refl _) _).alloc (by simp) _).alloc (by simp; omega) _).alloc (by simp; omega) _
    · show 0 = n % q64 0 * m ∧ 0 < M256
      rw [q64_0, Nat.mod_one, Nat.zero_mul]; exact ⟨rfl, by decide⟩
  case round =>
    obtain ⟨i, P, hig, rfl, rfl, ha, hb, hz, hx, hbl, hinv⟩ := hrel
    obtain ⟨g1, rfl⟩ : ∃ g1, g1 = gk := ⟨_, rfl⟩
    by_cases hi : i < 4
    · have hb0 := hb.cell 0
      have hb1 := hb.cell 1
      have hb2 := hb.cell 2
      have hb3 := hb.cell 3
      simp only [List.getElem?_toArray, List.getElem?_cons_zero, List.getElem?_cons_succ] at hb0 hb1 hb2 hb3
      have hix := fun w => idx26 n i hi w
      have hdi : decide ((i : Int) < 4) = true := by simp; omega
      obtain ⟨wo, rfl⟩ : ∃ wo : World, wo = wr := ⟨_, rfl⟩
      by_cases hx0 : lb n i = 0
      · have hx1 : (lb n i == 0) = true := by simp [hx0]
        have HX : Hid (lb n i = 0) := hx0
        clear hx0
        go_wp2
        go_loopg [7, 10, 19] 1 (fun _ ov c j wy => ov = .bool false ∧ c = .int .u64 0 ∧ j = .int .i64 0 ∧ wo = wy)
        case atStart => exact ⟨rfl, rfl, rfl, rfl⟩
        case round =>
          obtain ⟨rfl, rfl, rfl, rfl⟩ := hrel
          have hiy : ∀ w, (Instr.index 25 (.agg (A4 (lb m 0) (lb m 1) (lb m 2) (lb m 3))) (.int .i64 0)).run Try.prog w = .ok (.int .u64 (lb m 0)) w := fun w => idx26 m 0 (by omega) w
          go_wp2
          go_roundg (g1 - 1)
          case measure => omega
          case rel => exact ⟨i + 1, P, by omega, rfl, by go_num, ha, hb, hz, hx, hbl, by rw [row_zero i n m HX.out]; exact hinv⟩
      · have hx1 : (lb n i == 0) = false := by simp [hx0]
        have HX : Hid (lb n i ≠ 0) := hx0
        clear hx0
        go_wp2
        go_loopg [7, 10, 19] 4 (fun g ov cc jj wy => ∃ (j P : Nat) (c : Int), j + g = 4 ∧ ov = .bool false ∧ cc = .int .u64 c ∧ jj = .int .i64 j ∧ Bk wy w.heap.size (A4 (lb n 0) (lb n 1) (lb n 2) (lb n 3)) 25 ∧ Bk wy (w.heap.size + 1) (A4 (lb m 0) (lb m 1) (lb m 2) (lb m 3)) 25 ∧ Bk wy (w.heap.size + 1 + 1) (A4 0 0 0 0) 25 ∧ Bk wy (w.heap.size + 1 + 1 + 1) (A4 (lb P 0) (lb P 1) (lb P 2) (lb P 3)) 25 ∧ Below w.heap.size w wy ∧ Hid (Row i j n m P c))
        case atStart => exact ⟨0, P, 0, by omega, rfl, rfl, rfl, ha, hb, hz, hx, hbl, row_start i n m P hi hinv.out.2 hinv.out.1⟩
        case round =>
          clear ha hb hz hx hbl hinv hb0 hb1 hb2 hb3 hix
          obtain ⟨j, P, c, hjg, rfl, rfl, rfl, ha, hb, hz, hx, hbl, hinv⟩ := hrel
          by_cases hj : j < 4
          · have hiy := fun w => idx26 m j hj w
            by_cases hij : i + j < 4
            · have hdij : decide ((i : Int) + (j : Int) < 4) = true := by simp; omega
              have hpc := lb_cells hx (i + j) hij
              have hpf := hx.frozen (i + j)
              obtain ⟨P', hset, hrow⟩ := row_step i j n m P c hij hinv.out
              have HS : Hid (_ = _) := hset
              have HR : Hid (Row i (j + 1) n m P' (hi64 (lb n i * lb m j + lb P (i + j) + c))) := hrow
              have Hc : Hid (0 ≤ c ∧ c < 18446744073709551616) := ⟨hinv.out.2.1, hinv.out.2.2.1⟩
              clear hset hrow hinv
              go_wp2_with (go_at_call 37; refine (mulAdd (lb n i) (lb m j) (lb P (i + j)) c (lb_bd _ _) (lb_bd _ _) (lb_bd _ _) Hc.out _).mono ?_; rintro e w2 ⟨rfl, rfl⟩)
              go_roundg (gk - 1)
              case measure => omega
              case rel => exact ⟨j + 1, P', _, by omega, rfl, rfl, by go_num, ha.other (by simp <;> omega) _, hb.other (by simp <;> omega) _, hz.other (by simp) _, hx.set _ _ HS.out, hbl.setCell (by simp; omega) _, HR⟩
            · have hdij : decide ((i : Int) + (j : Int) < 4) = false := by simp; omega
              by_cases hy0 : lb m j = 0
              · have hy1 : (lb m j != 0) = false := by simp [hy0]
                have HY : Hid (lb m j = 0) := hy0
                clear hy0
                go_wp2
                go_roundg (gk - 1)
                case measure => omega
                case rel => exact ⟨j + 1, P, c, by omega, rfl, rfl, by go_num, ha, hb, hz, hx, hbl, row_skip i j n m P c (by omega) hinv.out HY.out⟩
              · have hy1 : (lb m j != 0) = true := by simp [hy0]
                have HY : Hid (lb m j ≠ 0) := hy0
                clear hy0
                have hz0 := hz.cell 0
                have hz1 := hz.cell 1
                have hz2 := hz.cell 2
                have hz3 := hz.cell 3
                have hf0 := hz.frozen 0
                have hf1 := hz.frozen 1
                have hf2 := hz.frozen 2
                have hf3 := hz.frozen 3
                simp only [List.getElem?_toArray, List.getElem?_cons_zero, List.getElem?_cons_succ] at hz0 hz1 hz2 hz3
                have HO : Hid (¬ n * m < M256) := row_over i j n m (by omega) HX.out HY.out
                go_wp2
                try rw [Exit.noGoto_ret]
                refine bodyPost_ret (v := .tuple #[.agg (A4 0 0 0 0), .int .i64 8]) ?_ rfl ⟨?_, ?_⟩
                · simp [results, Try.results22, go_sem, hz0, hz1, hz2, hz3]
                · have HO' := HO.out
                  simp [mulV, mulOkE, HO', lb_zero]
                · exact (((hbl.setCell (by simp; omega) _).setCell (by simp; omega) _).setCell (by simp; omega) _).setCell (by simp; omega) _
          · obtain rfl : j = 4 := by omega
            have he := row_end i n m P c hi Hm.out hinv.out
            by_cases hc0 : c = 0
            · subst hc0
              have HE : Hid (P = n % q64 (i + 1) * m ∧ P < M256) := he.1 rfl
              clear he hinv
              go_wp2
              go_roundg (g1 - 1)
              case measure => omega
              case rel => exact ⟨i + 1, P, by omega, rfl, by go_num, ha, hb, hz, hx, hbl, HE⟩
            · have hc1 : (c != 0) = true := by simp [hc0]
              have HE : Hid (¬ n * m < M256) := he.2 hc0
              clear he hinv hc0
              have hz0 := hz.cell 0
              have hz1 := hz.cell 1
              have hz2 := hz.cell 2
              have hz3 := hz.cell 3
              have hf0 := hz.frozen 0
              have hf1 := hz.frozen 1
              have hf2 := hz.frozen 2
              have hf3 := hz.frozen 3
              simp only [List.getElem?_toArray, List.getElem?_cons_zero, List.getElem?_cons_succ] at hz0 hz1 hz2 hz3
              have HO : Hid (¬ n * m < M256) := HE.out
              go_wp2
              try rw [Exit.noGoto_ret]
              refine bodyPost_ret (v := .tuple #[.agg (A4 0 0 0 0), .int .i64 8]) ?_ rfl ⟨?_, ?_⟩
              · simp [results, Try.results22, go_sem, hz0, hz1, hz2, hz3]
              · have HO' := HO.out
                simp [mulV, mulOkE, HO', lb_zero]
              · exact (((hbl.setCell (by simp; omega) _).setCell (by simp; omega) _).setCell (by simp; omega) _).setCell (by simp; omega) _
    · obtain rfl : i = 4 := by omega
      have hz0 := hz.cell 0
      have hz1 := hz.cell 1
      have hz2 := hz.cell 2
      have hz3 := hz.cell 3
      have hf0 := hz.frozen 0
      have hf1 := hz.frozen 1
      have hf2 := hz.frozen 2
      have hf3 := hz.frozen 3
      simp only [List.getElem?_toArray, List.getElem?_cons_zero, List.getElem?_cons_succ] at hz0 hz1 hz2 hz3
      have hx0 := hx.cell 0
      have hx1 := hx.cell 1
      have hx2 := hx.cell 2
      have hx3 := hx.cell 3
      simp only [List.getElem?_toArray, List.getElem?_cons_zero, List.getElem?_cons_succ] at hx0 hx1 hx2 hx3
      have hP : P = n * m ∧ P < M256 := by have := hinv.out; rw [q64_4, Nat.mod_eq_of_lt Hn.out] at this; exact this
      have HP : Hid (P = n * m ∧ P < M256) := hP
      clear hP hinv
      go_wp2
      try rw [Exit.noGoto_ret]
      refine bodyPost_ret (v := .tuple #[V P, .int .i64 0]) ?_ rfl ⟨?_, ?_⟩
      · simp [results, Try.results22, go_sem, hz0, hz1, hz2, hz3]
      · obtain ⟨e1, e2⟩ := HP.out
        rw [e1] at e2
        rw [mulV, mulOkE, if_pos e2, if_pos e2, e1]
      · exact (((hbl.setCell (by simp; omega) _).setCell (by simp; omega) _).setCell (by simp; omega) _).setCell (by simp; omega) _
end Go.Proofs.Ytljfenjpnanoiaa

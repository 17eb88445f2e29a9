/- Texts joined: InB Mul Add. -/
import Derived.Test.YtapjonmgjccpbaaJ14
import Derived.Test.YtapjonmgjccpbaaJ6
import Derived.Test.YtapjonmgjccpbaaJ12
import Derived.Deep.LoopGhost
import Derived.Test.YtapjonmgjccpbaaJ0
section
set_option linter.unusedSimpArgs false
set_option linter.unusedVariables false
namespace Go.Proofs.Ytapjonmgjccpbaa
open Go.RowKit

/-! tx.inBounds. -/
def InBd (t : TX) : Prop := inN t.fr 7 ∧ inN t.no 1099511627776 ∧ inN t.ga 1073741824 ∧ t.ti ≤ t.ca ∧ fitT t = 0
instance (t : TX) : Decidable (InBd t) := by unfold InBd; infer_instance
theorem fits_t (t : TX) (aH aB : Option Addr) (cH cB : Nat) (w : World) (h : RT w t (.slice aH t.hs.length cH) (.slice aB t.bs.length cB)) :
    Calls Try.prog 106 #[.slice aH t.hs.length cH, .slice aB t.bs.length cB] w fun e w' => e = .returned (.int .i64 (fitT t)) ∧ Below w.heap.size w w' := by
  obtain ⟨⟨l1, _, a1, c1, e1, h1⟩, ⟨l2, _, a2, c2, e2, h2⟩⟩ := h
  unfold maxLen at l1 l2
  simp at e1 e2
  obtain ⟨rfl, rfl⟩ := e1
  obtain ⟨rfl, rfl⟩ := e2
  unfold fitT
  by_cases h : cnts t.bs.length = true ∧ t.hs.length = t.bs.length
  · have := fits_go t.bs.length aH aB cH cB (fun i => t.hs.getD i 0) (fun i => t.bs.getD i ByteArray.empty) w h.1 (fun i hi => h1 i (by omega)) h2
    rw [h.2]
    exact this
  · exact fits_no t.hs.length t.bs.length aH aB cH cB _ _ w h (by omega) (by omega)
set_option maxRecDepth 100000 in
set_option maxHeartbeats 4000000 in
theorem inBounds (t : TX) (aH aB : Option Addr) (cH cB : Nat) (w : World) (hw : TXw t) (hr : RT w t (.slice aH t.hs.length cH) (.slice aB t.bs.length cB)) :
    Calls Try.prog 87 #[.agg (txc t (.slice aH t.hs.length cH) (.slice aB t.bs.length cB))] w fun e w' => e = .returned (.bool (decide (InBd t))) ∧ Below w.heap.size w w' := by
  have HC : Hid (∀ w, Calls Try.prog 20 #[V t.ti, V t.ca] w fun e w' => e = .returned (.int .i64 (cmpV t.ti t.ca)) ∧ Below w.heap.size w w') := fun w => cmp _ _ hw.ti hw.ca w
  have HF : Hid (∀ W, Below w.heap.size w W → Calls Try.prog 106 #[.slice aH t.hs.length cH, .slice aB t.bs.length cB] W fun e w' => e = .returned (.int .i64 (fitT t)) ∧ Below W.heap.size W w') := fun W h => fits_t t aH aB cH cB W (hr.below h)
  obtain ⟨wr, hwr⟩ : ∃ wr, wr = w.alloc (.cells (txc t (.slice aH t.hs.length cH) (.slice aB t.bs.length cB)) 30) := ⟨_, rfl⟩
  clear hw hr
  go_enter Try.func87, Try.ntmps87
  go_upto_region 1 with fail
  rw [← hwr]
  have bX : Bk wr w.heap.size (txc t (.slice aH t.hs.length cH) (.slice aB t.bs.length cB)) 30 := by rw [hwr]; exact Bk.new _ _ _
  have HB : Hid (Below w.heap.size w wr) := by show Below _ _ _; rw [hwr]; exact (Below.refl _ _).alloc (Nat.le_refl _) _
  clear hwr
  obtain ⟨X, hX⟩ : ∃ X, X = w.heap.size := ⟨_, rfl⟩
  rw [← hX] at bX ⊢
  clear hX
  have lX := bX.lt
  have x0 := bX.cell 0
  have x1 := bX.cell 1
  have x2 := bX.cell 2
  have x3 := bX.cell 3
  have x4 := bX.cell 4
  have x5 := bX.cell 5
  have x6 := bX.cell 6
  have x7 := bX.cell 7
  have x8 := bX.cell 8
  have x9 := bX.cell 9
  have x18 := bX.cell 18
  have x19 := bX.cell 19
  have x20 := bX.cell 20
  simp only [List.getElem?_toArray, List.getElem?_cons_zero, List.getElem?_cons_succ] at x0 x1 x2 x3 x4 x5 x6 x7 x8 x9 x18 x19 x20
  have HX : Hid (Bk wr X (txc t (.slice aH t.hs.length cH) (.slice aB t.bs.length cB)) 30) := bX
  clear bX
  by_cases h1 : 0 ≤ t.fr
  case neg =>
    have HN : Hid (decide (InBd t) = false) := decide_eq_false (fun h => h1 h.1.1)
    go_wp2_with fail
    go_ret
    exact ⟨by rw [HN.out]; rfl, HB.out⟩
  by_cases h2 : t.fr < 8
  case neg =>
    have HN : Hid (decide (InBd t) = false) := decide_eq_false (fun h => h2 (by have := h.1.2; omega))
    go_wp2_with fail
    go_ret
    exact ⟨by rw [HN.out]; rfl, HB.out⟩
  by_cases h3 : 0 ≤ t.no
  case neg =>
    have HN : Hid (decide (InBd t) = false) := decide_eq_false (fun h => h3 h.2.1.1)
    go_wp2_with fail
    go_ret
    exact ⟨by rw [HN.out]; rfl, HB.out⟩
  by_cases h4 : t.no ≤ 1099511627776
  case neg =>
    have HN : Hid (decide (InBd t) = false) := decide_eq_false (fun h => h4 h.2.1.2)
    go_wp2_with fail
    go_ret
    exact ⟨by rw [HN.out]; rfl, HB.out⟩
  by_cases h5 : 0 ≤ t.ga
  case neg =>
    have HN : Hid (decide (InBd t) = false) := decide_eq_false (fun h => h5 h.2.2.1.1)
    go_wp2_with fail
    go_ret
    exact ⟨by rw [HN.out]; rfl, HB.out⟩
  by_cases h6 : t.ga ≤ 1073741824
  case neg =>
    have HN : Hid (decide (InBd t) = false) := decide_eq_false (fun h => h6 h.2.2.1.2)
    go_wp2_with fail
    go_ret
    exact ⟨by rw [HN.out]; rfl, HB.out⟩
  go_wp2_with fail
  refine (HC.out _).mono ?_
  rintro e w2 ⟨rfl, hb2⟩
  have bX2 := HX.out.below hb2 lX
  replace HB : Hid (Below w.heap.size w w2) := HB.out.trans (hb2.mono HB.out.size)
  have lX2 := bX2.lt
  clear x0 x1 x2 x3 x4 x5 x6 x7 x8 x9 x18 x19 x20 HX
  have x19 := bX2.cell 19
  have x20 := bX2.cell 20
  simp only [List.getElem?_toArray, List.getElem?_cons_zero, List.getElem?_cons_succ] at x19 x20
  clear bX2 hb2
  by_cases h7 : t.ti ≤ t.ca
  case neg =>
    have hc : ¬ cmpV t.ti t.ca ≤ 0 := by unfold cmpV; rw [if_neg (by omega), if_neg (by omega)]; omega
    have HN : Hid (decide (InBd t) = false) := decide_eq_false fun h => h7 h.2.2.2.1
    generalize cmpV t.ti t.ca = cv at *
    go_wp2_with fail
    go_ret
    exact ⟨by rw [HN.out]; rfl, HB.out⟩
  have hc : cmpV t.ti t.ca ≤ 0 := by unfold cmpV; split <;> (try split) <;> omega
  generalize cmpV t.ti t.ca = cv at *
  go_wp2_with fail
  refine (HF.out _ HB.out).mono ?_
  rintro e w3 ⟨rfl, hb3⟩
  have HE : Hid (decide (InBd t) = (fitT t == 0)) := by
    show _ = _
    by_cases h8 : fitT t = 0
    · rw [decide_eq_true (show InBd t from ⟨⟨h1, by omega⟩, ⟨h3, h4⟩, ⟨h5, h6⟩, h7, h8⟩), h8]; rfl
    · rw [decide_eq_false (show ¬ InBd t from fun h => h8 h.2.2.2.2)]; exact (beq_eq_false_iff_ne.2 h8).symm
  generalize fitT t = fe at *
  go_wp2_with fail
  go_ret
  exact ⟨by rw [HE.out]; rfl, HB.out.trans (hb3.mono HB.out.size)⟩
end Go.Proofs.Ytapjonmgjccpbaa
end
section
set_option linter.unusedSimpArgs false
set_option linter.unusedVariables false
namespace Go.Proofs.Ytapjonmgjccpbaa
open Go.RowKit


set_option maxRecDepth 100000 in
set_option maxHeartbeats 2000000 in
theorem mul (n m : Nat) (hn : n < M256) (hm : m < M256) (w : World) :
    Calls Try.prog 89 #[V n, V m] w fun e w' => e = .returned (.tuple #[V (mulV n m), .int .i64 (mulOkE n m)]) ∧ Below w.heap.size w w' := by
  have Hn : Hid (n < M256) := hn
  have Hm : Hid (m < M256) := hm
  clear hn hm
  go_enter Try.func89, Try.ntmps89
  go_wp2
  go_step3
  go_wp2
  go_step3
  go_wp2
  go_loopg [7, 14] 4 (fun g ov ii wr => ∃ i P : Nat, i + g = 4 ∧ ov = .bool false ∧ ii = .int .i64 i ∧ Bk wr w.heap.size (A4 (lb n 0) (lb n 1) (lb n 2) (lb n 3)) 26 ∧ Bk wr (w.heap.size + 1) (A4 (lb m 0) (lb m 1) (lb m 2) (lb m 3)) 26 ∧ Bk wr (w.heap.size + 1 + 1) (A4 0 0 0 0) 26 ∧ Bk wr (w.heap.size + 1 + 1 + 1) (A4 (lb P 0) (lb P 1) (lb P 2) (lb P 3)) 26 ∧ Below w.heap.size w wr ∧ Hid (P = n % q64 i * m ∧ P < M256))
  case atStart =>
    refine ⟨0, 0, by omega, rfl, rfl, ?_, ?_, ?_, ?_, ?_, ?_⟩
    · exact (((Bk.new _ _ _).alloc _).alloc _).alloc _
    · exact ((Bk.new' _ _ _ (by simp)).alloc _).alloc _
    · exact (Bk.new' _ _ _ (by simp)).alloc _
    · simp only [lb_zero]; exact Bk.new' _ _ _ (by simp)
    · exact ((((Below.refl _ _).alloc (Nat.le_refl _) _).alloc (by simp) _).alloc (by simp; omega) _).alloc (by simp; omega) _
    · show 0 = n % q64 0 * m ∧ 0 < M256
      rw [q64_0, Nat.mod_one, Nat.zero_mul]; exact ⟨rfl, by decide⟩
  case round =>
    obtain ⟨i, P, hig, rfl, rfl, ha, hb, hz, hx, hbl, hinv⟩ := hrel
    obtain ⟨g1, rfl⟩ : ∃ g1, g1 = gk := ⟨_, rfl⟩
    by_cases hi : i < 4
    · have hb0 := hb.cell 0
      have hb1 := hb.cell 1
      have hb2 := hb.cell 2
      have hb3 := hb.cell 3
      simp only [List.getElem?_toArray, List.getElem?_cons_zero, List.getElem?_cons_succ] at hb0 hb1 hb2 hb3
      have hix := fun w => idx26 n i hi w
      have hdi : decide ((i : Int) < 4) = true := by simp; omega
      obtain ⟨wo, rfl⟩ : ∃ wo : World, wo = wr := ⟨_, rfl⟩
      by_cases hx0 : lb n i = 0
      · have hx1 : (lb n i == 0) = true := by simp [hx0]
        have HX : Hid (lb n i = 0) := hx0
        clear hx0
        go_wp2
        go_loopg [7, 10, 19] 1 (fun _ ov c j wy => ov = .bool false ∧ c = .int .u64 0 ∧ j = .int .i64 0 ∧ wo = wy)
        case atStart => exact ⟨rfl, rfl, rfl, rfl⟩
        case round =>
          obtain ⟨rfl, rfl, rfl, rfl⟩ := hrel
          have hiy : ∀ w, (Instr.index 26 (.agg (A4 (lb m 0) (lb m 1) (lb m 2) (lb m 3))) (.int .i64 0)).run Try.prog w = .ok (.int .u64 (lb m 0)) w := fun w => idx26 m 0 (by omega) w
          go_wp2
          go_roundg (g1 - 1)
          case measure => omega
          case rel => exact ⟨i + 1, P, by omega, rfl, by go_num, ha, hb, hz, hx, hbl, by rw [row_zero i n m HX.out]; exact hinv⟩
      · have hx1 : (lb n i == 0) = false := by simp [hx0]
        have HX : Hid (lb n i ≠ 0) := hx0
        clear hx0
        go_wp2
        go_loopg [7, 10, 19] 4 (fun g ov cc jj wy => ∃ (j P : Nat) (c : Int), j + g = 4 ∧ ov = .bool false ∧ cc = .int .u64 c ∧ jj = .int .i64 j ∧ Bk wy w.heap.size (A4 (lb n 0) (lb n 1) (lb n 2) (lb n 3)) 26 ∧ Bk wy (w.heap.size + 1) (A4 (lb m 0) (lb m 1) (lb m 2) (lb m 3)) 26 ∧ Bk wy (w.heap.size + 1 + 1) (A4 0 0 0 0) 26 ∧ Bk wy (w.heap.size + 1 + 1 + 1) (A4 (lb P 0) (lb P 1) (lb P 2) (lb P 3)) 26 ∧ Below w.heap.size w wy ∧ Hid (Row i j n m P c))
        case atStart => exact ⟨0, P, 0, by omega, rfl, rfl, rfl, ha, hb, hz, hx, hbl, row_start i n m P hi hinv.out.2 hinv.out.1⟩
        case round =>
          clear ha hb hz hx hbl hinv hb0 hb1 hb2 hb3 hix
          obtain ⟨j, P, c, hjg, rfl, rfl, rfl, ha, hb, hz, hx, hbl, hinv⟩ := hrel
          by_cases hj : j < 4
          · have hiy := fun w => idx26 m j hj w
            by_cases hij : i + j < 4
            · have hdij : decide ((i : Int) + (j : Int) < 4) = true := by simp; omega
              have hpc := lb_cells hx (i + j) hij
              have hpf := hx.frozen (i + j)
              obtain ⟨P', hset, hrow⟩ := row_step i j n m P c hij hinv.out
              have HS : Hid (_ = _) := hset
              have HR : Hid (Row i (j + 1) n m P' (hi64 (lb n i * lb m j + lb P (i + j) + c))) := hrow
              have Hc : Hid (0 ≤ c ∧ c < 18446744073709551616) := ⟨hinv.out.2.1, hinv.out.2.2.1⟩
              clear hset hrow hinv
              go_wp2_with (go_at_call 109; refine (mulAdd (lb n i) (lb m j) (lb P (i + j)) c (lb_bd _ _) (lb_bd _ _) (lb_bd _ _) Hc.out _).mono ?_; rintro e w2 ⟨rfl, rfl⟩)
              go_roundg (gk - 1)
              case measure => omega
              case rel => exact ⟨j + 1, P', _, by omega, rfl, rfl, by go_num, ha.other (by simp <;> omega) _, hb.other (by simp <;> omega) _, hz.other (by simp) _, hx.set _ _ HS.out, hbl.setCell (by simp; omega) _, HR⟩
            · have hdij : decide ((i : Int) + (j : Int) < 4) = false := by simp; omega
              by_cases hy0 : lb m j = 0
              · have hy1 : (lb m j != 0) = false := by simp [hy0]
                have HY : Hid (lb m j = 0) := hy0
                clear hy0
                go_wp2
                go_roundg (gk - 1)
                case measure => omega
                case rel => exact ⟨j + 1, P, c, by omega, rfl, rfl, by go_num, ha, hb, hz, hx, hbl, row_skip i j n m P c (by omega) hinv.out HY.out⟩
              · have hy1 : (lb m j != 0) = true := by simp [hy0]
                have HY : Hid (lb m j ≠ 0) := hy0
                clear hy0
                have hz0 := hz.cell 0
                have hz1 := hz.cell 1
                have hz2 := hz.cell 2
                have hz3 := hz.cell 3
                have hf0 := hz.frozen 0
                have hf1 := hz.frozen 1
                have hf2 := hz.frozen 2
                have hf3 := hz.frozen 3
                simp only [List.getElem?_toArray, List.getElem?_cons_zero, List.getElem?_cons_succ] at hz0 hz1 hz2 hz3
                have HO : Hid (¬ n * m < M256) := row_over i j n m (by omega) HX.out HY.out
                go_wp2
                try rw [Exit.noGoto_ret]
                refine bodyPost_ret (v := .tuple #[.agg (A4 0 0 0 0), .int .i64 8]) ?_ rfl ⟨?_, ?_⟩
                · simp [results, Try.results89, go_sem, hz0, hz1, hz2, hz3]
                · have HO' := HO.out
                  simp [mulV, mulOkE, HO', lb_zero]
                · exact (((hbl.setCell (by simp; omega) _).setCell (by simp; omega) _).setCell (by simp; omega) _).setCell (by simp; omega) _
          · obtain rfl : j = 4 := by omega
            have he := row_end i n m P c hi Hm.out hinv.out
            by_cases hc0 : c = 0
            · subst hc0
              have HE : Hid (P = n % q64 (i + 1) * m ∧ P < M256) := he.1 rfl
              clear he hinv
              go_wp2
              go_roundg (g1 - 1)
              case measure => omega
              case rel => exact ⟨i + 1, P, by omega, rfl, by go_num, ha, hb, hz, hx, hbl, HE⟩
            · have hc1 : (c != 0) = true := by simp [hc0]
              have HE : Hid (¬ n * m < M256) := he.2 hc0
              clear he hinv hc0
              have hz0 := hz.cell 0
              have hz1 := hz.cell 1
              have hz2 := hz.cell 2
              have hz3 := hz.cell 3
              have hf0 := hz.frozen 0
              have hf1 := hz.frozen 1
              have hf2 := hz.frozen 2
              have hf3 := hz.frozen 3
              simp only [List.getElem?_toArray, List.getElem?_cons_zero, List.getElem?_cons_succ] at hz0 hz1 hz2 hz3
              have HO : Hid (¬ n * m < M256) := HE.out
              go_wp2
              try rw [Exit.noGoto_ret]
              refine bodyPost_ret (v := .tuple #[.agg (A4 0 0 0 0), .int .i64 8]) ?_ rfl ⟨?_, ?_⟩
              · simp [results, Try.results89, go_sem, hz0, hz1, hz2, hz3]
              · have HO' := HO.out
                simp [mulV, mulOkE, HO', lb_zero]
              · exact (((hbl.setCell (by simp; omega) _).setCell (by simp; omega) _).setCell (by simp; omega) _).setCell (by simp; omega) _
    · obtain rfl : i = 4 := by omega
      have hz0 := hz.cell 0
      have hz1 := hz.cell 1
      have hz2 := hz.cell 2
      have hz3 := hz.cell 3
      have hf0 := hz.frozen 0
      have hf1 := hz.frozen 1
      have hf2 := hz.frozen 2
      have hf3 := hz.frozen 3
      simp only [List.getElem?_toArray, List.getElem?_cons_zero, List.getElem?_cons_succ] at hz0 hz1 hz2 hz3
      have hx0 := hx.cell 0
      have hx1 := hx.cell 1
      have hx2 := hx.cell 2
      have hx3 := hx.cell 3
      simp only [List.getElem?_toArray, List.getElem?_cons_zero, List.getElem?_cons_succ] at hx0 hx1 hx2 hx3
      have hP : P = n * m ∧ P < M256 := by have := hinv.out; rw [q64_4, Nat.mod_eq_of_lt Hn.out] at this; exact this
      have HP : Hid (P = n * m ∧ P < M256) := hP
      clear hP hinv
      go_wp2
      try rw [Exit.noGoto_ret]
      refine bodyPost_ret (v := .tuple #[V P, .int .i64 0]) ?_ rfl ⟨?_, ?_⟩
      · simp [results, Try.results89, go_sem, hz0, hz1, hz2, hz3]
      · obtain ⟨e1, e2⟩ := HP.out
        rw [e1] at e2
        rw [mulV, mulOkE, if_pos e2, if_pos e2, e1]
      · exact (((hbl.setCell (by simp; omega) _).setCell (by simp; omega) _).setCell (by simp; omega) _).setCell (by simp; omega) _
end Go.Proofs.Ytapjonmgjccpbaa
end
section
set_option linter.unusedSimpArgs false
set_option linter.unusedVariables false
namespace Go.Proofs.Ytapjonmgjccpbaa
open Go.RowKit

set_option maxHeartbeats 1000000 in
theorem add (n m : Nat) (hn : n < M256) (hm : m < M256) (w : World) :
    Calls Try.prog 90 #[V n, V m] w fun e w' => e = .returned (.tuple #[V (addV n m), .int .i64 (addOkE n m)]) ∧ Below w.heap.size w w' := by
  have Hn : Hid (n < M256) := hn
  have Hm : Hid (m < M256) := hm
  clear hn hm
  go_enter Try.func90, Try.ntmps90
  go_wp2
  go_loopw [7, 9] (fun c i wr => ∃ (k : Nat) (x0 x1 x2 x3 cc : Int), k ≤ 4 ∧ c = .int .u64 cc ∧ i = .int .i64 k ∧ Bk wr w.heap.size (A4 (lb n 0) (lb n 1) (lb n 2) (lb n 3)) 26 ∧ Bk wr (w.heap.size + 1) (A4 (lb m 0) (lb m 1) (lb m 2) (lb m 3)) 26 ∧ Bk wr (w.heap.size + 1 + 1) (A4 0 0 0 0) 26 ∧ Bk wr (w.heap.size + 1 + 1 + 1) (A4 x0 x1 x2 x3) 26 ∧ Below w.heap.size w wr ∧ AddInv k n m x0 x1 x2 x3 cc) (fun _ i _ => 4 - (intOf i).toNat)
  case atStart =>
    refine ⟨0, 0, 0, 0, 0, 0, by omega, rfl, rfl, ?_, ?_, ?_, ?_, ?_, addInv0 n m⟩
    · exact (((Bk.new _ _ _).alloc _).alloc _).alloc _
    · exact ((Bk.new' _ _ _ (by simp)).alloc _).alloc _
    · exact (Bk.new' _ _ _ (by simp)).alloc _
    · exact Bk.new' _ _ _ (by simp)
    · exact ((((Below.refl _ _).alloc (Nat.le_refl _) _).alloc (by simp) _).alloc (by simp; omega) _).alloc (by simp; omega) _
  case round =>
    obtain ⟨k, x0, x1, x2, x3, cc, hk, rfl, rfl, ha, hb, hz, hx, hbl, hinv⟩ := hrel
    have hak := ha.cell k
    have hbk := hb.cell k
    have hxk := hx.cell k
    have hxf := hx.frozen k
    have hrun := fun w => run38 (lb n k) (lb m k) cc (addInv_c hinv) (lb_bd _ _).1 (lb_bd _ _).1 w
    have hk' : k = 0 ∨ k = 1 ∨ k = 2 ∨ k = 3 ∨ k = 4 := by omega
    rcases hk' with rfl | rfl | rfl | rfl | rfl
    · simp only [List.getElem?_toArray, List.getElem?_cons_zero, List.getElem?_cons_succ] at hak hbk hxk
      have st := addStep0 n m x0 x1 x2 x3 cc hinv
      go_wp2
      go_region
      go_wp2
      go_roundw
      case rel => exact ⟨1, _, x1, x2, x3, _, by omega, rfl, rfl, ha.drew.other (by simp <;> omega) _, hb.drew.other (by simp <;> omega) _, hz.drew.other (by simp) _, hx.drew.set 0 _ rfl, hbl.drew.setCell (by simp; omega) _, st⟩
      case measure => simp [intOf]
    · simp only [List.getElem?_toArray, List.getElem?_cons_zero, List.getElem?_cons_succ] at hak hbk hxk
      have st := addStep1 n m x0 x1 x2 x3 cc hinv
      go_wp2
      go_region
      go_wp2
      go_roundw
      case rel => exact ⟨2, x0, _, x2, x3, _, by omega, rfl, rfl, ha.drew.other (by simp <;> omega) _, hb.drew.other (by simp <;> omega) _, hz.drew.other (by simp) _, hx.drew.set 1 _ rfl, hbl.drew.setCell (by simp; omega) _, st⟩
      case measure => simp [intOf]
    · simp only [List.getElem?_toArray, List.getElem?_cons_zero, List.getElem?_cons_succ] at hak hbk hxk
      have st := addStep2 n m x0 x1 x2 x3 cc hinv
      go_wp2
      go_region
      go_wp2
      go_roundw
      case rel => exact ⟨3, x0, x1, _, x3, _, by omega, rfl, rfl, ha.drew.other (by simp <;> omega) _, hb.drew.other (by simp <;> omega) _, hz.drew.other (by simp) _, hx.drew.set 2 _ rfl, hbl.drew.setCell (by simp; omega) _, st⟩
      case measure => simp [intOf]
    · simp only [List.getElem?_toArray, List.getElem?_cons_zero, List.getElem?_cons_succ] at hak hbk hxk
      have st := addStep3 n m x0 x1 x2 x3 cc hinv
      go_wp2
      go_region
      go_wp2
      go_roundw
      case rel => exact ⟨4, x0, x1, x2, _, _, by omega, rfl, rfl, ha.drew.other (by simp <;> omega) _, hb.drew.other (by simp <;> omega) _, hz.drew.other (by simp) _, hx.drew.set 3 _ rfl, hbl.drew.setCell (by simp; omega) _, st⟩
      case measure => simp [intOf]
    · have hx0 := hx.cell 0
      have hx1 := hx.cell 1
      have hx2 := hx.cell 2
      have hx3 := hx.cell 3
      have hz0 := hz.cell 0
      have hz1 := hz.cell 1
      have hz2 := hz.cell 2
      have hz3 := hz.cell 3
      have hf0 := hz.frozen 0
      have hf1 := hz.frozen 1
      have hf2 := hz.frozen 2
      have hf3 := hz.frozen 3
      simp only [List.getElem?_toArray, List.getElem?_cons_zero, List.getElem?_cons_succ] at hx0 hx1 hx2 hx3 hz0 hz1 hz2 hz3
      clear hak hbk hxk hxf hrun
      have he := addEnd n m Hn.out Hm.out _ _ _ _ _ hinv
      rcases he with ⟨rfl, hlt, rfl, rfl, rfl, rfl⟩ | ⟨rfl, hge⟩
      · have HL : Hid (n + m < M256) := hlt
        clear hlt
        go_wp2
        refine bodyPost_ret (v := .tuple #[V (n + m), .int .i64 0]) ?_ rfl ⟨?_, ?_⟩
        · simp [results, Try.results90, go_sem, hz0, hz1, hz2, hz3]
        · have HL' := HL.out
          simp [addV, addOk, addOkE, HL']
        · exact (((hbl.setCell (by simp; omega) _).setCell (by simp; omega) _).setCell (by simp; omega) _).setCell (by simp; omega) _
      · have HL : Hid (¬ (n + m < M256)) := hge
        clear hge
        go_wp2
        refine bodyPost_ret (v := .tuple #[.agg (A4 0 0 0 0), .int .i64 8]) ?_ rfl ⟨?_, ?_⟩
        · simp [results, Try.results90, go_sem, hz0, hz1, hz2, hz3]
        · have HL' := HL.out
          simp [addV, addOk, addOkE, HL', lb_zero]
        · exact (((hbl.setCell (by simp; omega) _).setCell (by simp; omega) _).setCell (by simp; omega) _).setCell (by simp; omega) _
end Go.Proofs.Ytapjonmgjccpbaa
end

import Derived.Test.YtapjonmgjccpbaaSft
import Derived.Test.YtapjonmgjccpbaaRBits
import Derived.Test.YtapjonmgjccpbaaJ9
set_option linter.unusedSimpArgs false
set_option linter.unusedVariables false
set_option maxRecDepth 100000
namespace Go.Proofs.Ytapjonmgjccpbaa
open Go.RowKit

/-! tarnlaw8.SizeFits, walked. -/
theorem tj0 (b : Nat) : Value.agg #[.int .i64 7, .int .i64 1099511627776, .int .u64 0, .int .u64 0, .int .u64 0, .int .u64 1, .int .u64 0, .int .u64 0, .int .u64 0, .int .u64 1, .int .u64 0, .int .u64 0, .int .u64 0, .int .u64 1, .int .u64 0, .int .u64 0, .int .u64 0, .int .u64 4611686018427387904, .int .i64 1073741824, .slice none 0 0, .slice none 0 0] = .agg (txc (tij b 0 0) (.slice none 0 0) (.slice none 0 0)) := by
  obtain ⟨e0, e1, e2, e3⟩ : lb T192 0 = 0 ∧ lb T192 1 = 0 ∧ lb T192 2 = 0 ∧ lb T192 3 = 1 := ⟨by decide +kernel, by decide +kernel, by decide +kernel, by decide +kernel⟩
  obtain ⟨f0, f1, f2, f3⟩ : lb T254 0 = 0 ∧ lb T254 1 = 0 ∧ lb T254 2 = 0 ∧ lb T254 3 = 4611686018427387904 := ⟨by decide +kernel, by decide +kernel, by decide +kernel, by decide +kernel⟩
  simp only [txc, tij, e0, e1, e2, e3, f0, f1, f2, f3]
theorem cell_blk1 {w : World} {g : Nat} {x : Value} {t : TypeId} (h : Bk w g #[x] t) : ∀ j u, [x][j]? = some u → w.cell? ((⟨g, 0, none⟩ : Addr).add j) = some u := fun j u hj => by
  match j, hj with
  | 0, hj =>
    simp at hj
    subst hj
    have : (⟨g, 0, none⟩ : Addr).add 0 = ⟨g, 0, none⟩ := by unfold Addr.add; simp
    rw [this]
    exact h.cell 0
theorem own_shp7 {w : World} {base : Nat} {e : TypeId} {z n : Nat} {v : Value} {xs : List Value} (h : w.ownsRow base e z v n xs) : ∃ ad cap, v = .slice ad n cap := by
  rcases h.2 with ⟨rfl, rfl⟩ | ⟨g, cap, cur, rfl, _⟩
  · exact ⟨_, _, rfl⟩
  · exact ⟨_, _, rfl⟩
theorem SJ.last {w W : World} {X b i j : Nat} {u : Value} {ad : Option Addr} {cp : Nat} (h : SJ w W X b i (j + 1) u (.slice ad (j + 1) cp)) : ∃ g, ad = some ⟨g, 0, none⟩ ∧ W.cell? ⟨g, j, none⟩ = some (.string (zb b)) := by
  have hl : (List.replicate (j + 1) (zb b)).length = j + 1 := List.length_replicate ..
  obtain ⟨g, cap, e, -⟩ := h.hV.shape1 (by rw [hl]; omega)
  rw [hl] at e
  simp only [Value.slice.injEq] at e
  obtain ⟨rfl, -, rfl⟩ := e
  refine ⟨g, rfl, ?_⟩
  have hV : W.ownsRow w.heap.size 9 1 (.slice (some ⟨g, 0, none⟩) (j + 1) cp) (j + 1) ((List.replicate (j + 1) (zb b)).map cS) := by have := h.hV; unfold Or at this; rw [hl] at this; exact this
  rw [World.ownsRow.cellAt hV j (by omega)]
  simp
set_option maxHeartbeats 8000000 in
theorem sizeFits_walk (ad : Option Addr) (len cap : Nat) (w : World) :
    Calls Try.prog 9 #[.slice ad len cap] w fun e w' => e = .returned (.bool true) ∧ Below w.heap.size w w' := by
  obtain ⟨i9, hi9, hy0, hy1, hy2⟩ := info_of infoS
  obtain ⟨iU, hiU, hz0, hz1, hz2⟩ := info_of infoU
  have HI9 : Hid (Try.prog.info? 9 = some i9 ∧ i9.zero = some (.string ⟨#[]⟩) ∧ i9.size = 1 ∧ i9.bytes = 16) := ⟨hi9, hy0, hy1, hy2⟩
  have HIU : Hid (Try.prog.info? 24 = some iU ∧ iU.zero = some (.int .u64 0) ∧ iU.size = 1 ∧ iU.bytes = 8) := ⟨hiU, hz0, hz1, hz2⟩
  clear hi9 hy0 hy1 hy2 hiU hz0 hz1 hz2
  go_enter Try.func9, Try.ntmps9
  go_wp2_with fail
  go_loopw [3, 4] (fun l i wr => ∃ n x : Nat, 1 ≤ n ∧ n ≤ 5 ∧ i = .int .i64 n ∧ l = .int .i64 x ∧ (n ≤ 4 → x ≤ (itS (txI (tjb 64 n))).size) ∧ Below w.heap.size w wr) (fun _ i _ => 5 - (intOf i).toNat)
  case atStart => exact ⟨1, 0, by omega, by omega, rfl, rfl, fun _ => Nat.zero_le _, Below.refl _ _⟩
  case round =>
    obtain ⟨n, x, hn1, hn5, rfl, rfl, hx, hbo⟩ := hrel
    have HB0 : Hid (Below w.heap.size w wr) := hbo
    clear hbo
    by_cases hn : n ≤ 4
    · have hn' : (n : Int) ≤ 4 := by omega
      have HX0 : Hid (x ≤ (itS (txI (tjb 64 n))).size) := hx hn
      clear hx
      go_wp2_with fail
      go_loopw [3, 5] (fun l b wq => ∃ B x : Nat, B ≤ 80 ∧ B % 16 = 0 ∧ b = .int .i64 B ∧ l = .int .i64 x ∧ x ≤ (itS (txI (tjb 64 n))).size ∧ (64 < B → x = (itS (txI (tjb 64 n))).size) ∧ Below w.heap.size w wq) (fun _ b _ => (80 - intOf b).toNat)
      case atStart => exact ⟨0, x, by omega, by omega, rfl, rfl, HX0.out, fun h => absurd h (by omega), HB0.out⟩
      case round =>
        clear HB0 HX0
        obtain ⟨B, y, hB80, hB16, rfl, rfl, hy, hy5, hbq⟩ := hrel
        have HY : Hid (y ≤ (itS (txI (tjb 64 n))).size ∧ (64 < B → y = (itS (txI (tjb 64 n))).size)) := ⟨hy, hy5⟩
        have HB : Hid (Below w.heap.size w wr) := hbq
        clear hy hy5 hbq
        by_cases hc : B ≤ 64
        · have hc' : (B : Int) ≤ 64 := by omega
          have HN3 : Hid (Bk (wr.alloc (.cells z21 30)) wr.heap.size z21 30) := Bk.new _ _ _
          have HB3 : Hid (Below w.heap.size w (wr.alloc (.cells z21 30))) := HB.out.alloc HB.out.size _
          go_upto_region 9 with (refine wpList_store_tx rfl _ _ rfl rfl (t := tij B 0 0) (tj0 B) HN3.out rfl ?_; intro W4 hS4)
          obtain ⟨X, hX⟩ : ∃ X, X = wr.heap.size := ⟨_, rfl⟩
          rw [← hX] at hS4 ⊢
          have HJ0 : Hid (SJ w W4 X B 0 0 (.slice none 0 0) (.slice none 0 0)) := ⟨hS4.bR, Or.nil _ _ _ _, Or.nil _ _ _ _, hS4.below _ _ (by have := HB.out.size; omega) HB3.out, by have := HB.out.size; omega⟩
          clear hS4 hX HB3 HN3 HB
          go_wp2_with fail
          go_loopw [7] (fun k wq => ∃ (j : Nat) (u v : Value), j ≤ n ∧ k = .int .i64 j ∧ SJ w wq X B j j u v) (fun k _ => n - (intOf k).toNat)
          case atStart => exact ⟨0, _, _, by omega, rfl, HJ0.out⟩
          case round =>
            clear HJ0
            obtain ⟨j, u, v, hjn, rfl, hJ⟩ := hrel
            have HJr : Hid (SJ w wr X B j j u v) := hJ
            clear hJ
            by_cases hj : j < n
            · have hj' : (j : Int) < (n : Int) := by omega
              go_upto_region 12 with fail
              go_cut [36] (fun _ wx => ∃ v', SJ w wx X B j (j + 1) u v')
              case first =>
                have HJ : Hid (SJ w wr.drew X B j j u v) := HJr.out.below ((Below.refl _ wr).drew)
                clear HJr
                refine wp_region_noPanic ?_
                refine wp_region_held_drew (S := fun _ => True) (by kernel_rfl) ?_ (fun hHeld => ?_)
                · ((try dsimp only); skip)
                (try dsimp only at hHeld)
                refine wpAnyH_take (i := 0) (oi := ⟨some 30, _, _, _, _, _⟩) (v := ?_) rfl (by kernel_rfl) (by kernel_rfl) (by kernel_rfl) (fun _ _ _ h => h) (Or.inl ⟨by rfl, ?_⟩) (by assumption) ?_
                rotate_left
                · (intro w hSw; (try dsimp only at hSw); go_simp; try (with_reducible rfl))
                (try dsimp only); (try simp only [Act.put, List.setIfInBounds_toArray, List.set_cons_zero, List.set_cons_succ])
                refine wpAnyH_take (i := 2) (oi := ⟨some 32, _, _, _, _, _⟩) (v := ?_) rfl (by kernel_rfl) (by kernel_rfl) (by kernel_rfl) (fun _ _ _ h => h) (Or.inl ⟨by rfl, ?_⟩) (by assumption) ?_
                rotate_left
                · (intro w hSw; (try dsimp only at hSw); go_simp; try (with_reducible rfl))
                (try dsimp only); (try simp only [Act.put, List.setIfInBounds_toArray, List.set_cons_zero, List.set_cons_succ])
                refine wpAnyH_ready (rs := [1, 3]) (by kernel_rfl) (by simp) ?_
                refine AllReadyH.cons (o := ⟨some 31, _, _, _, _, _⟩) rfl (fun K hK => ?_) (AllReadyH.cons (o := ⟨some 33, _, _, _, _, _⟩) rfl (fun K hK => ?_) AllReadyH.nil)
                · have c20 := HJ.out.bX.cell 20
                  simp only [List.getElem?_toArray, List.getElem?_cons_zero, List.getElem?_cons_succ] at c20
                  go_simp
                  clear c20
                  refine hK.out _ _ trivial (fun hHeld => ?_)
                  clear hK K
                  (try dsimp only at hHeld)
                  (try dsimp only); (try simp only [Act.put, List.setIfInBounds_toArray, List.set_cons_zero, List.set_cons_succ])
                  refine wpAnyH_ready (rs := [3]) (by kernel_rfl) (by simp) ?_
                  refine AllReadyH.cons (o := ⟨some 33, _, _, _, _, _⟩) rfl (fun K hK => ?_) AllReadyH.nil
                  refine step_make B (by omega) (by rfl) _ rfl rfl ?_
                  intro w1 hM hbM hzM
                  replace HJ : Hid (SJ w w1 X B j j u v) := HJ.out.below hbM
                  have HM : Hid _ := hM
                  clear hM hbM hzM
                  refine hK.out _ _ trivial (fun hHeld => ?_)
                  clear hK K
                  (try dsimp only at hHeld)
                  (try dsimp only); (try simp only [Act.put, List.setIfInBounds_toArray, List.set_cons_zero, List.set_cons_succ])
                  refine wpAnyH_ready (rs := [4]) (by kernel_rfl) (by simp) ?_
                  refine AllReadyH.cons (o := ⟨some 34, _, _, _, _, _⟩) rfl (fun K hK => ?_) AllReadyH.nil
                  refine step_conv B _ (by rfl) _ rfl rfl HM.out ?_
                  refine hK.out _ _ trivial (fun hHeld => ?_)
                  clear hK K
                  (try dsimp only at hHeld)
                  (try dsimp only); (try simp only [Act.put, List.setIfInBounds_toArray, List.set_cons_zero, List.set_cons_succ])
                  refine wpAnyH_ready (rs := [5]) (by kernel_rfl) (by simp) ?_
                  refine AllReadyH.cons (o := ⟨some 35, _, _, _, _, _⟩) rfl (fun K hK => ?_) AllReadyH.nil
                  go_simp
                  obtain ⟨w2, hw2⟩ : ∃ W, W = w1.alloc (.cells #[.string (zb B)] 9) := ⟨_, rfl⟩
                  obtain ⟨g2, hg2⟩ : ∃ g, g = w1.heap.size := ⟨_, rfl⟩
                  have hb2 : Below w1.heap.size w1 w2 := by rw [hw2]; exact (Below.refl _ _).alloc (Nat.le_refl _) _
                  replace HJ : Hid (SJ w w2 X B j j u v) := HJ.out.below hb2
                  have HG : Hid (Bk w2 g2 #[.string (zb B)] 9) := by show Bk _ _ _ _; rw [hw2, hg2]; exact Bk.new _ _ _
                  rw [← hw2, ← hg2]
                  clear hw2 hg2 hb2
                  refine hK.out _ _ trivial (fun hHeld => ?_)
                  clear hK K
                  (try dsimp only at hHeld)
                  (try dsimp only); (try simp only [Act.put, List.setIfInBounds_toArray, List.set_cons_zero, List.set_cons_succ])
                  refine wpAnyH_ready (rs := [6]) (by kernel_rfl) (by simp) ?_
                  refine AllReadyH.cons (o := ⟨some 36, _, _, _, _, _⟩) rfl (fun K hK => ?_) AllReadyH.nil
                  rw [if_pos (by rfl)]
                  refine wp_append_own _ _ _ 28 (by rfl) w.heap.size 9 i9 (.string ⟨#[]⟩) 1 16 Try.underlying28 HI9.out.1 HI9.out.2.1 HI9.out.2.2.1 HI9.out.2.2.2 rfl (by decide) v j _ rfl (by have := HJ.out.hV; unfold Or at this; rw [List.length_replicate] at this; exact this) ⟨g2, 0, none⟩ 1 1 [cS (zb B)] rfl rfl (cell_blk1 HG.out) (fun x hx => by obtain rfl : x = cS (zb B) := (by simpa using hx); rfl) (by unfold maxLen; omega) (by omega) HJ.out.hB.size ?_
                  intro v' w3 hown hg _
                  obtain ⟨aN, cN, rfl⟩ := own_shp7 hown
                  obtain ⟨hJ3, hX3⟩ := HJ.out.blob hown hg
                  have HJ3 : Hid (SJ w (w3.setCell ⟨X, 20, none⟩ (.slice aN (j + 1) cN)) X B j (j + 1) u (.slice aN (j + 1) cN)) := hJ3
                  have HX3 : Hid (Bk w3 X (txc (tij B j j) u v) 30) := hX3
                  clear hown hg hJ3 hX3
                  refine hK.out _ _ trivial (fun hHeld => ?_)
                  clear hK K
                  (try dsimp only at hHeld)
                  (try dsimp only); (try simp only [Act.put, List.setIfInBounds_toArray, List.set_cons_zero, List.set_cons_succ])
                  refine wpAnyH_take (i := 7) (oi := ⟨some 37, _, _, _, _, _⟩) (v := ?_) rfl (by kernel_rfl) (by kernel_rfl) (by kernel_rfl) (fun _ _ _ h => h) (Or.inl ⟨by rfl, ?_⟩) (by assumption) ?_
                  rotate_left
                  · (intro w hSw; (try dsimp only at hSw); go_simp; try (with_reducible rfl))
                  (try dsimp only); (try simp only [Act.put, List.setIfInBounds_toArray, List.set_cons_zero, List.set_cons_succ])
                  refine wpAnyH_ready (rs := [8]) (by kernel_rfl) (by simp) ?_
                  refine AllReadyH.cons (o := ⟨none, _, _, _, _, _⟩) rfl (fun K hK => ?_) AllReadyH.nil
                  have lX := HX3.out.lt
                  have c20 := HX3.out.cell 20
                  have f20 := HX3.out.frozen 20
                  simp only [List.getElem?_toArray, List.getElem?_cons_zero, List.getElem?_cons_succ] at c20
                  go_simp
                  clear c20 f20
                  refine hK.out _ _ trivial (fun hHeld => ?_)
                  clear hK K
                  (try dsimp only at hHeld)
                  (try dsimp only); (try simp only [Act.put, List.setIfInBounds_toArray, List.set_cons_zero, List.set_cons_succ])
                  refine wpAnyH_done (by kernel_rfl) ?_ _
                  refine NoPanic.normal ?_
                  go_wp2_with fail
                  go_meet
                  exact ⟨_, HJ3.out⟩
                · refine step_make B (by omega) (by rfl) _ rfl rfl ?_
                  intro w1 hM hbM hzM
                  replace HJ : Hid (SJ w w1 X B j j u v) := HJ.out.below hbM
                  have HM : Hid _ := hM
                  clear hM hbM hzM
                  refine hK.out _ _ trivial (fun hHeld => ?_)
                  clear hK K
                  (try dsimp only at hHeld)
                  (try dsimp only); (try simp only [Act.put, List.setIfInBounds_toArray, List.set_cons_zero, List.set_cons_succ])
                  refine wpAnyH_ready (rs := [1, 4]) (by kernel_rfl) (by simp) ?_
                  refine AllReadyH.cons (o := ⟨some 31, _, _, _, _, _⟩) rfl (fun K hK => ?_) (AllReadyH.cons (o := ⟨some 34, _, _, _, _, _⟩) rfl (fun K hK => ?_) AllReadyH.nil)
                  · have c20 := HJ.out.bX.cell 20
                    simp only [List.getElem?_toArray, List.getElem?_cons_zero, List.getElem?_cons_succ] at c20
                    go_simp
                    clear c20
                    refine hK.out _ _ trivial (fun hHeld => ?_)
                    clear hK K
                    (try dsimp only at hHeld)
                    (try dsimp only); (try simp only [Act.put, List.setIfInBounds_toArray, List.set_cons_zero, List.set_cons_succ])
                    refine wpAnyH_ready (rs := [4]) (by kernel_rfl) (by simp) ?_
                    refine AllReadyH.cons (o := ⟨some 34, _, _, _, _, _⟩) rfl (fun K hK => ?_) AllReadyH.nil
                    refine step_conv B _ (by rfl) _ rfl rfl HM.out ?_
                    refine hK.out _ _ trivial (fun hHeld => ?_)
                    clear hK K
                    (try dsimp only at hHeld)
                    (try dsimp only); (try simp only [Act.put, List.setIfInBounds_toArray, List.set_cons_zero, List.set_cons_succ])
                    refine wpAnyH_ready (rs := [5]) (by kernel_rfl) (by simp) ?_
                    refine AllReadyH.cons (o := ⟨some 35, _, _, _, _, _⟩) rfl (fun K hK => ?_) AllReadyH.nil
                    go_simp
                    obtain ⟨w2, hw2⟩ : ∃ W, W = w1.alloc (.cells #[.string (zb B)] 9) := ⟨_, rfl⟩
                    obtain ⟨g2, hg2⟩ : ∃ g, g = w1.heap.size := ⟨_, rfl⟩
                    have hb2 : Below w1.heap.size w1 w2 := by rw [hw2]; exact (Below.refl _ _).alloc (Nat.le_refl _) _
                    replace HJ : Hid (SJ w w2 X B j j u v) := HJ.out.below hb2
                    have HG : Hid (Bk w2 g2 #[.string (zb B)] 9) := by show Bk _ _ _ _; rw [hw2, hg2]; exact Bk.new _ _ _
                    rw [← hw2, ← hg2]
                    clear hw2 hg2 hb2
                    refine hK.out _ _ trivial (fun hHeld => ?_)
                    clear hK K
                    (try dsimp only at hHeld)
                    (try dsimp only); (try simp only [Act.put, List.setIfInBounds_toArray, List.set_cons_zero, List.set_cons_succ])
                    refine wpAnyH_ready (rs := [6]) (by kernel_rfl) (by simp) ?_
                    refine AllReadyH.cons (o := ⟨some 36, _, _, _, _, _⟩) rfl (fun K hK => ?_) AllReadyH.nil
                    rw [if_pos (by rfl)]
                    refine wp_append_own _ _ _ 28 (by rfl) w.heap.size 9 i9 (.string ⟨#[]⟩) 1 16 Try.underlying28 HI9.out.1 HI9.out.2.1 HI9.out.2.2.1 HI9.out.2.2.2 rfl (by decide) v j _ rfl (by have := HJ.out.hV; unfold Or at this; rw [List.length_replicate] at this; exact this) ⟨g2, 0, none⟩ 1 1 [cS (zb B)] rfl rfl (cell_blk1 HG.out) (fun x hx => by obtain rfl : x = cS (zb B) := (by simpa using hx); rfl) (by unfold maxLen; omega) (by omega) HJ.out.hB.size ?_
                    intro v' w3 hown hg _
                    obtain ⟨aN, cN, rfl⟩ := own_shp7 hown
                    obtain ⟨hJ3, hX3⟩ := HJ.out.blob hown hg
                    have HJ3 : Hid (SJ w (w3.setCell ⟨X, 20, none⟩ (.slice aN (j + 1) cN)) X B j (j + 1) u (.slice aN (j + 1) cN)) := hJ3
                    have HX3 : Hid (Bk w3 X (txc (tij B j j) u v) 30) := hX3
                    clear hown hg hJ3 hX3
                    refine hK.out _ _ trivial (fun hHeld => ?_)
                    clear hK K
                    (try dsimp only at hHeld)
                    (try dsimp only); (try simp only [Act.put, List.setIfInBounds_toArray, List.set_cons_zero, List.set_cons_succ])
                    refine wpAnyH_take (i := 7) (oi := ⟨some 37, _, _, _, _, _⟩) (v := ?_) rfl (by kernel_rfl) (by kernel_rfl) (by kernel_rfl) (fun _ _ _ h => h) (Or.inl ⟨by rfl, ?_⟩) (by assumption) ?_
                    rotate_left
                    · (intro w hSw; (try dsimp only at hSw); go_simp; try (with_reducible rfl))
                    (try dsimp only); (try simp only [Act.put, List.setIfInBounds_toArray, List.set_cons_zero, List.set_cons_succ])
                    refine wpAnyH_ready (rs := [8]) (by kernel_rfl) (by simp) ?_
                    refine AllReadyH.cons (o := ⟨none, _, _, _, _, _⟩) rfl (fun K hK => ?_) AllReadyH.nil
                    have lX := HX3.out.lt
                    have c20 := HX3.out.cell 20
                    have f20 := HX3.out.frozen 20
                    simp only [List.getElem?_toArray, List.getElem?_cons_zero, List.getElem?_cons_succ] at c20
                    go_simp
                    clear c20 f20
                    refine hK.out _ _ trivial (fun hHeld => ?_)
                    clear hK K
                    (try dsimp only at hHeld)
                    (try dsimp only); (try simp only [Act.put, List.setIfInBounds_toArray, List.set_cons_zero, List.set_cons_succ])
                    refine wpAnyH_done (by kernel_rfl) ?_ _
                    refine NoPanic.normal ?_
                    go_wp2_with fail
                    go_meet
                    exact ⟨_, HJ3.out⟩
                  · refine step_conv B _ (by rfl) _ rfl rfl HM.out ?_
                    refine hK.out _ _ trivial (fun hHeld => ?_)
                    clear hK K
                    (try dsimp only at hHeld)
                    (try dsimp only); (try simp only [Act.put, List.setIfInBounds_toArray, List.set_cons_zero, List.set_cons_succ])
                    refine wpAnyH_ready (rs := [1, 5]) (by kernel_rfl) (by simp) ?_
                    refine AllReadyH.cons (o := ⟨some 31, _, _, _, _, _⟩) rfl (fun K hK => ?_) (AllReadyH.cons (o := ⟨some 35, _, _, _, _, _⟩) rfl (fun K hK => ?_) AllReadyH.nil)
                    · have c20 := HJ.out.bX.cell 20
                      simp only [List.getElem?_toArray, List.getElem?_cons_zero, List.getElem?_cons_succ] at c20
                      go_simp
                      clear c20
                      refine hK.out _ _ trivial (fun hHeld => ?_)
                      clear hK K
                      (try dsimp only at hHeld)
                      (try dsimp only); (try simp only [Act.put, List.setIfInBounds_toArray, List.set_cons_zero, List.set_cons_succ])
                      refine wpAnyH_ready (rs := [5]) (by kernel_rfl) (by simp) ?_
                      refine AllReadyH.cons (o := ⟨some 35, _, _, _, _, _⟩) rfl (fun K hK => ?_) AllReadyH.nil
                      go_simp
                      obtain ⟨w2, hw2⟩ : ∃ W, W = w1.alloc (.cells #[.string (zb B)] 9) := ⟨_, rfl⟩
                      obtain ⟨g2, hg2⟩ : ∃ g, g = w1.heap.size := ⟨_, rfl⟩
                      have hb2 : Below w1.heap.size w1 w2 := by rw [hw2]; exact (Below.refl _ _).alloc (Nat.le_refl _) _
                      replace HJ : Hid (SJ w w2 X B j j u v) := HJ.out.below hb2
                      have HG : Hid (Bk w2 g2 #[.string (zb B)] 9) := by show Bk _ _ _ _; rw [hw2, hg2]; exact Bk.new _ _ _
                      rw [← hw2, ← hg2]
                      clear hw2 hg2 hb2
                      refine hK.out _ _ trivial (fun hHeld => ?_)
                      clear hK K
                      (try dsimp only at hHeld)
                      (try dsimp only); (try simp only [Act.put, List.setIfInBounds_toArray, List.set_cons_zero, List.set_cons_succ])
                      refine wpAnyH_ready (rs := [6]) (by kernel_rfl) (by simp) ?_
                      refine AllReadyH.cons (o := ⟨some 36, _, _, _, _, _⟩) rfl (fun K hK => ?_) AllReadyH.nil
                      rw [if_pos (by rfl)]
                      refine wp_append_own _ _ _ 28 (by rfl) w.heap.size 9 i9 (.string ⟨#[]⟩) 1 16 Try.underlying28 HI9.out.1 HI9.out.2.1 HI9.out.2.2.1 HI9.out.2.2.2 rfl (by decide) v j _ rfl (by have := HJ.out.hV; unfold Or at this; rw [List.length_replicate] at this; exact this) ⟨g2, 0, none⟩ 1 1 [cS (zb B)] rfl rfl (cell_blk1 HG.out) (fun x hx => by obtain rfl : x = cS (zb B) := (by simpa using hx); rfl) (by unfold maxLen; omega) (by omega) HJ.out.hB.size ?_
                      intro v' w3 hown hg _
                      obtain ⟨aN, cN, rfl⟩ := own_shp7 hown
                      obtain ⟨hJ3, hX3⟩ := HJ.out.blob hown hg
                      have HJ3 : Hid (SJ w (w3.setCell ⟨X, 20, none⟩ (.slice aN (j + 1) cN)) X B j (j + 1) u (.slice aN (j + 1) cN)) := hJ3
                      have HX3 : Hid (Bk w3 X (txc (tij B j j) u v) 30) := hX3
                      clear hown hg hJ3 hX3
                      refine hK.out _ _ trivial (fun hHeld => ?_)
                      clear hK K
                      (try dsimp only at hHeld)
                      (try dsimp only); (try simp only [Act.put, List.setIfInBounds_toArray, List.set_cons_zero, List.set_cons_succ])
                      refine wpAnyH_take (i := 7) (oi := ⟨some 37, _, _, _, _, _⟩) (v := ?_) rfl (by kernel_rfl) (by kernel_rfl) (by kernel_rfl) (fun _ _ _ h => h) (Or.inl ⟨by rfl, ?_⟩) (by assumption) ?_
                      rotate_left
                      · (intro w hSw; (try dsimp only at hSw); go_simp; try (with_reducible rfl))
                      (try dsimp only); (try simp only [Act.put, List.setIfInBounds_toArray, List.set_cons_zero, List.set_cons_succ])
                      refine wpAnyH_ready (rs := [8]) (by kernel_rfl) (by simp) ?_
                      refine AllReadyH.cons (o := ⟨none, _, _, _, _, _⟩) rfl (fun K hK => ?_) AllReadyH.nil
                      have lX := HX3.out.lt
                      have c20 := HX3.out.cell 20
                      have f20 := HX3.out.frozen 20
                      simp only [List.getElem?_toArray, List.getElem?_cons_zero, List.getElem?_cons_succ] at c20
                      go_simp
                      clear c20 f20
                      refine hK.out _ _ trivial (fun hHeld => ?_)
                      clear hK K
                      (try dsimp only at hHeld)
                      (try dsimp only); (try simp only [Act.put, List.setIfInBounds_toArray, List.set_cons_zero, List.set_cons_succ])
                      refine wpAnyH_done (by kernel_rfl) ?_ _
                      refine NoPanic.normal ?_
                      go_wp2_with fail
                      go_meet
                      exact ⟨_, HJ3.out⟩
                    · go_simp
                      obtain ⟨w2, hw2⟩ : ∃ W, W = w1.alloc (.cells #[.string (zb B)] 9) := ⟨_, rfl⟩
                      obtain ⟨g2, hg2⟩ : ∃ g, g = w1.heap.size := ⟨_, rfl⟩
                      have hb2 : Below w1.heap.size w1 w2 := by rw [hw2]; exact (Below.refl _ _).alloc (Nat.le_refl _) _
                      replace HJ : Hid (SJ w w2 X B j j u v) := HJ.out.below hb2
                      have HG : Hid (Bk w2 g2 #[.string (zb B)] 9) := by show Bk _ _ _ _; rw [hw2, hg2]; exact Bk.new _ _ _
                      rw [← hw2, ← hg2]
                      clear hw2 hg2 hb2
                      refine hK.out _ _ trivial (fun hHeld => ?_)
                      clear hK K
                      (try dsimp only at hHeld)
                      (try dsimp only); (try simp only [Act.put, List.setIfInBounds_toArray, List.set_cons_zero, List.set_cons_succ])
                      refine wpAnyH_ready (rs := [1]) (by kernel_rfl) (by simp) ?_
                      refine AllReadyH.cons (o := ⟨some 31, _, _, _, _, _⟩) rfl (fun K hK => ?_) AllReadyH.nil
                      have c20 := HJ.out.bX.cell 20
                      simp only [List.getElem?_toArray, List.getElem?_cons_zero, List.getElem?_cons_succ] at c20
                      go_simp
                      clear c20
                      refine hK.out _ _ trivial (fun hHeld => ?_)
                      clear hK K
                      (try dsimp only at hHeld)
                      (try dsimp only); (try simp only [Act.put, List.setIfInBounds_toArray, List.set_cons_zero, List.set_cons_succ])
                      refine wpAnyH_ready (rs := [6]) (by kernel_rfl) (by simp) ?_
                      refine AllReadyH.cons (o := ⟨some 36, _, _, _, _, _⟩) rfl (fun K hK => ?_) AllReadyH.nil
                      rw [if_pos (by rfl)]
                      refine wp_append_own _ _ _ 28 (by rfl) w.heap.size 9 i9 (.string ⟨#[]⟩) 1 16 Try.underlying28 HI9.out.1 HI9.out.2.1 HI9.out.2.2.1 HI9.out.2.2.2 rfl (by decide) v j _ rfl (by have := HJ.out.hV; unfold Or at this; rw [List.length_replicate] at this; exact this) ⟨g2, 0, none⟩ 1 1 [cS (zb B)] rfl rfl (cell_blk1 HG.out) (fun x hx => by obtain rfl : x = cS (zb B) := (by simpa using hx); rfl) (by unfold maxLen; omega) (by omega) HJ.out.hB.size ?_
                      intro v' w3 hown hg _
                      obtain ⟨aN, cN, rfl⟩ := own_shp7 hown
                      obtain ⟨hJ3, hX3⟩ := HJ.out.blob hown hg
                      have HJ3 : Hid (SJ w (w3.setCell ⟨X, 20, none⟩ (.slice aN (j + 1) cN)) X B j (j + 1) u (.slice aN (j + 1) cN)) := hJ3
                      have HX3 : Hid (Bk w3 X (txc (tij B j j) u v) 30) := hX3
                      clear hown hg hJ3 hX3
                      refine hK.out _ _ trivial (fun hHeld => ?_)
                      clear hK K
                      (try dsimp only at hHeld)
                      (try dsimp only); (try simp only [Act.put, List.setIfInBounds_toArray, List.set_cons_zero, List.set_cons_succ])
                      refine wpAnyH_take (i := 7) (oi := ⟨some 37, _, _, _, _, _⟩) (v := ?_) rfl (by kernel_rfl) (by kernel_rfl) (by kernel_rfl) (fun _ _ _ h => h) (Or.inl ⟨by rfl, ?_⟩) (by assumption) ?_
                      rotate_left
                      · (intro w hSw; (try dsimp only at hSw); go_simp; try (with_reducible rfl))
                      (try dsimp only); (try simp only [Act.put, List.setIfInBounds_toArray, List.set_cons_zero, List.set_cons_succ])
                      refine wpAnyH_ready (rs := [8]) (by kernel_rfl) (by simp) ?_
                      refine AllReadyH.cons (o := ⟨none, _, _, _, _, _⟩) rfl (fun K hK => ?_) AllReadyH.nil
                      have lX := HX3.out.lt
                      have c20 := HX3.out.cell 20
                      have f20 := HX3.out.frozen 20
                      simp only [List.getElem?_toArray, List.getElem?_cons_zero, List.getElem?_cons_succ] at c20
                      go_simp
                      clear c20 f20
                      refine hK.out _ _ trivial (fun hHeld => ?_)
                      clear hK K
                      (try dsimp only at hHeld)
                      (try dsimp only); (try simp only [Act.put, List.setIfInBounds_toArray, List.set_cons_zero, List.set_cons_succ])
                      refine wpAnyH_done (by kernel_rfl) ?_ _
                      refine NoPanic.normal ?_
                      go_wp2_with fail
                      go_meet
                      exact ⟨_, HJ3.out⟩
              case rest =>
                obtain ⟨v1, hJ1⟩ := hcut
                obtain ⟨aV, cV, rfl, -⟩ := hJ1.hV.shape
                have hl : (List.replicate (j + 1) (zb B)).length = j + 1 := List.length_replicate ..
                rw [hl] at hJ1
                clear HJr hl
                have HJr : Hid (SJ w wc X B j (j + 1) u (.slice aV (j + 1) cV)) := hJ1
                clear hJ1
                obtain ⟨gV, rfl, hcel⟩ := HJr.out.last
                have HC : Hid (wc.cell? ⟨gV, j, none⟩ = some (.string (zb B))) := hcel
                have HH : Hid (∀ w, Calls Try.prog 35 #[.string (zb B)] w fun e w' => e = .returned (.int .u64 (hz B : Int)) ∧ w' = w) := fun w => rhash (zb B) (by rw [zb_size]; omega) w
                clear hcel
                have hjj : (j : Int) < (j : Int) + 1 := by omega
                go_upto_region 13 with fail
                have HJ : Hid (SJ w wc.drew X B j (j + 1) u (.slice (some ⟨gV, 0, none⟩) (j + 1) cV)) := HJr.out.below ((Below.refl _ wc).drew)
                refine wp_region_noPanic ?_
                refine wp_region_held_drew (S := fun _ => True) (by kernel_rfl) ?_ (fun hHeld => ?_)
                · ((try dsimp only); skip)
                (try dsimp only at hHeld)
                refine wpAnyH_take (i := 0) (oi := ⟨some 38, _, _, _, _, _⟩) (v := ?_) rfl (by kernel_rfl) (by kernel_rfl) (by kernel_rfl) (fun _ _ _ h => h) (Or.inl ⟨by rfl, ?_⟩) (by assumption) ?_
                rotate_left
                · (intro w hSw; (try dsimp only at hSw); go_simp; try (with_reducible rfl))
                (try dsimp only); (try simp only [Act.put, List.setIfInBounds_toArray, List.set_cons_zero, List.set_cons_succ])
                refine wpAnyH_take (i := 2) (oi := ⟨some 40, _, _, _, _, _⟩) (v := ?_) rfl (by kernel_rfl) (by kernel_rfl) (by kernel_rfl) (fun _ _ _ h => h) (Or.inl ⟨by rfl, ?_⟩) (by assumption) ?_
                rotate_left
                · (intro w hSw; (try dsimp only at hSw); go_simp; try (with_reducible rfl))
                (try dsimp only); (try simp only [Act.put, List.setIfInBounds_toArray, List.set_cons_zero, List.set_cons_succ])
                refine wpAnyH_take (i := 4) (oi := ⟨some 42, _, _, _, _, _⟩) (v := ?_) rfl (by kernel_rfl) (by kernel_rfl) (by kernel_rfl) (fun _ _ _ h => h) (Or.inl ⟨by rfl, ?_⟩) (by assumption) ?_
                rotate_left
                · (intro w hSw; (try dsimp only at hSw); go_simp; try (with_reducible rfl))
                (try dsimp only); (try simp only [Act.put, List.setIfInBounds_toArray, List.set_cons_zero, List.set_cons_succ])
                refine wpAnyH_ready (rs := [1, 3]) (by kernel_rfl) (by simp) ?_
                refine AllReadyH.cons (o := ⟨some 39, _, _, _, _, _⟩) rfl (fun K hK => ?_) (AllReadyH.cons (o := ⟨some 41, _, _, _, _, _⟩) rfl (fun K hK => ?_) AllReadyH.nil)
                · have c19 := HJ.out.bX.cell 19
                  simp only [List.getElem?_toArray, List.getElem?_cons_zero, List.getElem?_cons_succ] at c19
                  go_simp
                  clear c19
                  refine hK.out _ _ trivial (fun hHeld => ?_)
                  clear hK K
                  (try dsimp only at hHeld)
                  (try dsimp only); (try simp only [Act.put, List.setIfInBounds_toArray, List.set_cons_zero, List.set_cons_succ])
                  refine wpAnyH_ready (rs := [3]) (by kernel_rfl) (by simp) ?_
                  refine AllReadyH.cons (o := ⟨some 41, _, _, _, _, _⟩) rfl (fun K hK => ?_) AllReadyH.nil
                  have c20 := HJ.out.bX.cell 20
                  simp only [List.getElem?_toArray, List.getElem?_cons_zero, List.getElem?_cons_succ] at c20
                  go_simp
                  clear c20
                  refine hK.out _ _ trivial (fun hHeld => ?_)
                  clear hK K
                  (try dsimp only at hHeld)
                  (try dsimp only); (try simp only [Act.put, List.setIfInBounds_toArray, List.set_cons_zero, List.set_cons_succ])
                  refine wpAnyH_take (i := 5) (oi := ⟨some 43, _, _, _, _, _⟩) (v := ?_) rfl (by kernel_rfl) (by kernel_rfl) (by kernel_rfl) (fun _ _ _ h => h) (Or.inl ⟨by rfl, ?_⟩) (by assumption) ?_
                  rotate_left
                  · (intro w hSw; (try dsimp only at hSw); go_simp; try (with_reducible rfl))
                  (try dsimp only); (try simp only [Act.put, List.setIfInBounds_toArray, List.set_cons_zero, List.set_cons_succ])
                  refine wpAnyH_ready (rs := [6]) (by kernel_rfl) (by simp) ?_
                  refine AllReadyH.cons (o := ⟨some 44, _, _, _, _, _⟩) rfl (fun K hK => ?_) AllReadyH.nil
                  have cel := HC.out
                  go_simp
                  clear cel
                  refine hK.out _ _ trivial (fun hHeld => ?_)
                  clear hK K
                  (try dsimp only at hHeld)
                  (try dsimp only); (try simp only [Act.put, List.setIfInBounds_toArray, List.set_cons_zero, List.set_cons_succ])
                  refine wpAnyH_ready (rs := [7]) (by kernel_rfl) (by simp) ?_
                  refine AllReadyH.cons (o := ⟨some 45, _, _, _, _, _⟩) rfl (fun K hK => ?_) AllReadyH.nil
                  go_simp
                  go_wp2_with (go_at_call 35; refine (HH.out _).mono ?_; rintro e wH ⟨rfl, hwH⟩; have hwH := hwH.symm; subst hwH)
                  refine hK.out _ _ trivial (fun hHeld => ?_)
                  clear hK K
                  (try dsimp only at hHeld)
                  (try dsimp only); (try simp only [Act.put, List.setIfInBounds_toArray, List.set_cons_zero, List.set_cons_succ])
                  refine wpAnyH_ready (rs := [8]) (by kernel_rfl) (by simp) ?_
                  refine AllReadyH.cons (o := ⟨some 46, _, _, _, _, _⟩) rfl (fun K hK => ?_) AllReadyH.nil
                  go_simp
                  obtain ⟨w2, hw2⟩ : ∃ W, W = (wc.alloc (.cells #[.int .u64 (hz B : Int)] 24)).drew := ⟨_, rfl⟩
                  obtain ⟨g2, hg2⟩ : ∃ g, g = wc.heap.size := ⟨_, rfl⟩
                  have hb2 : Below wc.heap.size wc w2 := by rw [hw2]; exact ((Below.refl _ _).alloc (Nat.le_refl _) _).drew
                  have HJ9 : Hid (SJ w w2 X B j (j + 1) u (.slice (some ⟨gV, 0, none⟩) (j + 1) cV)) := HJr.out.below hb2
                  have HG : Hid (Bk w2 g2 #[.int .u64 (hz B : Int)] 24) := by show Bk _ _ _ _; rw [hw2, hg2]; exact (Bk.new _ _ _ : Bk (wc.alloc (.cells #[.int .u64 (hz B : Int)] 24)) wc.heap.size _ _)
                  rw [← hw2, ← hg2]
                  clear hw2 hg2 hb2
                  refine hK.out _ _ trivial (fun hHeld => ?_)
                  clear hK K
                  (try dsimp only at hHeld)
                  (try dsimp only); (try simp only [Act.put, List.setIfInBounds_toArray, List.set_cons_zero, List.set_cons_succ])
                  refine wpAnyH_ready (rs := [9]) (by kernel_rfl) (by simp) ?_
                  refine AllReadyH.cons (o := ⟨some 47, _, _, _, _, _⟩) rfl (fun K hK => ?_) AllReadyH.nil
                  rw [if_pos (by rfl)]
                  refine wp_append_own _ _ _ 27 (by rfl) w.heap.size 24 iU (.int .u64 0) 1 8 Try.underlying27 HIU.out.1 HIU.out.2.1 HIU.out.2.2.1 HIU.out.2.2.2 rfl (by decide) u j _ rfl (by have := HJ9.out.hU; unfold Or at this; rw [List.length_replicate] at this; exact this) ⟨g2, 0, none⟩ 1 1 [cU (hz B)] rfl rfl (cell_blk1 HG.out) (fun x hx => by obtain rfl : x = cU (hz B) := (by simpa using hx); rfl) (by unfold maxLen; omega) (by omega) HJ9.out.hB.size ?_
                  intro u' w3 hown hg _
                  obtain ⟨aN, cN, rfl⟩ := own_shp7 hown
                  obtain ⟨hJ3, hX3⟩ := HJ9.out.hash hown hg
                  have HJ3 : Hid (SJ w (w3.setCell ⟨X, 19, none⟩ (.slice aN (j + 1) cN)) X B (j + 1) (j + 1) (.slice aN (j + 1) cN) (.slice (some ⟨gV, 0, none⟩) (j + 1) cV)) := hJ3
                  have HX3 : Hid (Bk w3 X (txc (tij B j (j + 1)) u (.slice (some ⟨gV, 0, none⟩) (j + 1) cV)) 30) := hX3
                  clear hown hg hJ3 hX3
                  refine hK.out _ _ trivial (fun hHeld => ?_)
                  clear hK K
                  (try dsimp only at hHeld)
                  (try dsimp only); (try simp only [Act.put, List.setIfInBounds_toArray, List.set_cons_zero, List.set_cons_succ])
                  refine wpAnyH_take (i := 10) (oi := ⟨some 48, _, _, _, _, _⟩) (v := ?_) rfl (by kernel_rfl) (by kernel_rfl) (by kernel_rfl) (fun _ _ _ h => h) (Or.inl ⟨by rfl, ?_⟩) (by assumption) ?_
                  rotate_left
                  · (intro w hSw; (try dsimp only at hSw); go_simp; try (with_reducible rfl))
                  (try dsimp only); (try simp only [Act.put, List.setIfInBounds_toArray, List.set_cons_zero, List.set_cons_succ])
                  refine wpAnyH_ready (rs := [11]) (by kernel_rfl) (by simp) ?_
                  refine AllReadyH.cons (o := ⟨none, _, _, _, _, _⟩) rfl (fun K hK => ?_) AllReadyH.nil
                  have lX := HX3.out.lt
                  have c19 := HX3.out.cell 19
                  have f19 := HX3.out.frozen 19
                  simp only [List.getElem?_toArray, List.getElem?_cons_zero, List.getElem?_cons_succ] at c19
                  go_simp
                  clear c19 f19
                  refine hK.out _ _ trivial (fun hHeld => ?_)
                  clear hK K
                  (try dsimp only at hHeld)
                  (try dsimp only); (try simp only [Act.put, List.setIfInBounds_toArray, List.set_cons_zero, List.set_cons_succ])
                  refine wpAnyH_done (by kernel_rfl) ?_ _
                  refine NoPanic.normal ?_
                  go_wp2_with fail
                  go_roundw
                  case rel => exact ⟨j + 1, _, _, by omega, by go_num, HJ3.out⟩
                  case measure => simp [intOf]; omega
                · have c20 := HJ.out.bX.cell 20
                  simp only [List.getElem?_toArray, List.getElem?_cons_zero, List.getElem?_cons_succ] at c20
                  go_simp
                  clear c20
                  refine hK.out _ _ trivial (fun hHeld => ?_)
                  clear hK K
                  (try dsimp only at hHeld)
                  (try dsimp only); (try simp only [Act.put, List.setIfInBounds_toArray, List.set_cons_zero, List.set_cons_succ])
                  refine wpAnyH_take (i := 5) (oi := ⟨some 43, _, _, _, _, _⟩) (v := ?_) rfl (by kernel_rfl) (by kernel_rfl) (by kernel_rfl) (fun _ _ _ h => h) (Or.inl ⟨by rfl, ?_⟩) (by assumption) ?_
                  rotate_left
                  · (intro w hSw; (try dsimp only at hSw); go_simp; try (with_reducible rfl))
                  (try dsimp only); (try simp only [Act.put, List.setIfInBounds_toArray, List.set_cons_zero, List.set_cons_succ])
                  refine wpAnyH_ready (rs := [1, 6]) (by kernel_rfl) (by simp) ?_
                  refine AllReadyH.cons (o := ⟨some 39, _, _, _, _, _⟩) rfl (fun K hK => ?_) (AllReadyH.cons (o := ⟨some 44, _, _, _, _, _⟩) rfl (fun K hK => ?_) AllReadyH.nil)
                  · have c19 := HJ.out.bX.cell 19
                    simp only [List.getElem?_toArray, List.getElem?_cons_zero, List.getElem?_cons_succ] at c19
                    go_simp
                    clear c19
                    refine hK.out _ _ trivial (fun hHeld => ?_)
                    clear hK K
                    (try dsimp only at hHeld)
                    (try dsimp only); (try simp only [Act.put, List.setIfInBounds_toArray, List.set_cons_zero, List.set_cons_succ])
                    refine wpAnyH_ready (rs := [6]) (by kernel_rfl) (by simp) ?_
                    refine AllReadyH.cons (o := ⟨some 44, _, _, _, _, _⟩) rfl (fun K hK => ?_) AllReadyH.nil
                    have cel := HC.out
                    go_simp
                    clear cel
                    refine hK.out _ _ trivial (fun hHeld => ?_)
                    clear hK K
                    (try dsimp only at hHeld)
                    (try dsimp only); (try simp only [Act.put, List.setIfInBounds_toArray, List.set_cons_zero, List.set_cons_succ])
                    refine wpAnyH_ready (rs := [7]) (by kernel_rfl) (by simp) ?_
                    refine AllReadyH.cons (o := ⟨some 45, _, _, _, _, _⟩) rfl (fun K hK => ?_) AllReadyH.nil
                    go_simp
                    go_wp2_with (go_at_call 35; refine (HH.out _).mono ?_; rintro e wH ⟨rfl, hwH⟩; have hwH := hwH.symm; subst hwH)
                    refine hK.out _ _ trivial (fun hHeld => ?_)
                    clear hK K
                    (try dsimp only at hHeld)
                    (try dsimp only); (try simp only [Act.put, List.setIfInBounds_toArray, List.set_cons_zero, List.set_cons_succ])
                    refine wpAnyH_ready (rs := [8]) (by kernel_rfl) (by simp) ?_
                    refine AllReadyH.cons (o := ⟨some 46, _, _, _, _, _⟩) rfl (fun K hK => ?_) AllReadyH.nil
                    go_simp
                    obtain ⟨w2, hw2⟩ : ∃ W, W = (wc.alloc (.cells #[.int .u64 (hz B : Int)] 24)).drew := ⟨_, rfl⟩
                    obtain ⟨g2, hg2⟩ : ∃ g, g = wc.heap.size := ⟨_, rfl⟩
                    have hb2 : Below wc.heap.size wc w2 := by rw [hw2]; exact ((Below.refl _ _).alloc (Nat.le_refl _) _).drew
                    have HJ9 : Hid (SJ w w2 X B j (j + 1) u (.slice (some ⟨gV, 0, none⟩) (j + 1) cV)) := HJr.out.below hb2
                    have HG : Hid (Bk w2 g2 #[.int .u64 (hz B : Int)] 24) := by show Bk _ _ _ _; rw [hw2, hg2]; exact (Bk.new _ _ _ : Bk (wc.alloc (.cells #[.int .u64 (hz B : Int)] 24)) wc.heap.size _ _)
                    rw [← hw2, ← hg2]
                    clear hw2 hg2 hb2
                    refine hK.out _ _ trivial (fun hHeld => ?_)
                    clear hK K
                    (try dsimp only at hHeld)
                    (try dsimp only); (try simp only [Act.put, List.setIfInBounds_toArray, List.set_cons_zero, List.set_cons_succ])
                    refine wpAnyH_ready (rs := [9]) (by kernel_rfl) (by simp) ?_
                    refine AllReadyH.cons (o := ⟨some 47, _, _, _, _, _⟩) rfl (fun K hK => ?_) AllReadyH.nil
                    rw [if_pos (by rfl)]
                    refine wp_append_own _ _ _ 27 (by rfl) w.heap.size 24 iU (.int .u64 0) 1 8 Try.underlying27 HIU.out.1 HIU.out.2.1 HIU.out.2.2.1 HIU.out.2.2.2 rfl (by decide) u j _ rfl (by have := HJ9.out.hU; unfold Or at this; rw [List.length_replicate] at this; exact this) ⟨g2, 0, none⟩ 1 1 [cU (hz B)] rfl rfl (cell_blk1 HG.out) (fun x hx => by obtain rfl : x = cU (hz B) := (by simpa using hx); rfl) (by unfold maxLen; omega) (by omega) HJ9.out.hB.size ?_
                    intro u' w3 hown hg _
                    obtain ⟨aN, cN, rfl⟩ := own_shp7 hown
                    obtain ⟨hJ3, hX3⟩ := HJ9.out.hash hown hg
                    have HJ3 : Hid (SJ w (w3.setCell ⟨X, 19, none⟩ (.slice aN (j + 1) cN)) X B (j + 1) (j + 1) (.slice aN (j + 1) cN) (.slice (some ⟨gV, 0, none⟩) (j + 1) cV)) := hJ3
                    have HX3 : Hid (Bk w3 X (txc (tij B j (j + 1)) u (.slice (some ⟨gV, 0, none⟩) (j + 1) cV)) 30) := hX3
                    clear hown hg hJ3 hX3
                    refine hK.out _ _ trivial (fun hHeld => ?_)
                    clear hK K
                    (try dsimp only at hHeld)
                    (try dsimp only); (try simp only [Act.put, List.setIfInBounds_toArray, List.set_cons_zero, List.set_cons_succ])
                    refine wpAnyH_take (i := 10) (oi := ⟨some 48, _, _, _, _, _⟩) (v := ?_) rfl (by kernel_rfl) (by kernel_rfl) (by kernel_rfl) (fun _ _ _ h => h) (Or.inl ⟨by rfl, ?_⟩) (by assumption) ?_
                    rotate_left
                    · (intro w hSw; (try dsimp only at hSw); go_simp; try (with_reducible rfl))
                    (try dsimp only); (try simp only [Act.put, List.setIfInBounds_toArray, List.set_cons_zero, List.set_cons_succ])
                    refine wpAnyH_ready (rs := [11]) (by kernel_rfl) (by simp) ?_
                    refine AllReadyH.cons (o := ⟨none, _, _, _, _, _⟩) rfl (fun K hK => ?_) AllReadyH.nil
                    have lX := HX3.out.lt
                    have c19 := HX3.out.cell 19
                    have f19 := HX3.out.frozen 19
                    simp only [List.getElem?_toArray, List.getElem?_cons_zero, List.getElem?_cons_succ] at c19
                    go_simp
                    clear c19 f19
                    refine hK.out _ _ trivial (fun hHeld => ?_)
                    clear hK K
                    (try dsimp only at hHeld)
                    (try dsimp only); (try simp only [Act.put, List.setIfInBounds_toArray, List.set_cons_zero, List.set_cons_succ])
                    refine wpAnyH_done (by kernel_rfl) ?_ _
                    refine NoPanic.normal ?_
                    go_wp2_with fail
                    go_roundw
                    case rel => exact ⟨j + 1, _, _, by omega, by go_num, HJ3.out⟩
                    case measure => simp [intOf]; omega
                  · have cel := HC.out
                    go_simp
                    clear cel
                    refine hK.out _ _ trivial (fun hHeld => ?_)
                    clear hK K
                    (try dsimp only at hHeld)
                    (try dsimp only); (try simp only [Act.put, List.setIfInBounds_toArray, List.set_cons_zero, List.set_cons_succ])
                    refine wpAnyH_ready (rs := [1, 7]) (by kernel_rfl) (by simp) ?_
                    refine AllReadyH.cons (o := ⟨some 39, _, _, _, _, _⟩) rfl (fun K hK => ?_) (AllReadyH.cons (o := ⟨some 45, _, _, _, _, _⟩) rfl (fun K hK => ?_) AllReadyH.nil)
                    · have c19 := HJ.out.bX.cell 19
                      simp only [List.getElem?_toArray, List.getElem?_cons_zero, List.getElem?_cons_succ] at c19
                      go_simp
                      clear c19
                      refine hK.out _ _ trivial (fun hHeld => ?_)
                      clear hK K
                      (try dsimp only at hHeld)
                      (try dsimp only); (try simp only [Act.put, List.setIfInBounds_toArray, List.set_cons_zero, List.set_cons_succ])
                      refine wpAnyH_ready (rs := [7]) (by kernel_rfl) (by simp) ?_
                      refine AllReadyH.cons (o := ⟨some 45, _, _, _, _, _⟩) rfl (fun K hK => ?_) AllReadyH.nil
                      go_simp
                      go_wp2_with (go_at_call 35; refine (HH.out _).mono ?_; rintro e wH ⟨rfl, hwH⟩; have hwH := hwH.symm; subst hwH)
                      refine hK.out _ _ trivial (fun hHeld => ?_)
                      clear hK K
                      (try dsimp only at hHeld)
                      (try dsimp only); (try simp only [Act.put, List.setIfInBounds_toArray, List.set_cons_zero, List.set_cons_succ])
                      refine wpAnyH_ready (rs := [8]) (by kernel_rfl) (by simp) ?_
                      refine AllReadyH.cons (o := ⟨some 46, _, _, _, _, _⟩) rfl (fun K hK => ?_) AllReadyH.nil
                      go_simp
                      obtain ⟨w2, hw2⟩ : ∃ W, W = (wc.alloc (.cells #[.int .u64 (hz B : Int)] 24)).drew := ⟨_, rfl⟩
                      obtain ⟨g2, hg2⟩ : ∃ g, g = wc.heap.size := ⟨_, rfl⟩
                      have hb2 : Below wc.heap.size wc w2 := by rw [hw2]; exact ((Below.refl _ _).alloc (Nat.le_refl _) _).drew
                      have HJ9 : Hid (SJ w w2 X B j (j + 1) u (.slice (some ⟨gV, 0, none⟩) (j + 1) cV)) := HJr.out.below hb2
                      have HG : Hid (Bk w2 g2 #[.int .u64 (hz B : Int)] 24) := by show Bk _ _ _ _; rw [hw2, hg2]; exact (Bk.new _ _ _ : Bk (wc.alloc (.cells #[.int .u64 (hz B : Int)] 24)) wc.heap.size _ _)
                      rw [← hw2, ← hg2]
                      clear hw2 hg2 hb2
                      refine hK.out _ _ trivial (fun hHeld => ?_)
                      clear hK K
                      (try dsimp only at hHeld)
                      (try dsimp only); (try simp only [Act.put, List.setIfInBounds_toArray, List.set_cons_zero, List.set_cons_succ])
                      refine wpAnyH_ready (rs := [9]) (by kernel_rfl) (by simp) ?_
                      refine AllReadyH.cons (o := ⟨some 47, _, _, _, _, _⟩) rfl (fun K hK => ?_) AllReadyH.nil
                      rw [if_pos (by rfl)]
                      refine wp_append_own _ _ _ 27 (by rfl) w.heap.size 24 iU (.int .u64 0) 1 8 Try.underlying27 HIU.out.1 HIU.out.2.1 HIU.out.2.2.1 HIU.out.2.2.2 rfl (by decide) u j _ rfl (by have := HJ9.out.hU; unfold Or at this; rw [List.length_replicate] at this; exact this) ⟨g2, 0, none⟩ 1 1 [cU (hz B)] rfl rfl (cell_blk1 HG.out) (fun x hx => by obtain rfl : x = cU (hz B) := (by simpa using hx); rfl) (by unfold maxLen; omega) (by omega) HJ9.out.hB.size ?_
                      intro u' w3 hown hg _
                      obtain ⟨aN, cN, rfl⟩ := own_shp7 hown
                      obtain ⟨hJ3, hX3⟩ := HJ9.out.hash hown hg
                      have HJ3 : Hid (SJ w (w3.setCell ⟨X, 19, none⟩ (.slice aN (j + 1) cN)) X B (j + 1) (j + 1) (.slice aN (j + 1) cN) (.slice (some ⟨gV, 0, none⟩) (j + 1) cV)) := hJ3
                      have HX3 : Hid (Bk w3 X (txc (tij B j (j + 1)) u (.slice (some ⟨gV, 0, none⟩) (j + 1) cV)) 30) := hX3
                      clear hown hg hJ3 hX3
                      refine hK.out _ _ trivial (fun hHeld => ?_)
                      clear hK K
                      (try dsimp only at hHeld)
                      (try dsimp only); (try simp only [Act.put, List.setIfInBounds_toArray, List.set_cons_zero, List.set_cons_succ])
                      refine wpAnyH_take (i := 10) (oi := ⟨some 48, _, _, _, _, _⟩) (v := ?_) rfl (by kernel_rfl) (by kernel_rfl) (by kernel_rfl) (fun _ _ _ h => h) (Or.inl ⟨by rfl, ?_⟩) (by assumption) ?_
                      rotate_left
                      · (intro w hSw; (try dsimp only at hSw); go_simp; try (with_reducible rfl))
                      (try dsimp only); (try simp only [Act.put, List.setIfInBounds_toArray, List.set_cons_zero, List.set_cons_succ])
                      refine wpAnyH_ready (rs := [11]) (by kernel_rfl) (by simp) ?_
                      refine AllReadyH.cons (o := ⟨none, _, _, _, _, _⟩) rfl (fun K hK => ?_) AllReadyH.nil
                      have lX := HX3.out.lt
                      have c19 := HX3.out.cell 19
                      have f19 := HX3.out.frozen 19
                      simp only [List.getElem?_toArray, List.getElem?_cons_zero, List.getElem?_cons_succ] at c19
                      go_simp
                      clear c19 f19
                      refine hK.out _ _ trivial (fun hHeld => ?_)
                      clear hK K
                      (try dsimp only at hHeld)
                      (try dsimp only); (try simp only [Act.put, List.setIfInBounds_toArray, List.set_cons_zero, List.set_cons_succ])
                      refine wpAnyH_done (by kernel_rfl) ?_ _
                      refine NoPanic.normal ?_
                      go_wp2_with fail
                      go_roundw
                      case rel => exact ⟨j + 1, _, _, by omega, by go_num, HJ3.out⟩
                      case measure => simp [intOf]; omega
                    · go_simp
                      go_wp2_with (go_at_call 35; refine (HH.out _).mono ?_; rintro e wH ⟨rfl, hwH⟩; have hwH := hwH.symm; subst hwH)
                      refine hK.out _ _ trivial (fun hHeld => ?_)
                      clear hK K
                      (try dsimp only at hHeld)
                      (try dsimp only); (try simp only [Act.put, List.setIfInBounds_toArray, List.set_cons_zero, List.set_cons_succ])
                      refine wpAnyH_ready (rs := [1, 8]) (by kernel_rfl) (by simp) ?_
                      refine AllReadyH.cons (o := ⟨some 39, _, _, _, _, _⟩) rfl (fun K hK => ?_) (AllReadyH.cons (o := ⟨some 46, _, _, _, _, _⟩) rfl (fun K hK => ?_) AllReadyH.nil)
                      · have c19 := HJ.out.bX.cell 19
                        simp only [List.getElem?_toArray, List.getElem?_cons_zero, List.getElem?_cons_succ] at c19
                        go_simp
                        clear c19
                        refine hK.out _ _ trivial (fun hHeld => ?_)
                        clear hK K
                        (try dsimp only at hHeld)
                        (try dsimp only); (try simp only [Act.put, List.setIfInBounds_toArray, List.set_cons_zero, List.set_cons_succ])
                        refine wpAnyH_ready (rs := [8]) (by kernel_rfl) (by simp) ?_
                        refine AllReadyH.cons (o := ⟨some 46, _, _, _, _, _⟩) rfl (fun K hK => ?_) AllReadyH.nil
                        go_simp
                        obtain ⟨w2, hw2⟩ : ∃ W, W = (wc.alloc (.cells #[.int .u64 (hz B : Int)] 24)).drew := ⟨_, rfl⟩
                        obtain ⟨g2, hg2⟩ : ∃ g, g = wc.heap.size := ⟨_, rfl⟩
                        have hb2 : Below wc.heap.size wc w2 := by rw [hw2]; exact ((Below.refl _ _).alloc (Nat.le_refl _) _).drew
                        have HJ9 : Hid (SJ w w2 X B j (j + 1) u (.slice (some ⟨gV, 0, none⟩) (j + 1) cV)) := HJr.out.below hb2
                        have HG : Hid (Bk w2 g2 #[.int .u64 (hz B : Int)] 24) := by show Bk _ _ _ _; rw [hw2, hg2]; exact (Bk.new _ _ _ : Bk (wc.alloc (.cells #[.int .u64 (hz B : Int)] 24)) wc.heap.size _ _)
                        rw [← hw2, ← hg2]
                        clear hw2 hg2 hb2
                        refine hK.out _ _ trivial (fun hHeld => ?_)
                        clear hK K
                        (try dsimp only at hHeld)
                        (try dsimp only); (try simp only [Act.put, List.setIfInBounds_toArray, List.set_cons_zero, List.set_cons_succ])
                        refine wpAnyH_ready (rs := [9]) (by kernel_rfl) (by simp) ?_
                        refine AllReadyH.cons (o := ⟨some 47, _, _, _, _, _⟩) rfl (fun K hK => ?_) AllReadyH.nil
                        rw [if_pos (by rfl)]
                        refine wp_append_own _ _ _ 27 (by rfl) w.heap.size 24 iU (.int .u64 0) 1 8 Try.underlying27 HIU.out.1 HIU.out.2.1 HIU.out.2.2.1 HIU.out.2.2.2 rfl (by decide) u j _ rfl (by have := HJ9.out.hU; unfold Or at this; rw [List.length_replicate] at this; exact this) ⟨g2, 0, none⟩ 1 1 [cU (hz B)] rfl rfl (cell_blk1 HG.out) (fun x hx => by obtain rfl : x = cU (hz B) := (by simpa using hx); rfl) (by unfold maxLen; omega) (by omega) HJ9.out.hB.size ?_
                        intro u' w3 hown hg _
                        obtain ⟨aN, cN, rfl⟩ := own_shp7 hown
                        obtain ⟨hJ3, hX3⟩ := HJ9.out.hash hown hg
                        have HJ3 : Hid (SJ w (w3.setCell ⟨X, 19, none⟩ (.slice aN (j + 1) cN)) X B (j + 1) (j + 1) (.slice aN (j + 1) cN) (.slice (some ⟨gV, 0, none⟩) (j + 1) cV)) := hJ3
                        have HX3 : Hid (Bk w3 X (txc (tij B j (j + 1)) u (.slice (some ⟨gV, 0, none⟩) (j + 1) cV)) 30) := hX3
                        clear hown hg hJ3 hX3
                        refine hK.out _ _ trivial (fun hHeld => ?_)
                        clear hK K
                        (try dsimp only at hHeld)
                        (try dsimp only); (try simp only [Act.put, List.setIfInBounds_toArray, List.set_cons_zero, List.set_cons_succ])
                        refine wpAnyH_take (i := 10) (oi := ⟨some 48, _, _, _, _, _⟩) (v := ?_) rfl (by kernel_rfl) (by kernel_rfl) (by kernel_rfl) (fun _ _ _ h => h) (Or.inl ⟨by rfl, ?_⟩) (by assumption) ?_
                        rotate_left
                        · (intro w hSw; (try dsimp only at hSw); go_simp; try (with_reducible rfl))
                        (try dsimp only); (try simp only [Act.put, List.setIfInBounds_toArray, List.set_cons_zero, List.set_cons_succ])
                        refine wpAnyH_ready (rs := [11]) (by kernel_rfl) (by simp) ?_
                        refine AllReadyH.cons (o := ⟨none, _, _, _, _, _⟩) rfl (fun K hK => ?_) AllReadyH.nil
                        have lX := HX3.out.lt
                        have c19 := HX3.out.cell 19
                        have f19 := HX3.out.frozen 19
                        simp only [List.getElem?_toArray, List.getElem?_cons_zero, List.getElem?_cons_succ] at c19
                        go_simp
                        clear c19 f19
                        refine hK.out _ _ trivial (fun hHeld => ?_)
                        clear hK K
                        (try dsimp only at hHeld)
                        (try dsimp only); (try simp only [Act.put, List.setIfInBounds_toArray, List.set_cons_zero, List.set_cons_succ])
                        refine wpAnyH_done (by kernel_rfl) ?_ _
                        refine NoPanic.normal ?_
                        go_wp2_with fail
                        go_roundw
                        case rel => exact ⟨j + 1, _, _, by omega, by go_num, HJ3.out⟩
                        case measure => simp [intOf]; omega
                      · go_simp
                        obtain ⟨w2, hw2⟩ : ∃ W, W = (wc.alloc (.cells #[.int .u64 (hz B : Int)] 24)).drew := ⟨_, rfl⟩
                        obtain ⟨g2, hg2⟩ : ∃ g, g = wc.heap.size := ⟨_, rfl⟩
                        have hb2 : Below wc.heap.size wc w2 := by rw [hw2]; exact ((Below.refl _ _).alloc (Nat.le_refl _) _).drew
                        have HJ9 : Hid (SJ w w2 X B j (j + 1) u (.slice (some ⟨gV, 0, none⟩) (j + 1) cV)) := HJr.out.below hb2
                        have HG : Hid (Bk w2 g2 #[.int .u64 (hz B : Int)] 24) := by show Bk _ _ _ _; rw [hw2, hg2]; exact (Bk.new _ _ _ : Bk (wc.alloc (.cells #[.int .u64 (hz B : Int)] 24)) wc.heap.size _ _)
                        rw [← hw2, ← hg2]
                        clear hw2 hg2 hb2
                        refine hK.out _ _ trivial (fun hHeld => ?_)
                        clear hK K
                        (try dsimp only at hHeld)
                        (try dsimp only); (try simp only [Act.put, List.setIfInBounds_toArray, List.set_cons_zero, List.set_cons_succ])
                        refine wpAnyH_ready (rs := [1]) (by kernel_rfl) (by simp) ?_
                        refine AllReadyH.cons (o := ⟨some 39, _, _, _, _, _⟩) rfl (fun K hK => ?_) AllReadyH.nil
                        have c19 := HJ9.out.bX.cell 19
                        simp only [List.getElem?_toArray, List.getElem?_cons_zero, List.getElem?_cons_succ] at c19
                        go_simp
                        clear c19
                        refine hK.out _ _ trivial (fun hHeld => ?_)
                        clear hK K
                        (try dsimp only at hHeld)
                        (try dsimp only); (try simp only [Act.put, List.setIfInBounds_toArray, List.set_cons_zero, List.set_cons_succ])
                        refine wpAnyH_ready (rs := [9]) (by kernel_rfl) (by simp) ?_
                        refine AllReadyH.cons (o := ⟨some 47, _, _, _, _, _⟩) rfl (fun K hK => ?_) AllReadyH.nil
                        rw [if_pos (by rfl)]
                        refine wp_append_own _ _ _ 27 (by rfl) w.heap.size 24 iU (.int .u64 0) 1 8 Try.underlying27 HIU.out.1 HIU.out.2.1 HIU.out.2.2.1 HIU.out.2.2.2 rfl (by decide) u j _ rfl (by have := HJ9.out.hU; unfold Or at this; rw [List.length_replicate] at this; exact this) ⟨g2, 0, none⟩ 1 1 [cU (hz B)] rfl rfl (cell_blk1 HG.out) (fun x hx => by obtain rfl : x = cU (hz B) := (by simpa using hx); rfl) (by unfold maxLen; omega) (by omega) HJ9.out.hB.size ?_
                        intro u' w3 hown hg _
                        obtain ⟨aN, cN, rfl⟩ := own_shp7 hown
                        obtain ⟨hJ3, hX3⟩ := HJ9.out.hash hown hg
                        have HJ3 : Hid (SJ w (w3.setCell ⟨X, 19, none⟩ (.slice aN (j + 1) cN)) X B (j + 1) (j + 1) (.slice aN (j + 1) cN) (.slice (some ⟨gV, 0, none⟩) (j + 1) cV)) := hJ3
                        have HX3 : Hid (Bk w3 X (txc (tij B j (j + 1)) u (.slice (some ⟨gV, 0, none⟩) (j + 1) cV)) 30) := hX3
                        clear hown hg hJ3 hX3
                        refine hK.out _ _ trivial (fun hHeld => ?_)
                        clear hK K
                        (try dsimp only at hHeld)
                        (try dsimp only); (try simp only [Act.put, List.setIfInBounds_toArray, List.set_cons_zero, List.set_cons_succ])
                        refine wpAnyH_take (i := 10) (oi := ⟨some 48, _, _, _, _, _⟩) (v := ?_) rfl (by kernel_rfl) (by kernel_rfl) (by kernel_rfl) (fun _ _ _ h => h) (Or.inl ⟨by rfl, ?_⟩) (by assumption) ?_
                        rotate_left
                        · (intro w hSw; (try dsimp only at hSw); go_simp; try (with_reducible rfl))
                        (try dsimp only); (try simp only [Act.put, List.setIfInBounds_toArray, List.set_cons_zero, List.set_cons_succ])
                        refine wpAnyH_ready (rs := [11]) (by kernel_rfl) (by simp) ?_
                        refine AllReadyH.cons (o := ⟨none, _, _, _, _, _⟩) rfl (fun K hK => ?_) AllReadyH.nil
                        have lX := HX3.out.lt
                        have c19 := HX3.out.cell 19
                        have f19 := HX3.out.frozen 19
                        simp only [List.getElem?_toArray, List.getElem?_cons_zero, List.getElem?_cons_succ] at c19
                        go_simp
                        clear c19 f19
                        refine hK.out _ _ trivial (fun hHeld => ?_)
                        clear hK K
                        (try dsimp only at hHeld)
                        (try dsimp only); (try simp only [Act.put, List.setIfInBounds_toArray, List.set_cons_zero, List.set_cons_succ])
                        refine wpAnyH_done (by kernel_rfl) ?_ _
                        refine NoPanic.normal ?_
                        go_wp2_with fail
                        go_roundw
                        case rel => exact ⟨j + 1, _, _, by omega, by go_num, HJ3.out⟩
                        case measure => simp [intOf]; omega
            · obtain rfl : j = n := by omega
              obtain ⟨aU, cU2, rfl, -⟩ := HJr.out.hU.shape
              obtain ⟨aV, cV, rfl, -⟩ := HJr.out.hV.shape
              have hlU : (List.replicate j (hz B)).length = j := List.length_replicate ..
              have hlV : (List.replicate j (zb B)).length = j := List.length_replicate ..
              have hJ := HJr.out
              rw [hlU, hlV] at hJ
              rw [hlU, hlV] at *
              clear HJr
              obtain ⟨hBx, hRx⟩ := hJ.rt hc
              have HBx : Hid _ := hBx
              have HBz : Hid (Below w.heap.size w wr) := hJ.hB
              have hOk := tjb_ok B j hc (by omega) (by omega)
              have hw := tjb_w B j hc
              have hz7 := size_small (tjb B j) hOk hw
              obtain ⟨f1, f2, f3, f4, -⟩ := sh_facts ((itS (txI (tjb B j))).size : Int) ⟨by omega, by omega⟩
              have f5 := slV_bd (shV ((itS (txI (tjb B j))).size : Int))
              have HOf : Hid (Calls Try.prog 27 #[.agg (txc (tjb B j) (.slice aU (tjb B j).hs.length cU2) (.slice aV (tjb B j).bs.length cV))] wr fun e w' => e = .returned (.tuple #[.int .i64 ((itS (txI (tjb B j))).size : Int), .int .i64 (shV ((itS (txI (tjb B j))).size : Int)), .int .i64 (slV (shV ((itS (txI (tjb B j))).size : Int))), .int .i64 0]) ∧ Below wr.heap.size wr w') := by
                have := of8 (tjb B j) aU aV cU2 cV wr hw hRx
                rw [show ofN (tjb B j) = ((itS (txI (tjb B j))).size : Int) from if_pos hOk, show ofK (tjb B j) = shV ((itS (txI (tjb B j))).size : Int) from if_pos hOk, show ofS (tjb B j) = slV (shV ((itS (txI (tjb B j))).size : Int)) from if_pos hOk, show cosE (tjb B j) = 0 from if_pos hOk] at this
                exact this
              have HRL : Hid (∀ w, Calls Try.prog 31 #[.int .i64 (shV ((itS (txI (tjb B j))).size : Int))] w fun e w' => e = .returned (.int .i64 (slV (shV ((itS (txI (tjb B j))).size : Int)))) ∧ w' = w) := fun w => rslot _ f2 w
              have HSz : Hid (B = 64 → (itS (txI (tjb B j))).size = (itS (txI (tjb 64 j))).size) := fun e => by subst e; rfl
              clear hJ hBx hRx hOk hw f1 f3
              generalize slV (shV ((itS (txI (tjb B j))).size : Int)) = sl at *
              generalize shV ((itS (txI (tjb B j))).size : Int) = sh at *
              generalize hszE : (itS (txI (tjb B j))).size = sz at *
              clear hszE
              go_wp2_with (refine wpList_load_tx rfl _ rfl rfl HBx.out ?_)
              refine HOf.out.mono ?_
              rintro e w8 ⟨rfl, hb8⟩
              have HB8 : Hid (Below w.heap.size w w8) := HBz.out.trans (hb8.mono HBz.out.size)
              clear hb8 HBz HOf HBx
              have hw1 : IntKind.i64.wrap (sl - 16) = sl - 16 := by rw [IntKind.wrap_i64]; omega
              have hc1 : ¬ sl - 16 < (sz : Int) := by omega
              have hc2 : ¬ sh < 0 := by omega
              have hc3 : ¬ 4 ≤ sh := by omega
              by_cases h64 : B = 64
              · have he := HSz.out h64
                have hy := HY.out.1
                have hc4 : ¬ (sz : Int) < (y : Int) := by omega
                have HE : Hid (sz = (itS (txI (tjb 64 j))).size) := he
                clear he hy HSz
                subst h64
                go_wp2_with (first | (go_at_call 28; refine (num8 _ _).mono ?_; rintro e wN ⟨rfl, hwN⟩; have hwN := hwN.symm; subst hwN) | (go_at_call 31; refine (HRL.out _).mono ?_; rintro e wL ⟨rfl, hwL⟩; have hwL := hwL.symm; subst hwL))
                go_roundw
                case rel => exact ⟨80, sz, by omega, by omega, by first | rfl | go_num, rfl, Nat.le_of_eq HE.out, fun _ => HE.out, HB8.out⟩
                case measure => simp [intOf]
              · have h64' : ((B : Int) == 64) = false := by rw [beq_eq_false_iff_ne]; omega
                go_wp2_with (first | (go_at_call 28; refine (num8 _ _).mono ?_; rintro e wN ⟨rfl, hwN⟩; have hwN := hwN.symm; subst hwN) | (go_at_call 31; refine (HRL.out _).mono ?_; rintro e wL ⟨rfl, hwL⟩; have hwL := hwL.symm; subst hwL))
                go_roundw
                case rel => exact ⟨B + 16, y, by omega, by omega, by go_num, rfl, HY.out.1, fun h => absurd h (by omega), HB8.out⟩
                case measure => simp [intOf]; omega
        · have hy := HY.out.2 (by omega)
          have hc' : ¬ (B : Int) ≤ 64 := by omega
          have HE : Hid (y = (itS (txI (tjb 64 n))).size) := hy
          clear hy
          go_wp2_with fail
          go_roundw
          case rel => exact ⟨n + 1, y, by omega, by omega, by go_num, rfl, fun h => by rw [HE.out]; exact tjb_size 64 n (n + 1) (by omega) hn1 (by omega) h, HB.out⟩
          case measure => simp [intOf]; omega
    · obtain rfl : n = 5 := by omega
      have HBit : Hid (∀ w, Calls Try.prog 36 #[.agg (A4 1 0 0 0)] w fun e w' => e = .returned (.int .i64 1) ∧ Below w.heap.size w w') := fun w => by
        have := rbits 1 (by decide +kernel) w
        have e0 : lb 1 0 = 1 := by decide +kernel
        have e1 : lb 1 1 = 0 := by decide +kernel
        have e2 : lb 1 2 = 0 := by decide +kernel
        have e3 : lb 1 3 = 0 := by decide +kernel
        have eb : ((bl 1 : Nat) : Int) = 1 := by decide +kernel
        have eV : V 1 = .agg (A4 1 0 0 0) := by show Value.agg (A4 (lb 1 0) (lb 1 1) (lb 1 2) (lb 1 3)) = _; rw [e0, e1, e2, e3]
        rw [eV, eb] at this
        exact this
      go_wp2_with fail
      refine (HBit.out _).mono ?_
      rintro e w1 ⟨rfl, hb1⟩
      have HB1 : Hid (Below w.heap.size w w1) := HB0.out.trans (hb1.mono HB0.out.size)
      clear hb1
      go_wp2_with (go_at_call 32; refine (wakes8 _).mono ?_; rintro e w2 ⟨rfl, hb2⟩)
      go_ret
      exact ⟨rfl, HB1.out.trans (hb2.mono HB1.out.size)⟩
end Go.Proofs.Ytapjonmgjccpbaa

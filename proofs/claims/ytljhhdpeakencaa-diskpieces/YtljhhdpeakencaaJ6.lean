/- Texts joined: PkT DkF DkG PkW. -/
import Derived.Test.YtljhhdpeakencaaJ5
import Derived.Test.YtljhhdpeakencaaJ4
section
set_option linter.unusedSimpArgs false
set_option linter.unusedVariables false
namespace Go.Proofs.Ytljhhdpeakencaa
open Go.RowKit

/-! The page's Cut. -/
section
variable {w : World} {O : Nat → Nat} {d : Nat} {D : Ds} {gl gs gn cl cs cn : Nat} {lv sv cv : Nat → Value} {left bad : Int} {armed off hurt : Bool}
set_option maxRecDepth 100000 in
set_option maxHeartbeats 1000000 in
theorem pcut (h : PK w O d D gl gs gn cl cs cn lv sv cv left bad armed off hurt) (f n : Int) (bO : D.tO ≤ 9223372036854775807) (bF : D.tF ≤ 9223372036854775807) (hl : ∀ i, i < 8 → (D.now i).length ≤ 1099511627776) (hm : ∀ i, i < 8 → (D.chs i).length ≤ 1099511627776) :
    Calls Try.prog 37 #[.pointer (some ⟨d, 0, none⟩), .int .i64 f, .int .i64 n] w fun e w' => e = .returned (.int .i64 (cutE D f n)) ∧ ∃ O', PKw w' O' d (cutD D f n) ∧ Fp O w O' w' := by
  have HF : Hid _ := pcount h f bO bF
  by_cases h0 : cntE D f = 0
  · obtain ⟨ho, i, rfl, hi, hp⟩ := cnt_ok (d := d) h0
    have eE : cutE D (i : Int) n = if n < 0 ∨ ((D.now i).length : Int) < n then 1 else 0 := by unfold cutE; rw [if_neg (by rw [h0]; simp), Int.toNat_natCast]
    rw [h0] at HF
    have hli := hl i hi
    have hmi : Hid ((D.chs i).length ≤ 1099511627776) := hm i hi
    obtain ⟨ad, cap, env, hcp⟩ := (h.now i hi).1.shape
    have Henv : Hid (lv i = .slice ad (D.now i).length cap) := env
    have hi8 : (i : Int) < 8 := by omega
    by_cases hc : n < 0 ∨ ((D.now i).length : Int) < n
    · rw [if_pos hc] at eE
      have eD : cutD D (i : Int) n = cnt D := if_neg (by rw [eE]; omega)
      rw [eE, eD]
      have HN : Hid (∀ w, Calls Try.prog 76 #[.int .i64 n, .int .i64 ((D.now i).length : Int)] w fun e w' => e = .returned (.bool false) ∧ w' = w) := fun w => by
        have := num9 n ((D.now i).length : Int) w
        rw [show (decide (0 ≤ n) && decide (n ≤ ((D.now i).length : Int))) = false by rw [← Bool.decide_and]; exact decide_eq_false (by omega)] at this
        exact this
      clear eE eD hp h0 ho hl hm h env hc bO bF
      go_enter Try.func37, Try.ntmps37
      go_wp2_with (first | (go_at_call 79; refine Calls.mono HF.out ?_; rintro e w8 ⟨rfl, l1, b1, a1, o1, u1, h8, hF8⟩; have H8 : Hid (PK w8 O d (cnt D) gl gs gn cl cs cn lv sv cv l1 b1 a1 o1 u1 ∧ Fp O w O w8) := ⟨h8, hF8⟩; clear h8 hF8 HF; have hd := H8.out.1.blk.lt; have c0 := H8.out.1.blk.cell 0; simp only [List.getElem?_toArray, List.getElem?_cons_zero, List.getElem?_cons_succ] at c0; have cl1 := H8.out.1.live.cell hi; rw [Henv.out] at cl1; generalize (D.now i).length = ln at *) | (go_at_call 76; refine Calls.mono (HN.out _) ?_; rintro e w9 ⟨rfl, rfl⟩))
      go_ret
      exact ⟨rfl, O, H8.out.1.w, H8.out.2⟩
    · rw [if_neg hc] at eE
      have eD : cutD D (i : Int) n = chg (cnt D) i ⟨true, n.toNat, []⟩ := by unfold cutD; rw [if_pos eE, Int.toNat_natCast]
      rw [eE, eD]
      obtain ⟨m, rfl⟩ : ∃ m : Nat, n = m := ⟨n.toNat, by omega⟩
      rw [Int.toNat_natCast]
      have hml : m ≤ (D.now i).length := by omega
      have HN : Hid (∀ w, Calls Try.prog 76 #[.int .i64 (m : Int), .int .i64 ((D.now i).length : Int)] w fun e w' => e = .returned (.bool true) ∧ w' = w) := fun w => by
        have := num9 (m : Int) ((D.now i).length : Int) w
        rw [decide_eq_true (show (0 : Int) ≤ (m : Int) by omega), decide_eq_true (show (m : Int) ≤ ((D.now i).length : Int) by omega)] at this
        exact this
      have hmc : m ≤ cap := by omega
      have HNow : Hid ((chg (cnt D) i ⟨true, m, []⟩).now = upd D.now i ((D.now i).take m)) := by show upd D.now i (ovr _ (D.now i)) = _; rw [ovr_cut (by rfl)]
      have Hml : Hid (m ≤ (D.now i).length ∧ (D.now i).length ≤ 1099511627776) := ⟨hml, hli⟩
      clear eE eD hp h0 ho hl hm h env hc bO bF
      go_enter Try.func37, Try.ntmps37
      go_upto_region 6 with (first | (go_at_call 79; refine Calls.mono HF.out ?_; rintro e w8 ⟨rfl, l1, b1, a1, o1, u1, h8, hF8⟩; have H8 : Hid (PK w8 O d (cnt D) gl gs gn cl cs cn lv sv cv l1 b1 a1 o1 u1 ∧ Fp O w O w8) := ⟨h8, hF8⟩; clear h8 hF8 HF; have hd := H8.out.1.blk.lt; have c0 := H8.out.1.blk.cell 0; simp only [List.getElem?_toArray, List.getElem?_cons_zero, List.getElem?_cons_succ] at c0; have cl1 := H8.out.1.live.cell hi; rw [Henv.out] at cl1; have HC : Hid (Calls Try.prog 49 #[.slice ad m cap] w8.drew fun e w' => ∃ u, e = .returned u ∧ Ow w' w8.drew.heap.size u ((D.now i).take m) ∧ Below w8.drew.heap.size w8.drew w') := copyBytes _ _ _ ((Ow.cut (by rw [← Henv.out]; exact (H8.out.1.now i hi).1) m Hml.out.1).rb (by have := Hml.out; simp; omega)) (by have := Hml.out; simp; omega); generalize (D.now i).length = ln at *) | (go_at_call 76; refine Calls.mono (HN.out _) ?_; rintro e w9 ⟨rfl, e9⟩; have e9 := e9.symm; subst e9))
      refine wp_region_noPanic ?_
      refine wp_region_held_drew (S := fun W' => W'.cell? ⟨d, 0, none⟩ = some (.slice (some ⟨gl, 0, none⟩) 8 cl)) (by kernel_rfl) ?_ (fun hHeld => ?_)
      · ((try dsimp only); exact c0)
      (try dsimp only at hHeld)
      refine wpAnyH_take (i := 0) (oi := ⟨some 25, _, _, _, _, _⟩) (v := ?_) rfl (by kernel_rfl) (by kernel_rfl) (by kernel_rfl) (fun _ _ _ h => h) (Or.inl ⟨by rfl, ?_⟩) (by assumption) ?_
      rotate_left
      · (intro w hSw; (try dsimp only at hSw); go_simp; try (with_reducible rfl))
      (try dsimp only); (try simp only [Act.put, List.setIfInBounds_toArray, List.set_cons_zero, List.set_cons_succ])
      refine wpAnyH_take (i := 1) (oi := ⟨some 26, _, _, _, _, _⟩) (v := ?_) rfl (by kernel_rfl) (by kernel_rfl) (by kernel_rfl) (fun _ _ _ h => h) (Or.inl ⟨by rfl, ?_⟩) (by assumption) ?_
      rotate_left
      · (intro w hSw; (try dsimp only at hSw); go_simp; try (with_reducible rfl))
      (try dsimp only); (try simp only [Act.put, List.setIfInBounds_toArray, List.set_cons_zero, List.set_cons_succ])
      refine wpAnyH_take (i := 2) (oi := ⟨some 27, _, _, _, _, _⟩) (v := ?_) rfl (by kernel_rfl) (by kernel_rfl) (by kernel_rfl) (fun _ _ _ h => h) (Or.inl ⟨by rfl, ?_⟩) (by assumption) ?_
      rotate_left
      · (intro w hSw; (try dsimp only at hSw); go_simp; try (with_reducible rfl))
      (try dsimp only); (try simp only [Act.put, List.setIfInBounds_toArray, List.set_cons_zero, List.set_cons_succ])
      refine wpAnyH_take (i := 3) (oi := ⟨some 28, _, _, _, _, _⟩) (v := ?_) rfl (by kernel_rfl) (by kernel_rfl) (by kernel_rfl) (fun _ _ _ h => h) (Or.inl ⟨by rfl, ?_⟩) (by assumption) ?_
      rotate_left
      · (intro w hSw; (try dsimp only at hSw); go_simp; try (with_reducible rfl))
      (try dsimp only); (try simp only [Act.put, List.setIfInBounds_toArray, List.set_cons_zero, List.set_cons_succ])
      refine wpAnyH_take (i := 4) (oi := ⟨some 29, _, _, _, _, _⟩) (v := ?_) rfl (by kernel_rfl) (by kernel_rfl) (by kernel_rfl) (fun _ _ _ h => h) (Or.inl ⟨by rfl, ?_⟩) (by assumption) ?_
      rotate_left
      · (intro w hSw; (try dsimp only at hSw); go_simp; try (with_reducible rfl))
      (try dsimp only); (try simp only [Act.put, List.setIfInBounds_toArray, List.set_cons_zero, List.set_cons_succ])
      refine wpAnyH_take (i := 5) (oi := ⟨some 30, _, _, _, _, _⟩) (v := ?_) rfl (by kernel_rfl) (by kernel_rfl) (by kernel_rfl) (fun _ _ _ h => h) (Or.inl ⟨by rfl, ?_⟩) (by assumption) ?_
      rotate_left
      · (intro w hSw; (try dsimp only at hSw); go_simp; try (with_reducible rfl))
      (try dsimp only); (try simp only [Act.put, List.setIfInBounds_toArray, List.set_cons_zero, List.set_cons_succ])
      refine wpAnyH_take (i := 6) (oi := ⟨some 31, _, _, _, _, _⟩) (v := ?_) rfl (by kernel_rfl) (by kernel_rfl) (by kernel_rfl) (fun _ _ _ h => h) (Or.inl ⟨by rfl, ?_⟩) (by assumption) ?_
      rotate_left
      · (intro w hSw; (try dsimp only at hSw); go_simp; try (with_reducible rfl))
      (try dsimp only); (try simp only [Act.put, List.setIfInBounds_toArray, List.set_cons_zero, List.set_cons_succ])
      refine wpAnyH_take (i := 7) (oi := ⟨some 32, _, _, _, _, _⟩) (v := ?_) rfl (by kernel_rfl) (by kernel_rfl) (by kernel_rfl) (fun _ _ _ h => h) (Or.inl ⟨by rfl, ?_⟩) (by assumption) ?_
      rotate_left
      · (intro w hSw; (try dsimp only at hSw); go_simp; try (with_reducible rfl))
      (try dsimp only); (try simp only [Act.put, List.setIfInBounds_toArray, List.set_cons_zero, List.set_cons_succ])
      refine wpAnyH_take (i := 8) (oi := ⟨some 33, _, _, _, _, _⟩) (v := ?_) rfl (by kernel_rfl) (by kernel_rfl) (by kernel_rfl) (fun _ _ _ h => h) (Or.inl ⟨by rfl, ?_⟩) (by assumption) ?_
      rotate_left
      · (intro w hSw; (try dsimp only at hSw); go_simp; try (with_reducible rfl))
      (try dsimp only); (try simp only [Act.put, List.setIfInBounds_toArray, List.set_cons_zero, List.set_cons_succ])
      refine wpAnyH_take (i := 9) (oi := ⟨some 34, _, _, _, _, _⟩) (v := ?_) rfl (by kernel_rfl) (by kernel_rfl) (by kernel_rfl) (fun _ _ _ h => h) (Or.inl ⟨by rfl, ?_⟩) (by assumption) ?_
      rotate_left
      · (intro w hSw; (try dsimp only at hSw); go_simp; try (with_reducible rfl))
      (try dsimp only); (try simp only [Act.put, List.setIfInBounds_toArray, List.set_cons_zero, List.set_cons_succ])
      refine wpAnyH_take (i := 10) (oi := ⟨some 35, _, _, _, _, _⟩) (v := ?_) rfl (by kernel_rfl) (by kernel_rfl) (by kernel_rfl) (fun _ _ _ h => h) (Or.inl ⟨by rfl, ?_⟩) (by assumption) ?_
      rotate_left
      · (intro w hSw; (try dsimp only at hSw); go_simp; try (with_reducible rfl))
      (try dsimp only); (try simp only [Act.put, List.setIfInBounds_toArray, List.set_cons_zero, List.set_cons_succ])
      refine wpAnyH_take (i := 12) (oi := ⟨some 37, _, _, _, _, _⟩) (v := ?_) rfl (by kernel_rfl) (by kernel_rfl) (by kernel_rfl) (fun _ _ _ h => h) (Or.inl ⟨by rfl, ?_⟩) (by assumption) ?_
      rotate_left
      · (intro w hSw; (try dsimp only at hSw); go_simp; try (with_reducible rfl))
      (try dsimp only); (try simp only [Act.put, List.setIfInBounds_toArray, List.set_cons_zero, List.set_cons_succ])
      refine wpAnyH_ready (rs := [11]) (by kernel_rfl) (by simp) ?_
      refine AllReadyH.cons (o := ⟨some 36, _, _, _, _, _⟩) rfl (fun K hK => ?_) AllReadyH.nil
      go_simp
      refine hK.out _ _ hHeld (fun hHeld => ?_)
      clear hK K
      (try dsimp only); (try simp only [Act.put, List.setIfInBounds_toArray, List.set_cons_zero, List.set_cons_succ])
      refine wpAnyH_take (i := 13) (oi := ⟨some 38, _, _, _, _, _⟩) (v := ?_) rfl (by kernel_rfl) (by kernel_rfl) (by kernel_rfl) (fun _ _ _ h => h) (Or.inl ⟨by rfl, ?_⟩) (by assumption) ?_
      rotate_left
      · (intro w hSw; (try dsimp only at hSw); go_simp; try (with_reducible rfl))
      (try dsimp only); (try simp only [Act.put, List.setIfInBounds_toArray, List.set_cons_zero, List.set_cons_succ])
      refine wpAnyH_ready (rs := [14]) (by kernel_rfl) (by simp) ?_
      refine AllReadyH.cons (o := ⟨some 39, _, _, _, _, _⟩) rfl (fun K hK => ?_) AllReadyH.nil
      go_simp
      refine Calls.mono HC.out ?_
      rintro e w2 ⟨u2, rfl, ho2, hb2⟩
      obtain ⟨O2, h2, hF2, ht2, hO2⟩ := (H8.out.1.frame (w' := w8.drew) (fun _ _ => rfl)).adopt hb2 ho2
      obtain ⟨ad2, n2, cap2, rfl⟩ := ownsRow_sl ho2
      obtain ⟨h3, hF3⟩ := h2.setLive hi ho2.base0 ht2
      have HS3 : Hid (PK (w2.setCell ⟨gl, i, none⟩ (.slice ad2 n2 cap2)) O2 d { cnt D with now := upd D.now i ((D.now i).take m) } gl gs gn cl cs cn (upd lv i (.slice ad2 n2 cap2)) sv cv l1 b1 a1 o1 u1 ∧ Fp O w O2 (w2.setCell ⟨gl, i, none⟩ (.slice ad2 n2 cap2))) := ⟨h3, H8.out.2.trans (((Fp.of_below O (Below.refl _ _).drew).trans hF2).trans hF3)⟩
      have p0 := h2.live.cell hi
      have pf0 := h2.live.frozen i
      have pl0 := h2.live.lt
      refine hK.out _ _ ((hb2.cell hd).trans c0) (fun hHeld => ?_)
      clear hK K ho2 hb2 h2 hF2 ht2 hO2 h3 hF3
      (try dsimp only); (try simp only [Act.put, List.setIfInBounds_toArray, List.set_cons_zero, List.set_cons_succ])
      refine wpAnyH_take (i := 15) (oi := ⟨some 40, _, _, _, _, _⟩) (v := ?_) rfl (by kernel_rfl) (by kernel_rfl) (by kernel_rfl) (fun _ _ _ h => h) (Or.inl ⟨by rfl, ?_⟩) (by assumption) ?_
      rotate_left
      · (intro w hSw; (try dsimp only at hSw); go_simp; try (with_reducible rfl))
      (try dsimp only); (try simp only [Act.put, List.setIfInBounds_toArray, List.set_cons_zero, List.set_cons_succ])
      refine wpAnyH_ready (rs := [16]) (by kernel_rfl) (by simp) ?_
      refine AllReadyH.cons (o := ⟨none, _, _, _, _, _⟩) rfl (fun K hK => ?_) AllReadyH.nil
      go_simp
      refine hK.out _ _ (HS3.out.1.blk.cell 0) (fun hHeld => ?_)
      clear hK K p0 pf0 pl0 hHeld
      (try dsimp only); (try simp only [Act.put, List.setIfInBounds_toArray, List.set_cons_zero, List.set_cons_succ])
      refine wpAnyH_done (by kernel_rfl) ?_ _
      refine NoPanic.normal ?_
      have hHeld : True := trivial
      have HP7' : Hid (PK (w2.setCell ⟨gl, i, none⟩ (.slice ad2 n2 cap2)) O2 d { cnt D with now := upd D.now i ((D.now i).take m) } gl gs gn cl cs cn (upd lv i (.slice ad2 n2 cap2)) sv cv l1 b1 a1 o1 u1 ∧ Fp O w O2 (w2.setCell ⟨gl, i, none⟩ (.slice ad2 n2 cap2))) := HS3.out
      clear HS3 H8 HC c0 hHeld
      generalize (w2.setCell ⟨gl, i, none⟩ (.slice ad2 n2 cap2)) = W7 at *
      go_upto_region 7 with fail
      have hA : PK (W7.drew.alloc (.cells (chc ⟨true, m, []⟩ (.slice none 0 0)) 112)) O2 d { cnt D with now := upd D.now i ((D.now i).take m) } gl gs gn cl cs cn (upd lv i (.slice ad2 n2 cap2)) sv cv l1 b1 a1 o1 u1 := (HP7'.out.1.frame (w' := W7.drew) (fun _ _ => rfl)).below ((Below.refl _ _).alloc (Nat.le_refl _) _)
      have HA : Hid (PK (W7.drew.alloc (.cells (chc ⟨true, m, []⟩ (.slice none 0 0)) 112)) O2 d { cnt D with now := upd D.now i ((D.now i).take m) } gl gs gn cl cs cn (upd lv i (.slice ad2 n2 cap2)) sv cv l1 b1 a1 o1 u1) := hA
      have HF7 : Hid (Fp O w O2 (W7.drew.alloc (.cells (chc ⟨true, m, []⟩ (.slice none 0 0)) 112))) := HP7'.out.2.trans ((Fp.of_below O2 (Below.refl _ _).drew).trans (Fp.of_below O2 (w := W7.drew) ((Below.refl _ _).alloc (Nat.le_refl _) _)))
      obtain ⟨ps, hps1, hps2, hps3⟩ := hA.chs i hi
      have HPs : Hid (ps.map Prod.fst = ({ cnt D with now := upd D.now i ((D.now i).take m) } : Ds).chs i ∧ ∀ p ∈ ps, Ow (W7.drew.alloc (.cells (chc ⟨true, m, []⟩ (.slice none 0 0)) 112)) 0 p.2 p.1.bs ∧ ∀ b, p.2.ownBlock = some b → O2 b = 5) := ⟨hps1, hps3⟩
      have HL : Hid (ps.length ≤ 1099511627776) := by have := hmi.out; rw [show D.chs i = ps.map Prod.fst from hps1.symm, List.length_map] at this; exact this
      have HRow : Hid ((W7.drew.alloc (.cells (chc ⟨true, m, []⟩ (.slice none 0 0)) 112)).ownsRow 0 112 3 (cv i) ps.length (ps.flatMap ccells)) := hps2
      have HSrc : Hid (Src Try.prog 3 110 (.slice (some ⟨W7.heap.size, 0, none⟩) 1 1) 1 (ccells (⟨true, m, []⟩, .slice none 0 0)) (W7.drew.alloc (.cells (chc ⟨true, m, []⟩ (.slice none 0 0)) 112))) := one_pc (Bk.new W7.drew _ _) rfl
      have HD7 : Hid (({ ({ cnt D with now := upd D.now i ((D.now i).take m) } : Ds) with chs := upd ({ cnt D with now := upd D.now i ((D.now i).take m) } : Ds).chs i (({ cnt D with now := upd D.now i ((D.now i).take m) } : Ds).chs i ++ [⟨true, m, []⟩]) } : Ds) = chg (cnt D) i ⟨true, m, []⟩) := by show _ = chg (cnt D) i ⟨true, m, []⟩; unfold chg; rw [ovr_cut (by rfl)]; rfl
      have HA2 : Hid ((W7.drew.alloc (.cells (chc ⟨true, m, []⟩ (.slice none 0 0)) 112)).cell? ⟨d, 2, none⟩ = some (.slice (some ⟨gn, 0, none⟩) 8 cn)) := hA.blk.cell 2
      have q2 : W7.drew.cell? ⟨d, 2, none⟩ = some (.slice (some ⟨gn, 0, none⟩) 8 cn) := HP7'.out.1.blk.cell 2
      have p3 : W7.drew.cell? ⟨gn, i, none⟩ = some (cv i) := HP7'.out.1.new.cell hi
      have p3'' : (W7.drew.alloc (.cells (chc ⟨true, m, []⟩ (.slice none 0 0)) 112)).cell? ⟨gn, i, none⟩ = some (cv i) := hA.new.cell hi
      have p3' : (W7.alloc (.cells (chc ⟨true, m, []⟩ (.slice none 0 0)) 112)).cell? ⟨gn, i, none⟩ = some (cv i) := p3''
      have hcv1 : (cv i).oneCell' = true := by obtain ⟨a9, n9, c9, e9⟩ := ownsRow_sl hps2; rw [e9]; rfl
      obtain ⟨j0, hj, hz0, hz1, hz2⟩ := info_of infoPc'
      have HJ : Hid (Try.prog.info? 112 = some j0 ∧ j0.zero = some (.agg #[.bool false, .int .i64 0, .slice none 0 0]) ∧ j0.size = 3 ∧ j0.bytes = 40) := ⟨hj, hz0, hz1, hz2⟩
      clear hj hz0 hz1 hz2 hA hps1 hps2 hps3 HP7'
      refine wp_region_noPanic ?_
      refine wp_region_held_drew (S := fun W' => W'.cell? ⟨d, 2, none⟩ = some (.slice (some ⟨gn, 0, none⟩) 8 cn)) (by kernel_rfl) ?_ (fun hHeld => ?_)
      · ((try dsimp only); exact q2)
      (try dsimp only at hHeld)
      refine wpAnyH_take (i := 0) (oi := ⟨some 41, _, _, _, _, _⟩) (v := ?_) rfl (by kernel_rfl) (by kernel_rfl) (by kernel_rfl) (fun _ _ _ h => h) (Or.inl ⟨by rfl, ?_⟩) (by assumption) ?_
      rotate_left
      · (intro w hSw; (try dsimp only at hSw); go_simp; try (with_reducible rfl))
      (try dsimp only); (try simp only [Act.put, List.setIfInBounds_toArray, List.set_cons_zero, List.set_cons_succ])
      refine wpAnyH_take (i := 1) (oi := ⟨some 42, _, _, _, _, _⟩) (v := ?_) rfl (by kernel_rfl) (by kernel_rfl) (by kernel_rfl) (fun _ _ _ h => h) (Or.inl ⟨by rfl, ?_⟩) (by assumption) ?_
      rotate_left
      · (intro w hSw; (try dsimp only at hSw); go_simp; try (with_reducible rfl))
      (try dsimp only); (try simp only [Act.put, List.setIfInBounds_toArray, List.set_cons_zero, List.set_cons_succ])
      refine wpAnyH_take (i := 2) (oi := ⟨some 43, _, _, _, _, _⟩) (v := ?_) rfl (by kernel_rfl) (by kernel_rfl) (by kernel_rfl) (fun _ _ _ h => h) (Or.inl ⟨by rfl, ?_⟩) (by assumption) ?_
      rotate_left
      · (intro w hSw; (try dsimp only at hSw); go_simp; try (with_reducible rfl))
      (try dsimp only); (try simp only [Act.put, List.setIfInBounds_toArray, List.set_cons_zero, List.set_cons_succ])
      refine wpAnyH_take (i := 3) (oi := ⟨some 44, _, _, _, _, _⟩) (v := ?_) rfl (by kernel_rfl) (by kernel_rfl) (by kernel_rfl) (fun _ _ _ h => h) (Or.inl ⟨by rfl, ?_⟩) (by assumption) ?_
      rotate_left
      · (intro w hSw; (try dsimp only at hSw); go_simp; try (with_reducible rfl))
      (try dsimp only); (try simp only [Act.put, List.setIfInBounds_toArray, List.set_cons_zero, List.set_cons_succ])
      refine wpAnyH_take (i := 4) (oi := ⟨some 45, _, _, _, _, _⟩) (v := ?_) rfl (by kernel_rfl) (by kernel_rfl) (by kernel_rfl) (fun _ _ _ h => h) (Or.inl ⟨by rfl, ?_⟩) (by assumption) ?_
      rotate_left
      · (intro w hSw; (try dsimp only at hSw); go_simp; try (with_reducible rfl))
      (try dsimp only); (try simp only [Act.put, List.setIfInBounds_toArray, List.set_cons_zero, List.set_cons_succ])
      refine wpAnyH_take (i := 5) (oi := ⟨some 46, _, _, _, _, _⟩) (v := ?_) rfl (by kernel_rfl) (by kernel_rfl) (by kernel_rfl) (fun _ _ _ h => h) (Or.inl ⟨by rfl, ?_⟩) (by assumption) ?_
      rotate_left
      · (intro w hSw; (try dsimp only at hSw); go_simp; try (with_reducible rfl))
      (try dsimp only); (try simp only [Act.put, List.setIfInBounds_toArray, List.set_cons_zero, List.set_cons_succ])
      refine wpAnyH_take (i := 6) (oi := ⟨some 47, _, _, _, _, _⟩) (v := ?_) rfl (by kernel_rfl) (by kernel_rfl) (by kernel_rfl) (fun _ _ _ h => h) (Or.inl ⟨by rfl, ?_⟩) (by assumption) ?_
      rotate_left
      · (intro w hSw; (try dsimp only at hSw); go_simp; try (with_reducible rfl))
      (try dsimp only); (try simp only [Act.put, List.setIfInBounds_toArray, List.set_cons_zero, List.set_cons_succ])
      refine wpAnyH_take (i := 7) (oi := ⟨some 48, _, _, _, _, _⟩) (v := ?_) rfl (by kernel_rfl) (by kernel_rfl) (by kernel_rfl) (fun _ _ _ h => h) (Or.inl ⟨by rfl, ?_⟩) (by assumption) ?_
      rotate_left
      · (intro w hSw; (try dsimp only at hSw); go_simp; try (with_reducible rfl))
      (try dsimp only); (try simp only [Act.put, List.setIfInBounds_toArray, List.set_cons_zero, List.set_cons_succ])
      refine wpAnyH_take (i := 8) (oi := ⟨some 49, _, _, _, _, _⟩) (v := ?_) rfl (by kernel_rfl) (by kernel_rfl) (by kernel_rfl) (fun _ _ _ h => h) (Or.inl ⟨by rfl, ?_⟩) (by assumption) ?_
      rotate_left
      · (intro w hSw; (try dsimp only at hSw); go_simp; try (with_reducible rfl))
      (try dsimp only); (try simp only [Act.put, List.setIfInBounds_toArray, List.set_cons_zero, List.set_cons_succ])
      refine wpAnyH_take (i := 9) (oi := ⟨some 50, _, _, _, _, _⟩) (v := ?_) rfl (by kernel_rfl) (by kernel_rfl) (by kernel_rfl) (fun _ _ _ h => h) (Or.inl ⟨by rfl, ?_⟩) (by assumption) ?_
      rotate_left
      · (intro w hSw; (try dsimp only at hSw); go_simp; try (with_reducible rfl))
      (try dsimp only); (try simp only [Act.put, List.setIfInBounds_toArray, List.set_cons_zero, List.set_cons_succ])
      refine wpAnyH_take (i := 10) (oi := ⟨some 51, _, _, _, _, _⟩) (v := ?_) rfl (by kernel_rfl) (by kernel_rfl) (by kernel_rfl) (fun _ _ _ h => h) (Or.inl ⟨by rfl, ?_⟩) (by assumption) ?_
      rotate_left
      · (intro w hSw; (try dsimp only at hSw); go_simp; try (with_reducible rfl))
      (try dsimp only); (try simp only [Act.put, List.setIfInBounds_toArray, List.set_cons_zero, List.set_cons_succ])
      refine wpAnyH_take (i := 12) (oi := ⟨some 53, _, _, _, _, _⟩) (v := ?_) rfl (by kernel_rfl) (by kernel_rfl) (by kernel_rfl) (fun _ _ _ h => h) (Or.inl ⟨by rfl, ?_⟩) (by assumption) ?_
      rotate_left
      · (intro w hSw; (try dsimp only at hSw); go_simp; try (with_reducible rfl))
      (try dsimp only); (try simp only [Act.put, List.setIfInBounds_toArray, List.set_cons_zero, List.set_cons_succ])
      refine wpAnyH_take (i := 13) (oi := ⟨some 54, _, _, _, _, _⟩) (v := ?_) rfl (by kernel_rfl) (by kernel_rfl) (by kernel_rfl) (fun _ _ _ h => h) (Or.inl ⟨by rfl, ?_⟩) (by assumption) ?_
      rotate_left
      · (intro w hSw; (try dsimp only at hSw); go_simp; try (with_reducible rfl))
      (try dsimp only); (try simp only [Act.put, List.setIfInBounds_toArray, List.set_cons_zero, List.set_cons_succ])
      refine wpAnyH_ready (rs := [11, 14]) (by kernel_rfl) (by simp) ?_
      refine AllReadyH.cons (o := ⟨some 52, _, _, _, _, _⟩) rfl (fun K hK => ?_) (AllReadyH.cons (o := ⟨some 55, _, _, _, _, _⟩) rfl (fun K hK => ?_) AllReadyH.nil)
      · go_simp
        refine hK.out _ _ hHeld (fun hHeld => ?_)
        clear hK K
        (try dsimp only); (try simp only [Act.put, List.setIfInBounds_toArray, List.set_cons_zero, List.set_cons_succ])
        refine wpAnyH_ready (rs := [14]) (by kernel_rfl) (by simp) ?_
        refine AllReadyH.cons (o := ⟨some 55, _, _, _, _, _⟩) rfl (fun K hK => ?_) AllReadyH.nil
        go_simp
        refine hK.out _ _ HA2.out (fun hHeld => ?_)
        clear hK K
        (try dsimp only); (try simp only [Act.put, List.setIfInBounds_toArray, List.set_cons_zero, List.set_cons_succ])
        refine wpAnyH_ready (rs := [15]) (by kernel_rfl) (by simp) ?_
        refine AllReadyH.cons (o := ⟨some 56, _, _, _, _, _⟩) rfl (fun K hK => ?_) AllReadyH.nil
        refine step_append_own9 rfl _ _ 110 110 rfl 0 112 j0 (.agg #[.bool false, .int .i64 0, .slice none 0 0]) 3 40 Try.underlying110 HJ.out.1 HJ.out.2.1 HJ.out.2.2.1 HJ.out.2.2.2 rfl (cv i) (.slice (some ⟨W7.heap.size, 0, none⟩) 1 1) ps.length (ps.flatMap ccells) 1 (ccells (⟨true, m, []⟩, .slice none 0 0)) rfl rfl HRow.out HSrc.out (by have := HL.out; unfold maxLen; omega) (by have := HL.out; omega) (Nat.zero_le _) ?_
        intro v5 w5 ho5 hg5 hs5
        obtain ⟨hr5, hd5⟩ := HA.out.newAt hi hg5
        obtain ⟨O5, h5, hF5⟩ := HA.out.addCh hi HPs.out (Ow.nil _ _) (fun b hb => by simp [Value.ownBlock] at hb) ho5 hg5 hs5
        obtain ⟨ad5, n5, cap5, rfl⟩ := ownsRow_sl ho5
        have p5 := hr5.cell hi
        have pf5 := hr5.frozen i
        have pl5 := hr5.lt
        have H5 : Hid (PKw (w5.setCell ⟨gn, i, none⟩ (.slice ad5 n5 cap5)) O5 d (chg (cnt D) i ⟨true, m, []⟩) ∧ Fp O w O5 (w5.setCell ⟨gn, i, none⟩ (.slice ad5 n5 cap5))) := ⟨by have e := h5.w; rw [HD7.out] at e; exact e, HF7.out.trans hF5⟩
        have HD5 : Hid ((w5.setCell ⟨gn, i, none⟩ (.slice ad5 n5 cap5)).cell? ⟨d, 2, none⟩ = some (.slice (some ⟨gn, 0, none⟩) 8 cn)) := h5.blk.cell 2
        refine hK.out _ _ (hd5.cell 2) (fun hHeld => ?_)
        clear hK K ho5 hg5 hs5 h5 hF5 hd5 hr5 p3 p3' p3''
        (try dsimp only); (try simp only [Act.put, List.setIfInBounds_toArray, List.set_cons_zero, List.set_cons_succ])
        refine wpAnyH_take (i := 16) (oi := ⟨some 57, _, _, _, _, _⟩) (v := ?_) rfl (by kernel_rfl) (by kernel_rfl) (by kernel_rfl) (fun _ _ _ h => h) (Or.inl ⟨by rfl, ?_⟩) (by assumption) ?_
        rotate_left
        · (intro w hSw; (try dsimp only at hSw); go_simp; try (with_reducible rfl))
        (try dsimp only); (try simp only [Act.put, List.setIfInBounds_toArray, List.set_cons_zero, List.set_cons_succ])
        refine wpAnyH_ready (rs := [17]) (by kernel_rfl) (by simp) ?_
        refine AllReadyH.cons (o := ⟨none, _, _, _, _, _⟩) rfl (fun K hK => ?_) AllReadyH.nil
        go_simp
        refine hK.out _ _ HD5.out (fun hHeld => ?_)
        clear hK K p5 pf5 pl5
        (try dsimp only); (try simp only [Act.put, List.setIfInBounds_toArray, List.set_cons_zero, List.set_cons_succ])
        refine wpAnyH_done (by kernel_rfl) ?_ _
        refine NoPanic.normal ?_
        go_wp2
        go_ret
        exact ⟨rfl, _, H5.out⟩
      · go_simp
        refine hK.out _ _ HA2.out (fun hHeld => ?_)
        clear hK K
        (try dsimp only); (try simp only [Act.put, List.setIfInBounds_toArray, List.set_cons_zero, List.set_cons_succ])
        refine wpAnyH_ready (rs := [11]) (by kernel_rfl) (by simp) ?_
        refine AllReadyH.cons (o := ⟨some 52, _, _, _, _, _⟩) rfl (fun K hK => ?_) AllReadyH.nil
        go_simp
        refine hK.out _ _ hHeld (fun hHeld => ?_)
        clear hK K
        (try dsimp only); (try simp only [Act.put, List.setIfInBounds_toArray, List.set_cons_zero, List.set_cons_succ])
        refine wpAnyH_ready (rs := [15]) (by kernel_rfl) (by simp) ?_
        refine AllReadyH.cons (o := ⟨some 56, _, _, _, _, _⟩) rfl (fun K hK => ?_) AllReadyH.nil
        refine step_append_own9 rfl _ _ 110 110 rfl 0 112 j0 (.agg #[.bool false, .int .i64 0, .slice none 0 0]) 3 40 Try.underlying110 HJ.out.1 HJ.out.2.1 HJ.out.2.2.1 HJ.out.2.2.2 rfl (cv i) (.slice (some ⟨W7.heap.size, 0, none⟩) 1 1) ps.length (ps.flatMap ccells) 1 (ccells (⟨true, m, []⟩, .slice none 0 0)) rfl rfl HRow.out HSrc.out (by have := HL.out; unfold maxLen; omega) (by have := HL.out; omega) (Nat.zero_le _) ?_
        intro v5 w5 ho5 hg5 hs5
        obtain ⟨hr5, hd5⟩ := HA.out.newAt hi hg5
        obtain ⟨O5, h5, hF5⟩ := HA.out.addCh hi HPs.out (Ow.nil _ _) (fun b hb => by simp [Value.ownBlock] at hb) ho5 hg5 hs5
        obtain ⟨ad5, n5, cap5, rfl⟩ := ownsRow_sl ho5
        have p5 := hr5.cell hi
        have pf5 := hr5.frozen i
        have pl5 := hr5.lt
        have H5 : Hid (PKw (w5.setCell ⟨gn, i, none⟩ (.slice ad5 n5 cap5)) O5 d (chg (cnt D) i ⟨true, m, []⟩) ∧ Fp O w O5 (w5.setCell ⟨gn, i, none⟩ (.slice ad5 n5 cap5))) := ⟨by have e := h5.w; rw [HD7.out] at e; exact e, HF7.out.trans hF5⟩
        have HD5 : Hid ((w5.setCell ⟨gn, i, none⟩ (.slice ad5 n5 cap5)).cell? ⟨d, 2, none⟩ = some (.slice (some ⟨gn, 0, none⟩) 8 cn)) := h5.blk.cell 2
        refine hK.out _ _ (hd5.cell 2) (fun hHeld => ?_)
        clear hK K ho5 hg5 hs5 h5 hF5 hd5 hr5 p3 p3' p3''
        (try dsimp only); (try simp only [Act.put, List.setIfInBounds_toArray, List.set_cons_zero, List.set_cons_succ])
        refine wpAnyH_take (i := 16) (oi := ⟨some 57, _, _, _, _, _⟩) (v := ?_) rfl (by kernel_rfl) (by kernel_rfl) (by kernel_rfl) (fun _ _ _ h => h) (Or.inl ⟨by rfl, ?_⟩) (by assumption) ?_
        rotate_left
        · (intro w hSw; (try dsimp only at hSw); go_simp; try (with_reducible rfl))
        (try dsimp only); (try simp only [Act.put, List.setIfInBounds_toArray, List.set_cons_zero, List.set_cons_succ])
        refine wpAnyH_ready (rs := [17]) (by kernel_rfl) (by simp) ?_
        refine AllReadyH.cons (o := ⟨none, _, _, _, _, _⟩) rfl (fun K hK => ?_) AllReadyH.nil
        go_simp
        refine hK.out _ _ HD5.out (fun hHeld => ?_)
        clear hK K p5 pf5 pl5
        (try dsimp only); (try simp only [Act.put, List.setIfInBounds_toArray, List.set_cons_zero, List.set_cons_succ])
        refine wpAnyH_done (by kernel_rfl) ?_ _
        refine NoPanic.normal ?_
        go_wp2
        go_ret
        exact ⟨rfl, _, H5.out⟩
  · have e : cutE D f n = cntE D f := if_pos h0
    have e2 : cutD D f n = cnt D := if_neg (by rw [e]; exact h0)
    rw [e, e2]
    have hne : (cntE D f != 0) = true := by rw [bne_iff_ne]; exact h0
    clear h h0 e e2 hl hm bO bF
    generalize cntE D f = ev at *
    go_enter Try.func37, Try.ntmps37
    go_wp2_with (go_at_call 79; refine Calls.mono HF.out ?_; rintro e w8 ⟨rfl, l1, b1, a1, o1, u1, h8, hF8⟩; have H8 : Hid (PKw w8 O d (cnt D) ∧ Fp O w O w8) := ⟨h8.w, hF8⟩; clear h8 hF8 HF)
    go_ret
    exact ⟨rfl, O, H8.out⟩
end
end Go.Proofs.Ytljhhdpeakencaa
end
section
set_option linter.unusedSimpArgs false
set_option linter.unusedVariables false
namespace Go.Proofs.Ytljhhdpeakencaa
open Go.RowKit Go.Shelf
attribute [local go_sem] Oper.semAt_some

/-! Write. -/
def pch (a : Nat) (bs : List UInt8) (x : Nat × Nat) : Ch := ⟨false, a + x.1, (bs.drop x.1).take x.2⟩
def wrL (D : Ds) (i a : Nat) (bs : List UInt8) (xs : List (Nat × Nat)) : Ds := xs.foldl (fun D x => chg D i (pch a bs x)) D
theorem wrL_snoc (D : Ds) (i a : Nat) (bs : List UInt8) (xs : List (Nat × Nat)) (x : Nat × Nat) : wrL D i a bs (xs ++ [x]) = chg (wrL D i a bs xs) i (pch a bs x) := by simp [wrL]
def wrE (D : Ds) (f at_ : Int) (bl : Nat) : Int := if cntE D f ≠ 0 then cntE D f else if at_ < 0 ∨ ((D.now f.toNat).length : Int) < at_ then 1 else if 131072 - at_ < (bl : Int) then 5 else 0
def wrD (D : Ds) (f at_ : Int) (bs : List UInt8) : Ds := if wrE D f at_ bs.length = 0 then wrL (cnt D) f.toNat at_.toNat bs (pcs at_.toNat bs.length 0) else cnt D
set_option maxRecDepth 100000 in
set_option maxHeartbeats 4000000 in
theorem write_no (w : World) (O : Nat → Nat) (d : Nat) (D : Ds) (nv sv cv : Nat → Value) (f at_ : Int) (ad : Option Addr) (bl bc : Nat) (h : DK w O d D nv sv cv) (hl : ∀ i, i < 8 → (D.now i).length ≤ 131072) (hbl : bl ≤ 9223372036854775807) (hw : wrE D f at_ bl ≠ 0) :
    Calls Try.prog 50 #[.pointer (some ⟨d, 0, none⟩), .int .i64 f, .int .i64 at_, .slice ad bl bc] w fun e w' => e = .returned (.int .i64 (wrE D f at_ bl)) ∧ ∃ O' nv' sv' cv', DK w' O' d (cnt D) nv' sv' cv' ∧ Fp O w O' w' := by
  have HF := findC w O d D nv sv cv f h
  have HD : Hid (DK w O d D nv sv cv) := h
  have HEnd : Hid (∀ W pv, Turn w W d (dkc nv sv cv (cnt D).off (cnt D).tO (cnt D).tF) 98 → ∃ O' nv' sv' cv', DK (W.alloc (.cells #[pv] 103)) O' d (cnt D) nv' sv' cv' ∧ Fp O w O' (W.alloc (.cells #[pv] 103))) := fun W pv hW => by
    obtain ⟨r1, r2⟩ := HD.out.counted hW
    have hb : Below W.heap.size W (W.alloc (.cells #[pv] 103)) := (Below.refl _ W).alloc (Nat.le_refl _) _
    exact ⟨O, nv, sv, cv, r1.below hb, r2.trans (Fp.of_below O hb)⟩
  by_cases h0 : cntE D f = 0
  · obtain ⟨ho, i, rfl, hi, hp⟩ := cnt_ok (d := d) h0
    rw [hp, h0] at HF
    have eE : wrE D (i : Int) at_ bl = if at_ < 0 ∨ ((D.now i).length : Int) < at_ then 1 else if 131072 - at_ < (bl : Int) then 5 else 0 := by unfold wrE; rw [if_neg (by rw [h0]; simp), Int.toNat_natCast]
    have hli := hl i hi
    have HF : Hid _ := HF
    obtain ⟨an, cap, env, hle⟩ := (h.now i hi).shape
    have HC0 : Hid (∀ W, Turn w W d (dkc nv sv cv (cnt D).off (cnt D).tO (cnt D).tF) 98 → W.cell? ⟨d, i * 3, none⟩ = some (.slice an (D.now i).length cap) ∧ d < W.heap.size) := fun W hW => ⟨by rw [← env]; exact (hW.blk.cell _).trans (dkc_now _ _ _ _ _ _ hi), hW.blk.lt⟩
    rw [eE] at hw ⊢
    clear eE h env hp h0 ho hl
    generalize (D.now i).length = ln at *
    by_cases hc : at_ < 0 ∨ (ln : Int) < at_
    · rw [if_pos hc]
      by_cases hx : at_ < 0
      all_goals
        go_enter Try.func50, Try.ntmps50
        go_wp2_with (go_at_call 77; refine Calls.mono HF.out ?_; rintro e w8 ⟨rfl, ht8⟩; obtain ⟨c8, l8⟩ := HC0.out _ ht8; have n8 : d ≠ w8.heap.size := (by omega); have H8 : Hid (Turn w w8 d (dkc nv sv cv (cnt D).off (cnt D).tO (cnt D).tF) 98) := ht8; clear ht8)
        go_ret
        exact ⟨rfl, HEnd.out _ _ H8.out⟩
    · rw [if_neg hc] at hw ⊢
      by_cases hf : 131072 - at_ < (bl : Int)
      · rw [if_pos hf]
        have hx : ¬ at_ < 0 := by omega
        have hy : ¬ (ln : Int) < at_ := by omega
        have hdif : IntKind.i64.wrap (131072 - at_) = 131072 - at_ := IntWalk.i64_in _ (by omega)
        clear hw
        go_enter Try.func50, Try.ntmps50
        go_wp2_with (go_at_call 77; refine Calls.mono HF.out ?_; rintro e w8 ⟨rfl, ht8⟩; obtain ⟨c8, l8⟩ := HC0.out _ ht8; have n8 : d ≠ w8.heap.size := (by omega); have H8 : Hid (Turn w w8 d (dkc nv sv cv (cnt D).off (cnt D).tO (cnt D).tF) 98) := ht8; clear ht8)
        go_ret
        exact ⟨rfl, HEnd.out _ _ H8.out⟩
      · rw [if_neg hf] at hw
        exact absurd rfl hw
  · have e : wrE D f at_ bl = cntE D f := if_pos h0
    rw [e]
    rw [cnt_no h0] at HF
    have HF : Hid _ := HF
    have hne : (cntE D f != 0) = true := by rw [bne_iff_ne]; exact h0
    clear h e h0 hl hw
    generalize cntE D f = ev at *
    go_enter Try.func50, Try.ntmps50
    go_wp2_with (go_at_call 77; refine Calls.mono HF.out ?_; rintro e w8 ⟨rfl, ht8⟩; have H8 : Hid (Turn w w8 d (dkc nv sv cv (cnt D).off (cnt D).tO (cnt D).tF) 98) := ht8; clear ht8)
    go_ret
    exact ⟨rfl, HEnd.out _ _ H8.out⟩
/-- A piece of the write under way. -/
structure WrI (w1 : World) (O1 : Nat → Nat) (d : Nat) (D : Ds) (i a : Nat) (bs : List UInt8) (pre : List (Nat × Nat)) (W : World) : Prop where
  ex : ∃ O nv sv cv, DK W O d (wrL D i a bs pre) nv sv cv ∧ Fp O1 w1 O W
  mem : ∀ x ∈ pre, x.1 + x.2 ≤ bs.length
theorem WrI.below {w1 : World} {O1 : Nat → Nat} {d : Nat} {D : Ds} {i a : Nat} {bs : List UInt8} {pre : List (Nat × Nat)} {A B : World} (h : WrI w1 O1 d D i a bs pre A) (hb : Below A.heap.size A B) : WrI w1 O1 d D i a bs pre B := by
  obtain ⟨O, nv, sv, cv, h1, h2⟩ := h.ex
  exact ⟨⟨O, nv, sv, cv, h1.below hb, h2.trans (Fp.of_below O hb)⟩, h.mem⟩
theorem DK.put {w : World} {O : Nat → Nat} {d : Nat} {D : Ds} {nv sv cv : Nat → Value} (h : DK w O d D nv sv cv) {l : Nat} {o o' : Obj} (hl : w.heap[l]? = some o) (ho : o.isCells = false) : DK (w.putObj l o') O d D nv sv cv :=
  h.frame (by simp [World.putObj]) fun b hb => World.putObj_heap_other (fun e => by
    obtain ⟨x, e1, e2⟩ := h.cel b hb
    rw [e, hl] at e1
    simp at e1
    subst e1
    rw [ho] at e2
    cases e2)
theorem WrI.put {w1 : World} {O1 : Nat → Nat} {d : Nat} {D : Ds} {i a : Nat} {bs : List UInt8} {pre : List (Nat × Nat)} {A : World} {l : Nat} {o o' : Obj} (h : WrI w1 O1 d D i a bs pre A) (hl1 : w1.heap.size ≤ l) (hl : A.heap[l]? = some o) (ho : o.isCells = false) : WrI w1 O1 d D i a bs pre (A.putObj l o') := by
  obtain ⟨O, nv, sv, cv, h1, h2⟩ := h.ex
  refine ⟨⟨O, nv, sv, cv, h1.put hl ho, ⟨h2.os, h2.tape, h2.output, by simp [World.putObj]; exact h2.size, h2.old, fun b hb hO => (World.putObj_heap_other (by omega)).trans (h2.keep b hb hO), fun k o2 hk hc => ?_⟩⟩, h.mem⟩
  have hk1 : k < w1.heap.size := (Array.getElem?_eq_some_iff.1 hk).1
  exact (World.putObj_heap_other (by omega)).trans (h2.kf k o2 hk hc)
theorem wr_now {D : Ds} {i a : Nat} {bs : List UInt8} (hn : (D.now i).length ≤ 131072) (hb : a + bs.length ≤ 131072) (xs : List (Nat × Nat)) (hx : ∀ x ∈ xs, x.1 + x.2 ≤ bs.length) : ((wrL D i a bs xs).now i).length ≤ 131072 := by
  induction xs generalizing D with
  | nil => exact hn
  | cons x xs ih =>
    refine ih (D := chg D i (pch a bs x)) ?_ (fun y hy => hx y (List.mem_cons_of_mem _ hy))
    show (upd D.now i (ovr (pch a bs x) (D.now i)) i).length ≤ _
    rw [upd_same]
    refine Nat.le_trans (ovr_le _ _) ?_
    have := hx x List.mem_cons_self
    simp [pch]
    omega
theorem wr_chs {D : Ds} {i a : Nat} {bs : List UInt8} (xs : List (Nat × Nat)) : ((wrL D i a bs xs).chs i).length = (D.chs i).length + xs.length := by
  induction xs generalizing D with
  | nil => rfl
  | cons x xs ih =>
    show ((wrL (chg D i (pch a bs x)) i a bs xs).chs i).length = _
    rw [ih]
    show (upd D.chs i (D.chs i ++ [pch a bs x]) i).length + _ = _
    rw [upd_same]
    simp
    omega
theorem pcs_len (a len : Nat) : ∀ (n k : Nat), len - k ≤ n → (pcs a len k).length ≤ n
  | 0, k, h => by rw [pcs_nil (by omega)]; simp
  | n + 1, k, h => by
    by_cases hk : k < len
    · rw [pcs_cons hk]
      have := pcn_pos (a := a) hk
      have := pcs_len a len n (k + pcn a len k) (by omega)
      simp
      omega
    · rw [pcs_nil hk]; simp
theorem pcs_mem {a len : Nat} : ∀ (n k : Nat), len - k ≤ n → ∀ x ∈ pcs a len k, 0 < x.2 ∧ x.1 + x.2 ≤ len
  | 0, k, h, x, hx => by rw [pcs_nil (by omega)] at hx; cases hx
  | n + 1, k, h, x, hx => by
    by_cases hk : k < len
    · rw [pcs_cons hk] at hx
      have h1 := pcn_pos (a := a) hk
      have h2 := pcn_le (a := a) hk
      rcases List.mem_cons.1 hx with rfl | hx
      · exact ⟨h1, h2⟩
      · exact pcs_mem n (k + pcn a len k) (by omega) x hx
    · rw [pcs_nil hk] at hx; cases hx
/-- A piece is handed on, with a copy of its bytes. -/
theorem wr_step {w1 A B : World} {O1 : Nat → Nat} {d i a : Nat} {D : Ds} {bs : List UInt8} {pre : List (Nat × Nat)} {x : Nat × Nat} {v : Value} (hi : i < 8) (h : WrI w1 O1 d D i a bs pre A) (hb : Below A.heap.size A B) (hv : Ow B A.heap.size v ((bs.drop x.1).take x.2)) (hx : 0 < x.2 ∧ x.1 + x.2 ≤ bs.length) (hab : a + bs.length ≤ 131072)
    (h1 : (D.now i).length ≤ 131072) (h2 : ((wrL D i a bs pre).chs i).length ≤ 1099511627776) :
    Calls Try.prog 78 #[.pointer (some ⟨d, i * 3, none⟩), .agg (chc (pch a bs x) v)] B fun e W => (∃ v, e = .returned v) ∧ WrI w1 O1 d D i a bs (pre ++ [x]) W ∧ ∃ OA OB, (∀ b, b < A.heap.size → O1 b = 0 → b < w1.heap.size → OA b = 0) ∧ Fp OA A OB W := by
  obtain ⟨O, nv, sv, cv, g1, g2⟩ := h.ex
  obtain ⟨ad, n, cap, rfl⟩ := ownsRow_sl hv
  obtain ⟨O', hO'⟩ : ∃ O' : Nat → Nat, O' = fun b => if (Value.slice ad n cap).ownBlock = some b then 25 else O b := ⟨_, rfl⟩
  have hlt : ∀ b, (Value.slice ad n cap).ownBlock = some b → A.heap.size ≤ b := fun b hb' => (hv.ge hb').1
  have gB := g1.below hb
  have gR : DK B O' d (wrL D i a bs pre) nv sv cv := gB.retag (fun b hb' => by
      rw [hO']; simp only []
      rw [if_neg (fun e => by have := hlt b e; have := g1.lt b hb'; omega)]) (fun b hb' => by
      rw [hO'] at hb'; simp only [] at hb'
      by_cases e : (Value.slice ad n cap).ownBlock = some b
      · obtain ⟨c, e2⟩ := hv.bytes b e; exact ⟨_, e2, rfl⟩
      · rw [if_neg e] at hb'; exact gB.cel b hb')
  have hlen : ((bs.drop x.1).take x.2).length = x.2 := by simp; omega
  have hv0 : Ow B 0 (.slice ad n cap) ((bs.drop x.1).take x.2) := by
    refine ⟨hv.1, ?_⟩
    rcases hv.2 with h2 | ⟨g, cap, cur, e, h3, h4, h5⟩
    · exact .inl h2
    · exact .inr ⟨g, cap, cur, e, Nat.zero_le _, h4, h5⟩
  refine (do9 B O' d i (wrL D i a bs pre) nv sv cv (pch a bs x) (.slice ad n cap) gR hi ⟨hv0, fun b hb' => by rw [hO']; exact if_pos hb', fun _ => by show 0 < ((bs.drop x.1).take x.2).length; omega, by show a + x.1 + ((bs.drop x.1).take x.2).length ≤ _; omega, _, _, _, rfl⟩ (Nat.le_trans (wr_now h1 hab pre h.mem) (by omega)) h2).mono ?_
  rintro e W ⟨he, O2, nv2, cv2, r1, r2⟩
  have hAW : Fp O A O2 W := by
    have e1 : Fp O A O' B := (Fp.of_below O hb).re fun b hb' => by rw [hO']; simp only []; rw [if_neg (fun e => by have := hlt b e; omega)]
    exact e1.trans r2
  refine ⟨he, ⟨⟨O2, nv2, sv, cv2, by rw [wrL_snoc]; exact r1, g2.trans hAW⟩, fun y hy => (List.mem_append.1 hy).elim (fun h' => h.mem y h') (fun h' => by simp at h'; subst h'; exact hx.2)⟩, O, O2, fun b _ h0 h3 => g2.old b h3 h0, hAW⟩
end Go.Proofs.Ytljhhdpeakencaa
end
section
set_option linter.unusedSimpArgs false
set_option linter.unusedVariables false
namespace Go.Proofs.Ytljhhdpeakencaa
open Go.RowKit Go.Shelf
attribute [local go_sem] Oper.semAt_some

/-! Write, where it writes. -/
theorem pieces_any (a : Int) (v : Value) (hv : v.oneCell' = true) (w : World) : Calls Try.prog 84 #[.int .i64 a, v] w fun e w' => e = .returned (.func (.func 95) #[] #[.pointer (some ⟨w.heap.size + 1, 0, none⟩), .pointer (some ⟨w.heap.size, 0, none⟩)]) ∧ w' = (w.alloc (.cells #[.int .i64 a] 3)).alloc (.cells #[v] 37) := by
  have hc : v.cells = #[v] := by
    cases v <;> first | rfl | (simp [Value.oneCell'] at hv)
  go_enter Try.func84, Try.ntmps84
  go_wp2
  go_ret
  exact ⟨by simp, by simp [hc]⟩
theorem wr_facts {D : Ds} {i a : Nat} {bl : Nat} (h : wrE D (i : Int) (a : Int) bl = 0) : cntE D (i : Int) = 0 ∧ a ≤ (D.now i).length ∧ a + bl ≤ 131072 ∨ 131072 < a := by
  unfold wrE at h
  by_cases h0 : cntE D (i : Int) = 0
  · rw [if_neg (by rw [h0]; simp), Int.toNat_natCast] at h
    by_cases h1 : (a : Int) < 0 ∨ ((D.now i).length : Int) < a
    · rw [if_pos h1] at h; omega
    · rw [if_neg h1] at h
      by_cases h2 : 131072 - (a : Int) < (bl : Int)
      · rw [if_pos h2] at h; omega
      · omega
  · rw [if_pos h0] at h; exact absurd h h0
set_option maxRecDepth 100000 in
set_option maxHeartbeats 4000000 in
theorem write_ok (w : World) (O : Nat → Nat) (d i a : Nat) (D : Ds) (nv sv cv : Nat → Value) (ad : Option Addr) (bs : List UInt8) (bc : Nat) (h : DK w O d D nv sv cv) (hi : i < 8) (h0 : cntE D (i : Int) = 0) (ha : a ≤ (D.now i).length) (hab : a + bs.length ≤ 131072) (hl : (D.now i).length ≤ 131072) (hm : (D.chs i).length ≤ 1099511496704)
    (hb : Rb w (.slice ad bs.length bc) bs) (hO : ∀ b n, ad = some ⟨b, n, none⟩ → O b = 0) :
    Calls Try.prog 50 #[.pointer (some ⟨d, 0, none⟩), .int .i64 (i : Int), .int .i64 (a : Int), .slice ad bs.length bc] w fun e w' => e = .returned (.int .i64 0) ∧ ∃ O' nv' sv' cv', DK w' O' d (wrL (cnt D) i a bs (pcs a bs.length 0)) nv' sv' cv' ∧ Fp O w O' w' := by
  have HF := findC w O d D nv sv cv i h
  have HD : Hid (DK w O d D nv sv cv) := h
  obtain ⟨ho, i', e1, hi', hp⟩ := cnt_ok (d := d) h0
  obtain rfl : i' = i := by omega
  rw [hp, h0] at HF
  have HF : Hid _ := HF
  obtain ⟨an, cap, env, hle⟩ := (h.now i' hi).shape
  have HC0 : Hid (∀ W, Turn w W d (dkc nv sv cv (cnt D).off (cnt D).tO (cnt D).tF) 98 → W.cell? ⟨d, i' * 3, none⟩ = some (.slice an (D.now i').length cap) ∧ d < W.heap.size) := fun W hW => ⟨by rw [← env]; exact (hW.blk.cell _).trans (dkc_now _ _ _ _ _ _ hi), hW.blk.lt⟩
  have HB : Hid (Rb w (.slice ad bs.length bc) bs ∧ ∀ b n, ad = some ⟨b, n, none⟩ → O b = 0) := ⟨hb, hO⟩
  have Hlen : Hid ((D.now i').length ≤ 131072 ∧ (D.chs i').length ≤ 1099511496704 ∧ bs.length ≤ bc) := ⟨hl, hm, by obtain ⟨a1, c1, e2, h2, _⟩ := hb; simp at e2; omega⟩
  clear env hp h0 ho hb hO e1 hm h
  obtain ⟨ln, hln⟩ : ∃ ln, ln = (D.now i').length := ⟨_, rfl⟩
  rw [← hln] at HC0 ha hle hl
  have Hln : Hid (ln = (D.now i').length) := hln
  clear hln
  have hx : ¬ (a : Int) < 0 := by omega
  have hy : ¬ (ln : Int) < (a : Int) := by omega
  have hdif : IntKind.i64.wrap (131072 - (a : Int)) = 131072 - (a : Int) := IntWalk.i64_in _ (by omega)
  have hz : ¬ 131072 - (a : Int) < (bs.length : Int) := by omega
  refine (callsIn_wide (n := 6)).1 ?_
  refine callsIn_of_wp_marks Try.func50 rfl trivial ?_ rfl
  simp only [Try.ntmps50, List.size_toArray, List.length_cons, List.length_nil, Nat.reduceAdd, Nat.reduceSub, Array.replicate_succ, Array.replicate_zero, List.push_toArray, List.append_toArray, List.nil_append, List.cons_append]
  gi_wp2_with (refine ⟨trivial, ?_⟩; first | (gi_at_call 77; refine (callsIn_wide.2 (Hid.out HF)).mono ?_; rintro e w8 ⟨rfl, ht8⟩; obtain ⟨c8, l8⟩ := HC0.out _ ht8; have n8 : d ≠ w8.heap.size := (by omega); have H8 : Hid (Turn w w8 d (dkc nv sv cv (cnt D).off (cnt D).tO (cnt D).tF) 98) := ht8; clear ht8) | (gi_at_call 84; refine (callsIn_wide.2 (pieces_any _ _ rfl _)).mono ?_; rintro e w9 ⟨rfl, hw9⟩))
  obtain ⟨W9, hW9⟩ : ∃ W9, W9 = ((w8.alloc (.cells #[.pointer (some ⟨d, i' * 3, none⟩)] 103)).alloc (.cells #[.int .i64 (a : Int)] 3)).alloc (.cells #[.slice ad bs.length bc] 37) := ⟨_, rfl⟩
  rw [← hW9]
  have hbW : Below w8.heap.size w8 W9 := by rw [hW9]; exact (((Below.refl _ w8).alloc (Nat.le_refl _) _).alloc (by simp) _).alloc (by simp; omega) _
  have bX : Bk W9 w8.heap.size #[.pointer (some ⟨d, i' * 3, none⟩)] 103 := by rw [hW9]; exact ((Bk.new _ _ _).alloc _).alloc _
  have bA : Bk W9 (w8.heap.size + 1) #[.int .i64 (a : Int)] 3 := by rw [hW9]; exact (Bk.new' _ _ _ (by simp)).alloc _
  have bB : Bk W9 (w8.heap.size + 1 + 1) #[.slice ad bs.length bc] 37 := by rw [hW9]; exact Bk.new' _ _ _ (by simp)
  have hz9 : W9.heap.size = w8.heap.size + 3 := by rw [hW9]; simp
  clear hW9
  obtain ⟨hD8, hF8⟩ := HD.out.counted H8.out
  have hlt8 := hD8.lt
  have hD9 := hD8.below hbW
  have hF9 : Fp O w O W9 := hF8.trans (Fp.of_below O hbW)
  have HF9 : Hid (Fp O w O W9) := hF9
  have o0 : ∀ b, w8.heap.size ≤ b → O b = 0 := fun b hb => by
    by_cases e : O b = 0
    · exact e
    · have := hlt8 b e; omega
  have hRb9 : Rb W9 (.slice ad bs.length bc) bs := HB.out.1.fp hF9 (fun b n c e => HB.out.2 b n (by simp at e; exact e.1))
  have HX : Hid (O w8.heap.size = 0 ∧ w8.heap.size < W9.heap.size ∧ W9.cell? ⟨w8.heap.size, 0, none⟩ = some (.pointer (some ⟨d, i' * 3, none⟩)) ∧ Rb W9 (.slice ad bs.length bc) bs) := ⟨o0 _ (Nat.le_refl _), by omega, bX.cell 0, hRb9⟩
  have h0 : WrI W9 O d (cnt D) i' a bs [] W9 := ⟨⟨O, nv, sv, cv, hD9, Fp.refl O W9⟩, fun x hx => by cases hx⟩
  have c1 : W9.cell? ⟨w8.heap.size + 1 + 1, 0, none⟩ = some (.slice ad bs.length bc) := bB.cell 0
  have c2 : W9.cell? ⟨w8.heap.size + 1, 0, none⟩ = some (.int .i64 (a : Int)) := bA.cell 0
  have hseq := pieces_seq 5 a bs.length bc (w8.heap.size + 1 + 1) (w8.heap.size + 1) W9.heap.size O ad (by omega) (by omega) Hlen.out.2.2 W9 c1 c2 (by omega) (by omega) (o0 _ (by omega)) (o0 _ (by omega))
  clear bX bA bB hbW hD8 hF8 hlt8 hD9 hF9 c8 o0 hRb9 c1 c2
  refine wpIn_rangeP rfl (by omega) (gf := 95) (lb := #[.pointer (some ⟨w8.heap.size + 1 + 1, 0, none⟩), .pointer (some ⟨w8.heap.size + 1, 0, none⟩)]) rfl trivial (enters_of Try.func95 rfl rfl) hseq KpT.trans (fun W l o o' _ h hc => kpt_put W l o o' h hc) (Below.refl _ _) (fun _ => rfl)
    (fun pre W => WrI W9 O d (cnt D) i' a bs pre W) (fun c pre W => False) (fun s A B h hb => h.below hb) (fun c s A B h hb => h) (fun s A l o o' hl h hc hi => hi.put hl h hc) (fun c s A l o o' hl h hc hi => hi) h0
    (fun pre x a' W => a' = { tmps := #[.pointer (some ⟨d, 0, none⟩), .int .i64 (i' : Int), .int .i64 (a : Int), .slice ad bs.length bc, undef, undef, undef, undef, .int .i64 0, .pointer (some ⟨w8.heap.size, 0, none⟩), .int .i64 0, .int .i64 ((a : Int) + (x.1 : Int)), .slice (Option.map (fun y => y.add x.1) ad) x.2 (bc - x.1), .tuple #[.pointer (some ⟨d, i' * 3, none⟩), .int .i64 0], .pointer (some ⟨d, 0, none⟩), .int .i64 (i' : Int), .tuple #[.pointer (some ⟨d, i' * 3, none⟩), .int .i64 0], .pointer (some ⟨d, i' * 3, none⟩), .int .i64 0, .int .i64 0, .bool false, undef, .int .i64 (a : Int), .bool (decide ((a : Int) < 0)), .bool (decide ((a : Int) < 0)), .int .i64 (a : Int), .pointer (some ⟨d, i' * 3, none⟩), .pointer (some ⟨d, i' * 3, none⟩), .pointer (some ⟨d, i' * 3, none⟩), .slice an ln cap, .int .i64 (ln : Int), .bool false, .bool (decide ((a : Int) < 0)), .slice ad bs.length bc, .int .i64 (bs.length : Int), .int .i64 (a : Int), .int .i64 (131072 - (a : Int)), .bool (decide (131072 - (a : Int) < (bs.length : Int))), .int .i64 (a : Int), .slice ad bs.length bc, .func (.func 95) #[] #[.pointer (some ⟨w8.heap.size + 1 + 1, 0, none⟩), .pointer (some ⟨w8.heap.size + 1, 0, none⟩)], .int .i64 ((a : Int) + (x.1 : Int)), .slice (Option.map (fun y => y.add x.1) ad) x.2 (bc - x.1), undef, undef, undef, undef, undef, undef], defers := [] } ∧ (0 < x.2 ∧ x.1 + x.2 ≤ bs.length ∧ pre.length ≤ x.1))
    (fun pre x a' A l o o' _ h hc hx => hx) ?assign ?body ?done ?stop
  case assign =>
    intro l pre x A0 W K hi0 hbA hgd hi hK
    simp only [pcenc]
    gi_wp2
    exact hK _ _ (KeepsFrom.refl _ _) (fun p v _ _ h => h) hi ⟨rfl, hgd⟩
  case body =>
    rintro l pre x a' W hi1 ⟨rfl, hx1, hx2, hx3⟩
    have HI : Hid (WrI W9 O d (cnt D) i' a bs pre W) := hi1
    have HZ : Hid (W9.heap.size ≤ W.heap.size) := by
      obtain ⟨O2, _, _, _, _, g2⟩ := hi1.ex
      exact g2.size
    have xc : W.cell? ⟨w8.heap.size, 0, none⟩ = some (.pointer (some ⟨d, i' * 3, none⟩)) := by
      obtain ⟨O2, _, _, _, _, g2⟩ := hi1.ex
      exact g2.cell HX.out.2.2.1 HX.out.1
    have hRb : Rb W (.slice ad bs.length bc) bs := by
      obtain ⟨O2, _, _, _, _, g2⟩ := hi1.ex
      exact HX.out.2.2.2.fp g2 (fun b n c e => HB.out.2 b n (by simp at e; exact e.1))
    have hlen : ((bs.drop x.1).take x.2).length ≤ 1099511627776 := by simp; omega
    have HCl : Hid (∀ W', Below W.heap.size W W' → Calls Try.prog 74 #[.slice (Option.map (fun y => y.add x.1) ad) x.2 (bc - x.1)] W' fun e w' => ∃ v', e = .returned v' ∧ Ow w' W.heap.size v' ((bs.drop x.1).take x.2) ∧ Below W.heap.size W w') := fun W' hW' => by
      refine (clone W' _ _ ((hRb.mid hx2).below hW') hlen).mono ?_
      rintro e w' ⟨v', rfl, h1, h2⟩
      refine ⟨v', rfl, ⟨h1.1, ?_⟩, hW'.trans (h2.mono hW'.size)⟩
      rcases h1.2 with h3 | ⟨g, cap, cur, e, h3, h4, h5⟩
      · exact .inl h3
      · exact .inr ⟨g, cap, cur, e, Nat.le_trans hW'.size h3, h4, h5⟩
    have HDo : Hid (∀ B v, Below W.heap.size W B → Ow B W.heap.size v ((bs.drop x.1).take x.2) → Calls Try.prog 78 #[.pointer (some ⟨d, i' * 3, none⟩), .agg #[.bool false, .int .i64 ((a : Int) + (x.1 : Int)), v]] B fun e W' => (∃ v, e = .returned v) ∧ WrI W9 O d (cnt D) i' a bs (pre ++ [x]) W' ∧ ∃ OA OB, (∀ b, b < W.heap.size → O b = 0 → b < W9.heap.size → OA b = 0) ∧ Fp OA W OB W') := fun B v hB hv => by
      have e : ((a : Int) + (x.1 : Int)) = ((a + x.1 : Nat) : Int) := by omega
      rw [e]
      exact wr_step hi hi1 hB hv ⟨hx1, hx2⟩ hab Hlen.out.1 (by rw [wr_chs]; have := Hlen.out.2.1; show (D.chs i').length + _ ≤ _; omega)
    clear hRb hlen hi1 hseq h0 hx1 hx2 hx3
    gi_wp2
    refine wpIn_region_any (by kernel_rfl) ?_
    (try (change wpAnyIn _ _ _ _ _ _ _ _ _ (World.drew _)))
    refine anyIn_round l (noDefer_spec (by kernel_rfl)) _ _ _ _ ?_
    refine wpAnyIn_take (i := 1) (oi := ⟨some 44, _, _, _, _, _⟩) (v := ?_) rfl rfl (by kernel_rfl) (by kernel_rfl) (by kernel_rfl) (fun _ _ _ h => h) ⟨Or.inl ⟨by rfl, ?_⟩, fun _ => rfl⟩ ?_
    rotate_left
    · (intro w; go_simp; try (with_reducible rfl))
    (try dsimp only); (try simp only [Act.put, List.setIfInBounds_toArray, List.set_cons_zero, List.set_cons_succ])
    refine wpAnyIn_take (i := 2) (oi := ⟨some 45, _, _, _, _, _⟩) (v := ?_) rfl rfl (by kernel_rfl) (by kernel_rfl) (by kernel_rfl) (fun _ _ _ h => h) ⟨Or.inl ⟨by rfl, ?_⟩, fun _ => rfl⟩ ?_
    rotate_left
    · (intro w; go_simp; try (with_reducible rfl))
    (try dsimp only); (try simp only [Act.put, List.setIfInBounds_toArray, List.set_cons_zero, List.set_cons_succ])
    refine wpAnyIn_ready (rs := [0, 3]) (by kernel_rfl) (by simp) ?_
    refine AllReadyIn.cons (o := ⟨some 43, _, _, _, _, _⟩) rfl (fun K hK => ?_) (AllReadyIn.cons (o := ⟨some 46, _, _, _, _, _⟩) rfl (fun K hK => ?_) AllReadyIn.nil)
    · go_simp
      refine hK _ _ ?_
      clear hK K
      (try dsimp only); (try simp only [Act.put, List.setIfInBounds_toArray, List.set_cons_zero, List.set_cons_succ])
      refine wpAnyIn_ready (rs := [3]) (by kernel_rfl) (by simp) ?_
      refine AllReadyIn.cons (o := ⟨some 46, _, _, _, _, _⟩) rfl (fun K hK => ?_) AllReadyIn.nil
      go_simp
      (try refine ⟨trivial, ?_⟩)
      refine (CallsIn.inRound l (callsIn_wide.2 (HCl.out _ (by first | exact Below.refl _ _ | exact (Below.refl _ _).drew)))).mono ?_
      rintro e w5 ⟨v5, rfl, ho5, hb5⟩
      obtain ⟨ad5, n5, cap5, rfl⟩ := ownsRow_sl ho5
      have x5 := (hb5.cell (cell_lt9 xc)).trans xc
      refine hK _ _ ?_
      clear hK K
      (try dsimp only); (try simp only [Act.put, List.setIfInBounds_toArray, List.set_cons_zero, List.set_cons_succ])
      refine wpAnyIn_take (i := 4) (oi := ⟨some 47, _, _, _, _, _⟩) (v := ?_) rfl rfl (by kernel_rfl) (by kernel_rfl) (by kernel_rfl) (fun _ _ _ h => h) ⟨Or.inl ⟨by rfl, ?_⟩, fun _ => rfl⟩ ?_
      rotate_left
      · (intro w; go_simp; try (with_reducible rfl))
      (try dsimp only); (try simp only [Act.put, List.setIfInBounds_toArray, List.set_cons_zero, List.set_cons_succ])
      refine wpAnyIn_ready (rs := [5]) (by kernel_rfl) (by simp) ?_
      refine AllReadyIn.cons (o := ⟨some 48, _, _, _, _, _⟩) rfl (fun K hK => ?_) AllReadyIn.nil
      go_simp
      (try refine ⟨trivial, ?_⟩)
      refine (CallsIn.inRound l (callsIn_wide.2 (HDo.out _ _ hb5 ho5))).mono ?_
      rintro e w6 ⟨⟨v6, rfl⟩, hI6, OA, OB, hOA, hfp⟩
      refine hK _ _ ?_
      clear hK K
      (try dsimp only); (try simp only [Act.put, List.setIfInBounds_toArray, List.set_cons_zero, List.set_cons_succ])
      refine wpAnyIn_done (by kernel_rfl) ?_ _
      exact ⟨hfp.keepsFrom _, KpT.of_fp hfp (fun b h1 h2 => hOA b (Nat.lt_of_lt_of_le h1 HZ.out) h2 h1), hI6⟩
    · go_simp
      (try refine ⟨trivial, ?_⟩)
      refine (CallsIn.inRound l (callsIn_wide.2 (HCl.out _ (by first | exact Below.refl _ _ | exact (Below.refl _ _).drew)))).mono ?_
      rintro e w5 ⟨v5, rfl, ho5, hb5⟩
      obtain ⟨ad5, n5, cap5, rfl⟩ := ownsRow_sl ho5
      have x5 := (hb5.cell (cell_lt9 xc)).trans xc
      refine hK _ _ ?_
      clear hK K
      (try dsimp only); (try simp only [Act.put, List.setIfInBounds_toArray, List.set_cons_zero, List.set_cons_succ])
      refine wpAnyIn_take (i := 4) (oi := ⟨some 47, _, _, _, _, _⟩) (v := ?_) rfl rfl (by kernel_rfl) (by kernel_rfl) (by kernel_rfl) (fun _ _ _ h => h) ⟨Or.inl ⟨by rfl, ?_⟩, fun _ => rfl⟩ ?_
      rotate_left
      · (intro w; go_simp; try (with_reducible rfl))
      (try dsimp only); (try simp only [Act.put, List.setIfInBounds_toArray, List.set_cons_zero, List.set_cons_succ])
      refine wpAnyIn_ready (rs := [0]) (by kernel_rfl) (by simp) ?_
      refine AllReadyIn.cons (o := ⟨some 43, _, _, _, _, _⟩) rfl (fun K hK => ?_) AllReadyIn.nil
      go_simp
      refine hK _ _ ?_
      clear hK K
      (try dsimp only); (try simp only [Act.put, List.setIfInBounds_toArray, List.set_cons_zero, List.set_cons_succ])
      refine wpAnyIn_ready (rs := [5]) (by kernel_rfl) (by simp) ?_
      refine AllReadyIn.cons (o := ⟨some 48, _, _, _, _, _⟩) rfl (fun K hK => ?_) AllReadyIn.nil
      go_simp
      (try refine ⟨trivial, ?_⟩)
      refine (CallsIn.inRound l (callsIn_wide.2 (HDo.out _ _ hb5 ho5))).mono ?_
      rintro e w6 ⟨⟨v6, rfl⟩, hI6, OA, OB, hOA, hfp⟩
      refine hK _ _ ?_
      clear hK K
      (try dsimp only); (try simp only [Act.put, List.setIfInBounds_toArray, List.set_cons_zero, List.set_cons_succ])
      refine wpAnyIn_done (by kernel_rfl) ?_ _
      exact ⟨hfp.keepsFrom _, KpT.of_fp hfp (fun b h1 h2 => hOA b (Nat.lt_of_lt_of_le h1 HZ.out) h2 h1), hI6⟩
  case done =>
    rintro D9 xs W hD9 rfl hi1 hK
    have HI : Hid (WrI W9 O d (cnt D) i' a bs (pcs a bs.length 0) W) := hi1
    clear hi1
    gi_wp2
    refine ⟨by simp, .inl ⟨_, _, rfl, run_takeDeferred hK, ?_⟩⟩
    have hI9 : WrI W9 O d (cnt D) i' a bs (pcs a bs.length 0) (W.putObj D9 (.deferred none)) := HI.out.put hD9 hK rfl
    obtain ⟨O2, nv2, sv2, cv2, g1, g2⟩ := hI9.ex
    refine ⟨.int .i64 0, ?_, rfl, O2, nv2, sv2, cv2, g1, HF9.out.trans g2⟩
    simp [results, Try.f50, go_sem]
  case stop =>
    rintro D9 c pre W hD9 _ hf hK
    exact hf.elim
end Go.Proofs.Ytljhhdpeakencaa
end
section
set_option linter.unusedSimpArgs false
set_option linter.unusedVariables false
namespace Go.Proofs.Ytljhhdpeakencaa
open Go.RowKit

/-! The page's Write, that writes nothing. -/
section
variable {w : World} {O : Nat → Nat} {d : Nat} {D : Ds} {gl gs gn cl cs cn : Nat} {lv sv cv : Nat → Value} {left bad : Int} {armed off hurt : Bool}
set_option maxRecDepth 100000 in
set_option maxHeartbeats 2000000 in
theorem pwrite_no (h : PK w O d D gl gs gn cl cs cn lv sv cv left bad armed off hurt) (f at_ : Int) (ad : Option Addr) (bl bc : Nat) (bO : D.tO ≤ 9223372036854775807) (bF : D.tF ≤ 9223372036854775807) (hl : ∀ i, i < 8 → (D.now i).length ≤ 131072) (hbl : bl ≤ 9223372036854775807) (hw : wrE D f at_ bl ≠ 0) :
    Calls Try.prog 51 #[.pointer (some ⟨d, 0, none⟩), .int .i64 f, .int .i64 at_, .slice ad bl bc] w fun e w' => e = .returned (.int .i64 (wrE D f at_ bl)) ∧ ∃ O', PKw w' O' d (cnt D) ∧ Fp O w O' w' := by
  have HF : Hid _ := pcount h f bO bF
  by_cases h0 : cntE D f = 0
  · obtain ⟨ho, i, rfl, hi, hp⟩ := cnt_ok (d := d) h0
    rw [h0] at HF
    have eE : wrE D (i : Int) at_ bl = if at_ < 0 ∨ ((D.now i).length : Int) < at_ then 1 else if 131072 - at_ < (bl : Int) then 5 else 0 := by unfold wrE; rw [if_neg (by rw [h0]; simp), Int.toNat_natCast]
    have hli := hl i hi
    obtain ⟨an, cap, env, hle⟩ := (h.now i hi).1.shape
    have hi8 : (i : Int) < 8 := by omega
    have HC0 : Hid (∀ W a1 a2 a3 a4 a5, PK W O d (cnt D) gl gs gn cl cs cn lv sv cv a1 a2 a3 a4 a5 → W.cell? ⟨d, 0, none⟩ = some (.slice (some ⟨gl, 0, none⟩) 8 cl) ∧ W.cell? ⟨gl, i, none⟩ = some (.slice an (D.now i).length cap) ∧ d < W.heap.size) := fun W a1 a2 a3 a4 a5 hW => ⟨hW.blk.cell 0, by rw [← env]; exact hW.live.cell hi, hW.blk.lt⟩
    rw [eE] at hw ⊢
    clear eE h env hp h0 ho hl bO bF
    generalize (D.now i).length = ln at *
    by_cases hc : at_ < 0 ∨ (ln : Int) < at_
    · rw [if_pos hc]
      by_cases hx : at_ < 0
      all_goals
        go_enter Try.func51, Try.ntmps51
        go_wp2_with (go_at_call 79; refine Calls.mono HF.out ?_; rintro e w8 ⟨rfl, l1, b1, a1, o1, u1, h8, hF8⟩; obtain ⟨c0, c8, l8⟩ := HC0.out _ _ _ _ _ _ h8; have H8 : Hid (PKw w8 O d (cnt D) ∧ Fp O w O w8) := ⟨h8.w, hF8⟩; clear h8 hF8 HF)
        go_ret
        exact ⟨rfl, O, H8.out⟩
    · rw [if_neg hc] at hw ⊢
      by_cases hf : 131072 - at_ < (bl : Int)
      · rw [if_pos hf]
        have hx : ¬ at_ < 0 := by omega
        have hy : ¬ (ln : Int) < at_ := by omega
        have hdif : IntKind.i64.wrap (131072 - at_) = 131072 - at_ := IntWalk.i64_in _ (by omega)
        clear hw
        go_enter Try.func51, Try.ntmps51
        go_wp2_with (go_at_call 79; refine Calls.mono HF.out ?_; rintro e w8 ⟨rfl, l1, b1, a1, o1, u1, h8, hF8⟩; obtain ⟨c0, c8, l8⟩ := HC0.out _ _ _ _ _ _ h8; have H8 : Hid (PKw w8 O d (cnt D) ∧ Fp O w O w8) := ⟨h8.w, hF8⟩; clear h8 hF8 HF)
        go_ret
        exact ⟨rfl, O, H8.out⟩
      · rw [if_neg hf] at hw
        exact absurd rfl hw
  · have e : wrE D f at_ bl = cntE D f := if_pos h0
    rw [e]
    have hne : (cntE D f != 0) = true := by rw [bne_iff_ne]; exact h0
    clear h e h0 hl hw bO bF
    generalize cntE D f = ev at *
    go_enter Try.func51, Try.ntmps51
    go_wp2_with (go_at_call 79; refine Calls.mono HF.out ?_; rintro e w8 ⟨rfl, l1, b1, a1, o1, u1, h8, hF8⟩; have H8 : Hid (PKw w8 O d (cnt D) ∧ Fp O w O w8) := ⟨h8.w, hF8⟩; clear h8 hF8 HF)
    go_ret
    exact ⟨rfl, O, H8.out⟩
end
end Go.Proofs.Ytljhhdpeakencaa
end

import Derived.Test.YtljhhdpeakencaaJ6
import Derived.Test.YtljhhdpeakencaaPkX
set_option linter.unusedSimpArgs false
set_option linter.unusedVariables false
namespace Go.Proofs.Ytljhhdpeakencaa
open Go.RowKit Go.Shelf
attribute [local go_sem] Oper.semAt_some

/-! Write, where it writes; of no bytes, wherever they lie. -/
set_option maxRecDepth 100000 in
set_option maxHeartbeats 4000000 in
theorem write_okS (w : World) (O : Nat → Nat) (d i a : Nat) (D : Ds) (nv sv cv : Nat → Value) (ad : Option Addr) (bs : List UInt8) (bc : Nat) (h : DK w O d D nv sv cv) (hi : i < 8) (h0 : cntE D (i : Int) = 0) (ha : a ≤ (D.now i).length) (hab : a + bs.length ≤ 131072) (hl : (D.now i).length ≤ 131072) (hm : (D.chs i).length ≤ 1099511496704)
    (hb : Rb w (.slice ad bs.length bc) bs) (hO : bs.length ≠ 0 → ∀ b n, ad = some ⟨b, n, none⟩ → O b = 0) :
    Calls Try.prog 50 #[.pointer (some ⟨d, 0, none⟩), .int .i64 (i : Int), .int .i64 (a : Int), .slice ad bs.length bc] w fun e w' => e = .returned (.int .i64 0) ∧ ∃ O' nv' sv' cv', DK w' O' d (wrL (cnt D) i a bs (pcs a bs.length 0)) nv' sv' cv' ∧ Fp O w O' w' := by
  have HF := findC w O d D nv sv cv i h
  have HD : Hid (DK w O d D nv sv cv) := h
  obtain ⟨ho, i', e1, hi', hp⟩ := cnt_ok (d := d) h0
  obtain rfl : i' = i := by omega
  rw [hp, h0] at HF
  have HF : Hid _ := HF
  obtain ⟨an, cap, env, hle⟩ := (h.now i' hi).shape
  have HC0 : Hid (∀ W, Turn w W d (dkc nv sv cv (cnt D).off (cnt D).tO (cnt D).tF) 98 → W.cell? ⟨d, i' * 3, none⟩ = some (.slice an (D.now i').length cap) ∧ d < W.heap.size) := fun W hW => ⟨by rw [← env]; exact (hW.blk.cell _).trans (dkc_now _ _ _ _ _ _ hi), hW.blk.lt⟩
  have HB : Hid (Rb w (.slice ad bs.length bc) bs ∧ (bs.length ≠ 0 → ∀ b n, ad = some ⟨b, n, none⟩ → O b = 0)) := ⟨hb, hO⟩
  have Hlen : Hid ((D.now i').length ≤ 131072 ∧ (D.chs i').length ≤ 1099511496704 ∧ bs.length ≤ bc) := ⟨hl, hm, by obtain ⟨a1, c1, e2, h2, _⟩ := hb; simp at e2; omega⟩
  clear env hp h0 ho hb hO e1 hm h
  obtain ⟨ln, hln⟩ : ∃ ln, ln = (D.now i').length := ⟨_, rfl⟩
  rw [← hln] at HC0 ha hle hl
  have Hln : Hid (ln = (D.now i').length) := hln
  clear hln
  have hx : ¬ (a : Int) < 0 := by omega
  have hy : ¬ (ln : Int) < (a : Int) := by omega
  have hdif : IntKind.i64.wrap (131072 - (a : Int)) = 131072 - (a : Int) := IntWalk.i64_in _ (by omega)
  have hz : ¬ 131072 - (a : Int) < (bs.length : Int) := by omega
  refine (callsIn_wide (n := 6)).1 ?_
  refine callsIn_of_wp_marks Try.func50 rfl trivial ?_ rfl
  simp only [Try.ntmps50, List.size_toArray, List.length_cons, List.length_nil, Nat.reduceAdd, Nat.reduceSub, Array.replicate_succ, Array.replicate_zero, List.push_toArray, List.append_toArray, List.nil_append, List.cons_append]
  gi_wp2_with (refine ⟨trivial, ?_⟩; first | (gi_at_call 77; refine (callsIn_wide.2 (Hid.out HF)).mono ?_; rintro e w8 ⟨rfl, ht8⟩; obtain ⟨c8, l8⟩ := HC0.out _ ht8; have n8 : d ≠ w8.heap.size := (by omega); have H8 : Hid (Turn w w8 d (dkc nv sv cv (cnt D).off (cnt D).tO (cnt D).tF) 98) := ht8; clear ht8) | (gi_at_call 84; refine (callsIn_wide.2 (pieces_any _ _ rfl _)).mono ?_; rintro e w9 ⟨rfl, hw9⟩))
  obtain ⟨W9, hW9⟩ : ∃ W9, W9 = ((w8.alloc (.cells #[.pointer (some ⟨d, i' * 3, none⟩)] 103)).alloc (.cells #[.int .i64 (a : Int)] 3)).alloc (.cells #[.slice ad bs.length bc] 37) := ⟨_, rfl⟩
  rw [← hW9]
  have hbW : Below w8.heap.size w8 W9 := by rw [hW9]; exact (((Below.refl _ w8).alloc (Nat.le_refl _) _).alloc (by simp) _).alloc (by simp; omega) _
  have bX : Bk W9 w8.heap.size #[.pointer (some ⟨d, i' * 3, none⟩)] 103 := by rw [hW9]; exact ((Bk.new _ _ _).alloc _).alloc _
  have bA : Bk W9 (w8.heap.size + 1) #[.int .i64 (a : Int)] 3 := by rw [hW9]; exact (Bk.new' _ _ _ (by simp)).alloc _
  have bB : Bk W9 (w8.heap.size + 1 + 1) #[.slice ad bs.length bc] 37 := by rw [hW9]; exact Bk.new' _ _ _ (by simp)
  have hz9 : W9.heap.size = w8.heap.size + 3 := by rw [hW9]; simp
  clear hW9
  obtain ⟨hD8, hF8⟩ := HD.out.counted H8.out
  have hlt8 := hD8.lt
  have hD9 := hD8.below hbW
  have hF9 : Fp O w O W9 := hF8.trans (Fp.of_below O hbW)
  have HF9 : Hid (Fp O w O W9) := hF9
  have o0 : ∀ b, w8.heap.size ≤ b → O b = 0 := fun b hb => by
    by_cases e : O b = 0
    · exact e
    · have := hlt8 b e; omega
  have hRb9 : Rb W9 (.slice ad bs.length bc) bs := rb_fp9 HB.out.1 hF9 HB.out.2
  have HX : Hid (O w8.heap.size = 0 ∧ w8.heap.size < W9.heap.size ∧ W9.cell? ⟨w8.heap.size, 0, none⟩ = some (.pointer (some ⟨d, i' * 3, none⟩)) ∧ Rb W9 (.slice ad bs.length bc) bs) := ⟨o0 _ (Nat.le_refl _), by omega, bX.cell 0, hRb9⟩
  have h0 : WrI W9 O d (cnt D) i' a bs [] W9 := ⟨⟨O, nv, sv, cv, hD9, Fp.refl O W9⟩, fun x hx => by cases hx⟩
  have c1 : W9.cell? ⟨w8.heap.size + 1 + 1, 0, none⟩ = some (.slice ad bs.length bc) := bB.cell 0
  have c2 : W9.cell? ⟨w8.heap.size + 1, 0, none⟩ = some (.int .i64 (a : Int)) := bA.cell 0
  have hseq := pieces_seq 5 a bs.length bc (w8.heap.size + 1 + 1) (w8.heap.size + 1) W9.heap.size O ad (by omega) (by omega) Hlen.out.2.2 W9 c1 c2 (by omega) (by omega) (o0 _ (by omega)) (o0 _ (by omega))
  clear bX bA bB hbW hD8 hF8 hlt8 hD9 hF9 c8 o0 hRb9 c1 c2
  refine wpIn_rangeP rfl (by omega) (gf := 95) (lb := #[.pointer (some ⟨w8.heap.size + 1 + 1, 0, none⟩), .pointer (some ⟨w8.heap.size + 1, 0, none⟩)]) rfl trivial (enters_of Try.func95 rfl rfl) hseq KpT.trans (fun W l o o' _ h hc => kpt_put W l o o' h hc) (Below.refl _ _) (fun _ => rfl)
    (fun pre W => WrI W9 O d (cnt D) i' a bs pre W) (fun c pre W => False) (fun s A B h hb => h.below hb) (fun c s A B h hb => h) (fun s A l o o' hl h hc hi => hi.put hl h hc) (fun c s A l o o' hl h hc hi => hi) h0
    (fun pre x a' W => a' = { tmps := #[.pointer (some ⟨d, 0, none⟩), .int .i64 (i' : Int), .int .i64 (a : Int), .slice ad bs.length bc, undef, undef, undef, undef, .int .i64 0, .pointer (some ⟨w8.heap.size, 0, none⟩), .int .i64 0, .int .i64 ((a : Int) + (x.1 : Int)), .slice (Option.map (fun y => y.add x.1) ad) x.2 (bc - x.1), .tuple #[.pointer (some ⟨d, i' * 3, none⟩), .int .i64 0], .pointer (some ⟨d, 0, none⟩), .int .i64 (i' : Int), .tuple #[.pointer (some ⟨d, i' * 3, none⟩), .int .i64 0], .pointer (some ⟨d, i' * 3, none⟩), .int .i64 0, .int .i64 0, .bool false, undef, .int .i64 (a : Int), .bool (decide ((a : Int) < 0)), .bool (decide ((a : Int) < 0)), .int .i64 (a : Int), .pointer (some ⟨d, i' * 3, none⟩), .pointer (some ⟨d, i' * 3, none⟩), .pointer (some ⟨d, i' * 3, none⟩), .slice an ln cap, .int .i64 (ln : Int), .bool false, .bool (decide ((a : Int) < 0)), .slice ad bs.length bc, .int .i64 (bs.length : Int), .int .i64 (a : Int), .int .i64 (131072 - (a : Int)), .bool (decide (131072 - (a : Int) < (bs.length : Int))), .int .i64 (a : Int), .slice ad bs.length bc, .func (.func 95) #[] #[.pointer (some ⟨w8.heap.size + 1 + 1, 0, none⟩), .pointer (some ⟨w8.heap.size + 1, 0, none⟩)], .int .i64 ((a : Int) + (x.1 : Int)), .slice (Option.map (fun y => y.add x.1) ad) x.2 (bc - x.1), undef, undef, undef, undef, undef, undef], defers := [] } ∧ (0 < x.2 ∧ x.1 + x.2 ≤ bs.length ∧ pre.length ≤ x.1))
    (fun pre x a' A l o o' _ h hc hx => hx) ?assign ?body ?done ?stop
  case assign =>
    intro l pre x A0 W K hi0 hbA hgd hi hK
    simp only [pcenc]
    gi_wp2
    exact hK _ _ (KeepsFrom.refl _ _) (fun p v _ _ h => h) hi ⟨rfl, hgd⟩
  case body =>
    rintro l pre x a' W hi1 ⟨rfl, hx1, hx2, hx3⟩
    have HI : Hid (WrI W9 O d (cnt D) i' a bs pre W) := hi1
    have HZ : Hid (W9.heap.size ≤ W.heap.size) := by
      obtain ⟨O2, _, _, _, _, g2⟩ := hi1.ex
      exact g2.size
    have xc : W.cell? ⟨w8.heap.size, 0, none⟩ = some (.pointer (some ⟨d, i' * 3, none⟩)) := by
      obtain ⟨O2, _, _, _, _, g2⟩ := hi1.ex
      exact g2.cell HX.out.2.2.1 HX.out.1
    have hRb : Rb W (.slice ad bs.length bc) bs := by
      obtain ⟨O2, _, _, _, _, g2⟩ := hi1.ex
      exact rb_fp9 HX.out.2.2.2 g2 HB.out.2
    have hlen : ((bs.drop x.1).take x.2).length ≤ 1099511627776 := by simp; omega
    have HCl : Hid (∀ W', Below W.heap.size W W' → Calls Try.prog 74 #[.slice (Option.map (fun y => y.add x.1) ad) x.2 (bc - x.1)] W' fun e w' => ∃ v', e = .returned v' ∧ Ow w' W.heap.size v' ((bs.drop x.1).take x.2) ∧ Below W.heap.size W w') := fun W' hW' => by
      refine (clone W' _ _ ((hRb.mid hx2).below hW') hlen).mono ?_
      rintro e w' ⟨v', rfl, h1, h2⟩
      refine ⟨v', rfl, ⟨h1.1, ?_⟩, hW'.trans (h2.mono hW'.size)⟩
      rcases h1.2 with h3 | ⟨g, cap, cur, e, h3, h4, h5⟩
      · exact .inl h3
      · exact .inr ⟨g, cap, cur, e, Nat.le_trans hW'.size h3, h4, h5⟩
    have HDo : Hid (∀ B v, Below W.heap.size W B → Ow B W.heap.size v ((bs.drop x.1).take x.2) → Calls Try.prog 78 #[.pointer (some ⟨d, i' * 3, none⟩), .agg #[.bool false, .int .i64 ((a : Int) + (x.1 : Int)), v]] B fun e W' => (∃ v, e = .returned v) ∧ WrI W9 O d (cnt D) i' a bs (pre ++ [x]) W' ∧ ∃ OA OB, (∀ b, b < W.heap.size → O b = 0 → b < W9.heap.size → OA b = 0) ∧ Fp OA W OB W') := fun B v hB hv => by
      have e : ((a : Int) + (x.1 : Int)) = ((a + x.1 : Nat) : Int) := by omega
      rw [e]
      exact wr_step hi hi1 hB hv ⟨hx1, hx2⟩ hab Hlen.out.1 (by rw [wr_chs]; have := Hlen.out.2.1; show (D.chs i').length + _ ≤ _; omega)
    clear hRb hlen hi1 hseq h0 hx1 hx2 hx3
    gi_wp2
    refine wpIn_region_any (by kernel_rfl) ?_
    (try (change wpAnyIn _ _ _ _ _ _ _ _ _ (World.drew _)))
    refine anyIn_round l (noDefer_spec (by kernel_rfl)) _ _ _ _ ?_
    refine wpAnyIn_take (i := 1) (oi := ⟨some 44, _, _, _, _, _⟩) (v := ?_) rfl rfl (by kernel_rfl) (by kernel_rfl) (by kernel_rfl) (fun _ _ _ h => h) ⟨Or.inl ⟨by rfl, ?_⟩, fun _ => rfl⟩ ?_
    rotate_left
    · (intro w; go_simp; try (with_reducible rfl))
    (try dsimp only); (try simp only [Act.put, List.setIfInBounds_toArray, List.set_cons_zero, List.set_cons_succ])
    refine wpAnyIn_take (i := 2) (oi := ⟨some 45, _, _, _, _, _⟩) (v := ?_) rfl rfl (by kernel_rfl) (by kernel_rfl) (by kernel_rfl) (fun _ _ _ h => h) ⟨Or.inl ⟨by rfl, ?_⟩, fun _ => rfl⟩ ?_
    rotate_left
    · (intro w; go_simp; try (with_reducible rfl))
    (try dsimp only); (try simp only [Act.put, List.setIfInBounds_toArray, List.set_cons_zero, List.set_cons_succ])
    refine wpAnyIn_ready (rs := [0, 3]) (by kernel_rfl) (by simp) ?_
    refine AllReadyIn.cons (o := ⟨some 43, _, _, _, _, _⟩) rfl (fun K hK => ?_) (AllReadyIn.cons (o := ⟨some 46, _, _, _, _, _⟩) rfl (fun K hK => ?_) AllReadyIn.nil)
    · go_simp
      refine hK _ _ ?_
      clear hK K
      (try dsimp only); (try simp only [Act.put, List.setIfInBounds_toArray, List.set_cons_zero, List.set_cons_succ])
      refine wpAnyIn_ready (rs := [3]) (by kernel_rfl) (by simp) ?_
      refine AllReadyIn.cons (o := ⟨some 46, _, _, _, _, _⟩) rfl (fun K hK => ?_) AllReadyIn.nil
      go_simp
      (try refine ⟨trivial, ?_⟩)
      refine (CallsIn.inRound l (callsIn_wide.2 (HCl.out _ (by first | exact Below.refl _ _ | exact (Below.refl _ _).drew)))).mono ?_
      rintro e w5 ⟨v5, rfl, ho5, hb5⟩
      obtain ⟨ad5, n5, cap5, rfl⟩ := ownsRow_sl ho5
      have x5 := (hb5.cell (cell_lt9 xc)).trans xc
      refine hK _ _ ?_
      clear hK K
      (try dsimp only); (try simp only [Act.put, List.setIfInBounds_toArray, List.set_cons_zero, List.set_cons_succ])
      refine wpAnyIn_take (i := 4) (oi := ⟨some 47, _, _, _, _, _⟩) (v := ?_) rfl rfl (by kernel_rfl) (by kernel_rfl) (by kernel_rfl) (fun _ _ _ h => h) ⟨Or.inl ⟨by rfl, ?_⟩, fun _ => rfl⟩ ?_
      rotate_left
      · (intro w; go_simp; try (with_reducible rfl))
      (try dsimp only); (try simp only [Act.put, List.setIfInBounds_toArray, List.set_cons_zero, List.set_cons_succ])
      refine wpAnyIn_ready (rs := [5]) (by kernel_rfl) (by simp) ?_
      refine AllReadyIn.cons (o := ⟨some 48, _, _, _, _, _⟩) rfl (fun K hK => ?_) AllReadyIn.nil
      go_simp
      (try refine ⟨trivial, ?_⟩)
      refine (CallsIn.inRound l (callsIn_wide.2 (HDo.out _ _ hb5 ho5))).mono ?_
      rintro e w6 ⟨⟨v6, rfl⟩, hI6, OA, OB, hOA, hfp⟩
      refine hK _ _ ?_
      clear hK K
      (try dsimp only); (try simp only [Act.put, List.setIfInBounds_toArray, List.set_cons_zero, List.set_cons_succ])
      refine wpAnyIn_done (by kernel_rfl) ?_ _
      exact ⟨hfp.keepsFrom _, KpT.of_fp hfp (fun b h1 h2 => hOA b (Nat.lt_of_lt_of_le h1 HZ.out) h2 h1), hI6⟩
    · go_simp
      (try refine ⟨trivial, ?_⟩)
      refine (CallsIn.inRound l (callsIn_wide.2 (HCl.out _ (by first | exact Below.refl _ _ | exact (Below.refl _ _).drew)))).mono ?_
      rintro e w5 ⟨v5, rfl, ho5, hb5⟩
      obtain ⟨ad5, n5, cap5, rfl⟩ := ownsRow_sl ho5
      have x5 := (hb5.cell (cell_lt9 xc)).trans xc
      refine hK _ _ ?_
      clear hK K
      (try dsimp only); (try simp only [Act.put, List.setIfInBounds_toArray, List.set_cons_zero, List.set_cons_succ])
      refine wpAnyIn_take (i := 4) (oi := ⟨some 47, _, _, _, _, _⟩) (v := ?_) rfl rfl (by kernel_rfl) (by kernel_rfl) (by kernel_rfl) (fun _ _ _ h => h) ⟨Or.inl ⟨by rfl, ?_⟩, fun _ => rfl⟩ ?_
      rotate_left
      · (intro w; go_simp; try (with_reducible rfl))
      (try dsimp only); (try simp only [Act.put, List.setIfInBounds_toArray, List.set_cons_zero, List.set_cons_succ])
      refine wpAnyIn_ready (rs := [0]) (by kernel_rfl) (by simp) ?_
      refine AllReadyIn.cons (o := ⟨some 43, _, _, _, _, _⟩) rfl (fun K hK => ?_) AllReadyIn.nil
      go_simp
      refine hK _ _ ?_
      clear hK K
      (try dsimp only); (try simp only [Act.put, List.setIfInBounds_toArray, List.set_cons_zero, List.set_cons_succ])
      refine wpAnyIn_ready (rs := [5]) (by kernel_rfl) (by simp) ?_
      refine AllReadyIn.cons (o := ⟨some 48, _, _, _, _, _⟩) rfl (fun K hK => ?_) AllReadyIn.nil
      go_simp
      (try refine ⟨trivial, ?_⟩)
      refine (CallsIn.inRound l (callsIn_wide.2 (HDo.out _ _ hb5 ho5))).mono ?_
      rintro e w6 ⟨⟨v6, rfl⟩, hI6, OA, OB, hOA, hfp⟩
      refine hK _ _ ?_
      clear hK K
      (try dsimp only); (try simp only [Act.put, List.setIfInBounds_toArray, List.set_cons_zero, List.set_cons_succ])
      refine wpAnyIn_done (by kernel_rfl) ?_ _
      exact ⟨hfp.keepsFrom _, KpT.of_fp hfp (fun b h1 h2 => hOA b (Nat.lt_of_lt_of_le h1 HZ.out) h2 h1), hI6⟩
  case done =>
    rintro D9 xs W hD9 rfl hi1 hK
    have HI : Hid (WrI W9 O d (cnt D) i' a bs (pcs a bs.length 0) W) := hi1
    clear hi1
    gi_wp2
    refine ⟨by simp, .inl ⟨_, _, rfl, run_takeDeferred hK, ?_⟩⟩
    have hI9 : WrI W9 O d (cnt D) i' a bs (pcs a bs.length 0) (W.putObj D9 (.deferred none)) := HI.out.put hD9 hK rfl
    obtain ⟨O2, nv2, sv2, cv2, g1, g2⟩ := hI9.ex
    refine ⟨.int .i64 0, ?_, rfl, O2, nv2, sv2, cv2, g1, HF9.out.trans g2⟩
    simp [results, Try.f50, go_sem]
  case stop =>
    rintro D9 c pre W hD9 _ hf hK
    exact hf.elim
end Go.Proofs.Ytljhhdpeakencaa

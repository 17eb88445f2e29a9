/- Texts joined: DkG DkS DkT DkP Inv9 Kpt9. -/
import Derived.Test.YtjbhegakgdcldaaJ2
import Derived.Test.YtjbhegakgdcldaaJ1
section
set_option linter.unusedSimpArgs false
set_option linter.unusedVariables false
namespace Go.Proofs.Ytjbhegakgdcldaa
open Go.RowKit Go.Shelf
attribute [local go_sem] Oper.semAt_some

/-! Write, where it writes. -/
theorem pieces_any (a : Int) (v : Value) (hv : v.oneCell' = true) (w : World) : Calls Try.prog 98 #[.int .i64 a, v] w fun e w' => e = .returned (.func (.func 99) #[] #[.pointer (some ⟨w.heap.size + 1, 0, none⟩), .pointer (some ⟨w.heap.size, 0, none⟩)]) ∧ w' = (w.alloc (.cells #[.int .i64 a] 3)).alloc (.cells #[v] 58) := by
  have hc : v.cells = #[v] := by
    cases v <;> first | rfl | (simp [Value.oneCell'] at hv)
  go_enter Try.func98, Try.ntmps98
  go_wp2
  go_ret
  exact ⟨by simp, by simp [hc]⟩
theorem wr_facts {D : Ds} {i a : Nat} {bl : Nat} (h : wrE D (i : Int) (a : Int) bl = 0) : cntE D (i : Int) = 0 ∧ a ≤ (D.now i).length ∧ a + bl ≤ 131072 ∨ 131072 < a := by
  unfold wrE at h
  by_cases h0 : cntE D (i : Int) = 0
  · rw [if_neg (by rw [h0]; simp), Int.toNat_natCast] at h
    by_cases h1 : (a : Int) < 0 ∨ ((D.now i).length : Int) < a
    · rw [if_pos h1] at h; omega
    · rw [if_neg h1] at h
      by_cases h2 : 131072 - (a : Int) < (bl : Int)
      · rw [if_pos h2] at h; omega
      · omega
  · rw [if_pos h0] at h; exact absurd h h0
set_option maxRecDepth 100000 in
set_option maxHeartbeats 4000000 in
theorem write_ok (w : World) (O : Nat → Nat) (d i a : Nat) (D : Ds) (nv sv cv : Nat → Value) (ad : Option Addr) (bs : List UInt8) (bc : Nat) (h : DK w O d D nv sv cv) (hi : i < 8) (h0 : cntE D (i : Int) = 0) (ha : a ≤ (D.now i).length) (hab : a + bs.length ≤ 131072) (hl : (D.now i).length ≤ 131072) (hm : (D.chs i).length ≤ 1099511496704)
    (hb : Rb w (.slice ad bs.length bc) bs) (hO : ∀ b n, ad = some ⟨b, n, none⟩ → O b = 0) :
    Calls Try.prog 93 #[.pointer (some ⟨d, 0, none⟩), .int .i64 (i : Int), .int .i64 (a : Int), .slice ad bs.length bc] w fun e w' => e = .returned (.int .i64 0) ∧ ∃ O' nv' sv' cv', DK w' O' d (wrL (cnt D) i a bs (pcs a bs.length 0)) nv' sv' cv' ∧ Fp O w O' w' := by
  have HF := findC w O d D nv sv cv i h
  have HD : Hid (DK w O d D nv sv cv) := h
  obtain ⟨ho, i', e1, hi', hp⟩ := cnt_ok (d := d) h0
  obtain rfl : i' = i := by omega
  rw [hp, h0] at HF
  have HF : Hid _ := HF
  obtain ⟨an, cap, env, hle⟩ := (h.now i' hi).shape
  have HC0 : Hid (∀ W, Turn w W d (dkc nv sv cv (cnt D).off (cnt D).tO (cnt D).tF) 107 → W.cell? ⟨d, i' * 3, none⟩ = some (.slice an (D.now i').length cap) ∧ d < W.heap.size) := fun W hW => ⟨by rw [← env]; exact (hW.blk.cell _).trans (dkc_now _ _ _ _ _ _ hi), hW.blk.lt⟩
  have HB : Hid (Rb w (.slice ad bs.length bc) bs ∧ ∀ b n, ad = some ⟨b, n, none⟩ → O b = 0) := ⟨hb, hO⟩
  have Hlen : Hid ((D.now i').length ≤ 131072 ∧ (D.chs i').length ≤ 1099511496704 ∧ bs.length ≤ bc) := ⟨hl, hm, by obtain ⟨a1, c1, e2, h2, _⟩ := hb; simp at e2; omega⟩
  clear env hp h0 ho hb hO e1 hm h
  obtain ⟨ln, hln⟩ : ∃ ln, ln = (D.now i').length := ⟨_, rfl⟩
  rw [← hln] at HC0 ha hle hl
  have Hln : Hid (ln = (D.now i').length) := hln
  clear hln
  have hx : ¬ (a : Int) < 0 := by omega
  have hy : ¬ (ln : Int) < (a : Int) := by omega
  have hdif : IntKind.i64.wrap (131072 - (a : Int)) = 131072 - (a : Int) := IntWalk.i64_in _ (by omega)
  have hz : ¬ 131072 - (a : Int) < (bs.length : Int) := by omega
  refine (callsIn_wide (n := 6)).1 ?_
  refine callsIn_of_wp_marks Try.func93 rfl trivial ?_ rfl
  simp only [Try.ntmps93, List.size_toArray, List.length_cons, List.length_nil, Nat.reduceAdd, Nat.reduceSub, Array.replicate_succ, Array.replicate_zero, List.push_toArray, List.append_toArray, List.nil_append, List.cons_append]
  gi_wp2_with (refine ⟨trivial, ?_⟩; first | (gi_at_call 91; refine (callsIn_wide.2 (Hid.out HF)).mono ?_; rintro e w8 ⟨rfl, ht8⟩; obtain ⟨c8, l8⟩ := HC0.out _ ht8; have n8 : d ≠ w8.heap.size := (by omega); have H8 : Hid (Turn w w8 d (dkc nv sv cv (cnt D).off (cnt D).tO (cnt D).tF) 107) := ht8; clear ht8) | (gi_at_call 98; refine (callsIn_wide.2 (pieces_any _ _ rfl _)).mono ?_; rintro e w9 ⟨rfl, hw9⟩))
  obtain ⟨W9, hW9⟩ : ∃ W9, W9 = ((w8.alloc (.cells #[.pointer (some ⟨d, i' * 3, none⟩)] 96)).alloc (.cells #[.int .i64 (a : Int)] 3)).alloc (.cells #[.slice ad bs.length bc] 58) := ⟨_, rfl⟩
  rw [← hW9]
  have hbW : Below w8.heap.size w8 W9 := by rw [hW9]; exact (((Below.refl _ w8).alloc (Nat.le_refl _) _).alloc (by simp) _).alloc (by simp; omega) _
  have bX : Bk W9 w8.heap.size #[.pointer (some ⟨d, i' * 3, none⟩)] 96 := by rw [hW9]; exact ((Bk.new _ _ _).alloc _).alloc _
  have bA : Bk W9 (w8.heap.size + 1) #[.int .i64 (a : Int)] 3 := by rw [hW9]; exact (Bk.new' _ _ _ (by simp)).alloc _
  have bB : Bk W9 (w8.heap.size + 1 + 1) #[.slice ad bs.length bc] 58 := by rw [hW9]; exact Bk.new' _ _ _ (by simp)
  have hz9 : W9.heap.size = w8.heap.size + 3 := by rw [hW9]; simp
  clear hW9
  obtain ⟨hD8, hF8⟩ := HD.out.counted H8.out
  have hlt8 := hD8.lt
  have hD9 := hD8.below hbW
  have hF9 : Fp O w O W9 := hF8.trans (Fp.of_below O hbW)
  have HF9 : Hid (Fp O w O W9) := hF9
  have o0 : ∀ b, w8.heap.size ≤ b → O b = 0 := fun b hb => by
    by_cases e : O b = 0
    · exact e
    · have := hlt8 b e; omega
  have hRb9 : Rb W9 (.slice ad bs.length bc) bs := HB.out.1.fp hF9 (fun b n c e => HB.out.2 b n (by simp at e; exact e.1))
  have HX : Hid (O w8.heap.size = 0 ∧ w8.heap.size < W9.heap.size ∧ W9.cell? ⟨w8.heap.size, 0, none⟩ = some (.pointer (some ⟨d, i' * 3, none⟩)) ∧ Rb W9 (.slice ad bs.length bc) bs) := ⟨o0 _ (Nat.le_refl _), by omega, bX.cell 0, hRb9⟩
  have h0 : WrI W9 O d (cnt D) i' a bs [] W9 := ⟨⟨O, nv, sv, cv, hD9, Fp.refl O W9⟩, fun x hx => by cases hx⟩
  have c1 : W9.cell? ⟨w8.heap.size + 1 + 1, 0, none⟩ = some (.slice ad bs.length bc) := bB.cell 0
  have c2 : W9.cell? ⟨w8.heap.size + 1, 0, none⟩ = some (.int .i64 (a : Int)) := bA.cell 0
  have hseq := pieces_seq 5 a bs.length bc (w8.heap.size + 1 + 1) (w8.heap.size + 1) W9.heap.size O ad (by omega) (by omega) Hlen.out.2.2 W9 c1 c2 (by omega) (by omega) (o0 _ (by omega)) (o0 _ (by omega))
  clear bX bA bB hbW hD8 hF8 hlt8 hD9 hF9 c8 o0 hRb9 c1 c2
  refine wpIn_rangeP rfl (by omega) (gf := 99) (lb := #[.pointer (some ⟨w8.heap.size + 1 + 1, 0, none⟩), .pointer (some ⟨w8.heap.size + 1, 0, none⟩)]) rfl trivial (enters_of Try.func99 rfl rfl) hseq KpT.trans (fun W l o o' _ h hc => kpt_put W l o o' h hc) (Below.refl _ _) (fun _ => rfl)
    (fun pre W => WrI W9 O d (cnt D) i' a bs pre W) (fun c pre W => False) (fun s A B h hb => h.below hb) (fun c s A B h hb => h) (fun s A l o o' hl h hc hi => hi.put hl h hc) (fun c s A l o o' hl h hc hi => hi) h0
    (fun pre x a' W => a' = { tmps := #[.pointer (some ⟨d, 0, none⟩), .int .i64 (i' : Int), .int .i64 (a : Int), .slice ad bs.length bc, undef, undef, undef, undef, .int .i64 0, .pointer (some ⟨w8.heap.size, 0, none⟩), .int .i64 0, .int .i64 ((a : Int) + (x.1 : Int)), .slice (Option.map (fun y => y.add x.1) ad) x.2 (bc - x.1), .tuple #[.pointer (some ⟨d, i' * 3, none⟩), .int .i64 0], .pointer (some ⟨d, 0, none⟩), .int .i64 (i' : Int), .tuple #[.pointer (some ⟨d, i' * 3, none⟩), .int .i64 0], .pointer (some ⟨d, i' * 3, none⟩), .int .i64 0, .int .i64 0, .bool false, undef, .int .i64 (a : Int), .bool (decide ((a : Int) < 0)), .bool (decide ((a : Int) < 0)), .int .i64 (a : Int), .pointer (some ⟨d, i' * 3, none⟩), .pointer (some ⟨d, i' * 3, none⟩), .pointer (some ⟨d, i' * 3, none⟩), .slice an ln cap, .int .i64 (ln : Int), .bool false, .bool (decide ((a : Int) < 0)), .slice ad bs.length bc, .int .i64 (bs.length : Int), .int .i64 (a : Int), .int .i64 (131072 - (a : Int)), .bool (decide (131072 - (a : Int) < (bs.length : Int))), .int .i64 (a : Int), .slice ad bs.length bc, .func (.func 99) #[] #[.pointer (some ⟨w8.heap.size + 1 + 1, 0, none⟩), .pointer (some ⟨w8.heap.size + 1, 0, none⟩)], .int .i64 ((a : Int) + (x.1 : Int)), .slice (Option.map (fun y => y.add x.1) ad) x.2 (bc - x.1), undef, undef, undef, undef, undef, undef], defers := [] } ∧ (0 < x.2 ∧ x.1 + x.2 ≤ bs.length ∧ pre.length ≤ x.1))
    (fun pre x a' A l o o' _ h hc hx => hx) ?assign ?body ?done ?stop
  case assign =>
    intro l pre x A0 W K hi0 hbA hgd hi hK
    simp only [pcenc]
    gi_wp2
    exact hK _ _ (KeepsFrom.refl _ _) (fun p v _ _ h => h) hi ⟨rfl, hgd⟩
  case body =>
    rintro l pre x a' W hi1 ⟨rfl, hx1, hx2, hx3⟩
    have HI : Hid (WrI W9 O d (cnt D) i' a bs pre W) := hi1
    have HZ : Hid (W9.heap.size ≤ W.heap.size) := by
      obtain ⟨O2, _, _, _, _, g2⟩ := hi1.ex
      exact g2.size
    have xc : W.cell? ⟨w8.heap.size, 0, none⟩ = some (.pointer (some ⟨d, i' * 3, none⟩)) := by
      obtain ⟨O2, _, _, _, _, g2⟩ := hi1.ex
      exact g2.cell HX.out.2.2.1 HX.out.1
    have hRb : Rb W (.slice ad bs.length bc) bs := by
      obtain ⟨O2, _, _, _, _, g2⟩ := hi1.ex
      exact HX.out.2.2.2.fp g2 (fun b n c e => HB.out.2 b n (by simp at e; exact e.1))
    have hlen : ((bs.drop x.1).take x.2).length ≤ 1099511627776 := by simp; omega
    have HCl : Hid (∀ W', Below W.heap.size W W' → Calls Try.prog 71 #[.slice (Option.map (fun y => y.add x.1) ad) x.2 (bc - x.1)] W' fun e w' => ∃ v', e = .returned v' ∧ Ow w' W.heap.size v' ((bs.drop x.1).take x.2) ∧ Below W.heap.size W w') := fun W' hW' => by
      refine (clone W' _ _ ((hRb.mid hx2).below hW') hlen).mono ?_
      rintro e w' ⟨v', rfl, h1, h2⟩
      refine ⟨v', rfl, ⟨h1.1, ?_⟩, hW'.trans (h2.mono hW'.size)⟩
      rcases h1.2 with h3 | ⟨g, cap, cur, e, h3, h4, h5⟩
      · exact .inl h3
      · exact .inr ⟨g, cap, cur, e, Nat.le_trans hW'.size h3, h4, h5⟩
    have HDo : Hid (∀ B v, Below W.heap.size W B → Ow B W.heap.size v ((bs.drop x.1).take x.2) → Calls Try.prog 97 #[.pointer (some ⟨d, i' * 3, none⟩), .agg #[.bool false, .int .i64 ((a : Int) + (x.1 : Int)), v]] B fun e W' => (∃ v, e = .returned v) ∧ WrI W9 O d (cnt D) i' a bs (pre ++ [x]) W' ∧ ∃ OA OB, (∀ b, b < W.heap.size → O b = 0 → b < W9.heap.size → OA b = 0) ∧ Fp OA W OB W') := fun B v hB hv => by
      have e : ((a : Int) + (x.1 : Int)) = ((a + x.1 : Nat) : Int) := by omega
      rw [e]
      exact wr_step hi hi1 hB hv ⟨hx1, hx2⟩ hab Hlen.out.1 (by rw [wr_chs]; have := Hlen.out.2.1; show (D.chs i').length + _ ≤ _; omega)
    clear hRb hlen hi1 hseq h0 hx1 hx2 hx3
    gi_wp2
    refine wpIn_region_any (by kernel_rfl) ?_
    (try (change wpAnyIn _ _ _ _ _ _ _ _ _ (World.drew _)))
    refine anyIn_round l (noDefer_spec (by kernel_rfl)) _ _ _ _ ?_
    refine wpAnyIn_take (i := 1) (oi := ⟨some 44, _, _, _, _, _⟩) (v := ?_) rfl rfl (by kernel_rfl) (by kernel_rfl) (by kernel_rfl) (fun _ _ _ h => h) ⟨Or.inl ⟨by rfl, ?_⟩, fun _ => rfl⟩ ?_
    rotate_left
    · (intro w; go_simp; try (with_reducible rfl))
    (try dsimp only); (try simp only [Act.put, List.setIfInBounds_toArray, List.set_cons_zero, List.set_cons_succ])
    refine wpAnyIn_take (i := 2) (oi := ⟨some 45, _, _, _, _, _⟩) (v := ?_) rfl rfl (by kernel_rfl) (by kernel_rfl) (by kernel_rfl) (fun _ _ _ h => h) ⟨Or.inl ⟨by rfl, ?_⟩, fun _ => rfl⟩ ?_
    rotate_left
    · (intro w; go_simp; try (with_reducible rfl))
    (try dsimp only); (try simp only [Act.put, List.setIfInBounds_toArray, List.set_cons_zero, List.set_cons_succ])
    refine wpAnyIn_ready (rs := [0, 3]) (by kernel_rfl) (by simp) ?_
    refine AllReadyIn.cons (o := ⟨some 43, _, _, _, _, _⟩) rfl (fun K hK => ?_) (AllReadyIn.cons (o := ⟨some 46, _, _, _, _, _⟩) rfl (fun K hK => ?_) AllReadyIn.nil)
    · go_simp
      refine hK _ _ ?_
      clear hK K
      (try dsimp only); (try simp only [Act.put, List.setIfInBounds_toArray, List.set_cons_zero, List.set_cons_succ])
      refine wpAnyIn_ready (rs := [3]) (by kernel_rfl) (by simp) ?_
      refine AllReadyIn.cons (o := ⟨some 46, _, _, _, _, _⟩) rfl (fun K hK => ?_) AllReadyIn.nil
      go_simp
      (try refine ⟨trivial, ?_⟩)
      refine (CallsIn.inRound l (callsIn_wide.2 (HCl.out _ (by first | exact Below.refl _ _ | exact (Below.refl _ _).drew)))).mono ?_
      rintro e w5 ⟨v5, rfl, ho5, hb5⟩
      obtain ⟨ad5, n5, cap5, rfl⟩ := ownsRow_sl ho5
      have x5 := (hb5.cell (cell_lt9 xc)).trans xc
      refine hK _ _ ?_
      clear hK K
      (try dsimp only); (try simp only [Act.put, List.setIfInBounds_toArray, List.set_cons_zero, List.set_cons_succ])
      refine wpAnyIn_take (i := 4) (oi := ⟨some 47, _, _, _, _, _⟩) (v := ?_) rfl rfl (by kernel_rfl) (by kernel_rfl) (by kernel_rfl) (fun _ _ _ h => h) ⟨Or.inl ⟨by rfl, ?_⟩, fun _ => rfl⟩ ?_
      rotate_left
      · (intro w; go_simp; try (with_reducible rfl))
      (try dsimp only); (try simp only [Act.put, List.setIfInBounds_toArray, List.set_cons_zero, List.set_cons_succ])
      refine wpAnyIn_ready (rs := [5]) (by kernel_rfl) (by simp) ?_
      refine AllReadyIn.cons (o := ⟨some 48, _, _, _, _, _⟩) rfl (fun K hK => ?_) AllReadyIn.nil
      go_simp
      (try refine ⟨trivial, ?_⟩)
      refine (CallsIn.inRound l (callsIn_wide.2 (HDo.out _ _ hb5 ho5))).mono ?_
      rintro e w6 ⟨⟨v6, rfl⟩, hI6, OA, OB, hOA, hfp⟩
      refine hK _ _ ?_
      clear hK K
      (try dsimp only); (try simp only [Act.put, List.setIfInBounds_toArray, List.set_cons_zero, List.set_cons_succ])
      refine wpAnyIn_done (by kernel_rfl) ?_ _
      exact ⟨hfp.keepsFrom _, KpT.of_fp hfp (fun b h1 h2 => hOA b (Nat.lt_of_lt_of_le h1 HZ.out) h2 h1), hI6⟩
    · go_simp
      (try refine ⟨trivial, ?_⟩)
      refine (CallsIn.inRound l (callsIn_wide.2 (HCl.out _ (by first | exact Below.refl _ _ | exact (Below.refl _ _).drew)))).mono ?_
      rintro e w5 ⟨v5, rfl, ho5, hb5⟩
      obtain ⟨ad5, n5, cap5, rfl⟩ := ownsRow_sl ho5
      have x5 := (hb5.cell (cell_lt9 xc)).trans xc
      refine hK _ _ ?_
      clear hK K
      (try dsimp only); (try simp only [Act.put, List.setIfInBounds_toArray, List.set_cons_zero, List.set_cons_succ])
      refine wpAnyIn_take (i := 4) (oi := ⟨some 47, _, _, _, _, _⟩) (v := ?_) rfl rfl (by kernel_rfl) (by kernel_rfl) (by kernel_rfl) (fun _ _ _ h => h) ⟨Or.inl ⟨by rfl, ?_⟩, fun _ => rfl⟩ ?_
      rotate_left
      · (intro w; go_simp; try (with_reducible rfl))
      (try dsimp only); (try simp only [Act.put, List.setIfInBounds_toArray, List.set_cons_zero, List.set_cons_succ])
      refine wpAnyIn_ready (rs := [0]) (by kernel_rfl) (by simp) ?_
      refine AllReadyIn.cons (o := ⟨some 43, _, _, _, _, _⟩) rfl (fun K hK => ?_) AllReadyIn.nil
      go_simp
      refine hK _ _ ?_
      clear hK K
      (try dsimp only); (try simp only [Act.put, List.setIfInBounds_toArray, List.set_cons_zero, List.set_cons_succ])
      refine wpAnyIn_ready (rs := [5]) (by kernel_rfl) (by simp) ?_
      refine AllReadyIn.cons (o := ⟨some 48, _, _, _, _, _⟩) rfl (fun K hK => ?_) AllReadyIn.nil
      go_simp
      (try refine ⟨trivial, ?_⟩)
      refine (CallsIn.inRound l (callsIn_wide.2 (HDo.out _ _ hb5 ho5))).mono ?_
      rintro e w6 ⟨⟨v6, rfl⟩, hI6, OA, OB, hOA, hfp⟩
      refine hK _ _ ?_
      clear hK K
      (try dsimp only); (try simp only [Act.put, List.setIfInBounds_toArray, List.set_cons_zero, List.set_cons_succ])
      refine wpAnyIn_done (by kernel_rfl) ?_ _
      exact ⟨hfp.keepsFrom _, KpT.of_fp hfp (fun b h1 h2 => hOA b (Nat.lt_of_lt_of_le h1 HZ.out) h2 h1), hI6⟩
  case done =>
    rintro D9 xs W hD9 rfl hi1 hK
    have HI : Hid (WrI W9 O d (cnt D) i' a bs (pcs a bs.length 0) W) := hi1
    clear hi1
    gi_wp2
    refine ⟨by simp, .inl ⟨_, _, rfl, run_takeDeferred hK, ?_⟩⟩
    have hI9 : WrI W9 O d (cnt D) i' a bs (pcs a bs.length 0) (W.putObj D9 (.deferred none)) := HI.out.put hD9 hK rfl
    obtain ⟨O2, nv2, sv2, cv2, g1, g2⟩ := hI9.ex
    refine ⟨.int .i64 0, ?_, rfl, O2, nv2, sv2, cv2, g1, HF9.out.trans g2⟩
    simp [results, Try.f93, go_sem]
  case stop =>
    rintro D9 c pre W hD9 _ hf hK
    exact hf.elim
end Go.Proofs.Ytjbhegakgdcldaa
end
section
set_option linter.unusedSimpArgs false
set_option linter.unusedVariables false
namespace Go.Proofs.Ytjbhegakgdcldaa
open Go.RowKit

/-! Sync's steps: what is safe of a file changed; its changes forgotten. -/
theorem DK.safeStep {w w' : World} {O : Nat → Nat} {d i : Nat} {D : Ds} {nv sv cv : Nat → Value} (h : DK w O d D nv sv cv) (hi : i < 8) {sv' : Value} {r : List UInt8}
    (hos : w'.os = w.os) (htp : w'.tape = w.tape) (hout : w'.output = w.output) (hsz : w.heap.size ≤ w'.heap.size) (hblk : Bk w' d (dkc nv (upd sv i sv') cv D.off D.tO D.tF) 107) (hn : Ow w' 0 sv' r) (sn : Sn w (sv i) sv')
    (hk : ∀ k, k < w.heap.size → k ≠ d → some k ≠ (sv i).ownBlock → w'.heap[k]? = w.heap[k]?) :
    ∃ O', DK w' O' d { D with safe := upd D.safe i r } nv (upd sv i sv') cv ∧ Fp O w O' w' := by
  have ne : ∀ b, b < w.heap.size → O b ≠ 26 → O b ≠ 2 * i + 2 → w'.heap[b]? = w.heap[b]? := fun b hb h1 h2 => hk b hb (fun e => h1 (e ▸ h.td)) (fun e => h2 (h.ts i hi b e.symm))
  obtain ⟨O', hO⟩ : ∃ O' : Nat → Nat, O' = fun b => if b < w.heap.size then (if some b = (sv i).ownBlock ∧ sv'.ownBlock ≠ some b then 0 else O b) else if sv'.ownBlock = some b then 2 * i + 2 else 0 := ⟨_, rfl⟩
  have o0 : ∀ b, b < w.heap.size → ¬ (some b = (sv i).ownBlock ∧ sv'.ownBlock ≠ some b) → O' b = O b := fun b hb hn => by rw [hO]; simp only []; rw [if_pos hb, if_neg hn]
  have o1 : ∀ b, b < w.heap.size → O b ≠ 2 * i + 2 → O' b = O b := fun b hb h1 => o0 b hb (fun h3 => h1 (h.ts i hi b h3.1.symm))
  have o2 : ∀ b, O b ≠ 0 → O b ≠ 2 * i + 2 → O' b = O b := fun b hb => o1 b (h.lt b hb)
  refine ⟨O', ⟨hblk, fun j hj => (h.now j hj).same fun b e => ?_, fun j hj => ?_, fun j hj => ?_, fun j hj b e => ?_, fun j hj b e => ?_, fun j hj b e => ?_, ?_, fun b hb => ?_, h.bO, h.bF⟩, ⟨hos, htp, hout, hsz, fun b hb ho => by rw [o1 b hb (by omega)]; exact ho, fun b hb ho => ne b hb (by omega) (by omega), fun k o h1 h2 => ?_⟩⟩
  · have ht := h.tn j hj b e
    exact ne b (h.lt b (by omega)) (by omega) (by omega)
  · by_cases e : j = i
    · subst e; simp only [upd_same]; exact hn
    · simp only [upd_other _ _ e]
      refine (h.safe j hj).same fun b e' => ?_
      have ht := h.ts j hj b e'
      exact ne b (h.lt b (by omega)) (by omega) (by omega)
  · refine (h.chs j hj).same (fun b e' => ?_) (fun b e hb => ⟨ne b hb (by omega) (by omega), by rw [o1 b hb (by omega)]; exact e⟩)
    have ht := h.tc j hj b e'
    exact ne b (h.lt b (by omega)) (by omega) (by omega)
  · have ht := h.tn j hj b e
    rw [o2 b (by omega) (by omega)]; exact ht
  · by_cases e' : j = i
    · subst e'
      simp only [upd_same] at e
      rcases sn with h1 | h1
      · have ht := h.ts j hj b (h1 ▸ e)
        rw [o0 b (h.lt b (by omega)) (fun h3 => h3.2 e)]
        exact ht
      · rw [hO]; simp only []; rw [if_neg (by have := h1 b e; omega), if_pos e]
    · simp only [upd_other _ _ e'] at e
      have ht := h.ts j hj b e
      rw [o2 b (by omega) (by omega)]; exact ht
  · have ht := h.tc j hj b e
    rw [o2 b (by omega) (by omega)]; exact ht
  · have ht := h.td
    rw [o2 d (by omega) (by omega)]; exact ht
  · rw [hO] at hb
    simp only [] at hb
    by_cases e : b < w.heap.size
    · rw [if_pos e] at hb
      by_cases e1 : sv'.ownBlock = some b
      · obtain ⟨c, e2⟩ := hn.bytes b e1; exact ⟨_, e2, rfl⟩
      · by_cases e3 : some b = (sv i).ownBlock ∧ sv'.ownBlock ≠ some b
        · rw [if_pos e3] at hb; exact absurd rfl hb
        · rw [if_neg e3] at hb
          by_cases e4 : b = d
          · subst e4; exact ⟨_, hblk, rfl⟩
          · rw [hk b e e4 (fun e5 => e3 ⟨e5, e1⟩)]
            exact h.cel b hb
    · rw [if_neg e] at hb
      by_cases e1 : sv'.ownBlock = some b
      · obtain ⟨c, e2⟩ := hn.bytes b e1; exact ⟨_, e2, rfl⟩
      · rw [if_neg e1] at hb; exact absurd rfl hb
  · have hkl : k < w.heap.size := (Array.getElem?_eq_some_iff.1 h1).1
    have nc : ∀ c t, w.heap[k]? ≠ some (.cells c t) := fun c t e => by rw [e] at h1; simp at h1; subst h1; simp [Obj.isCells] at h2
    rw [← h1]
    refine hk k hkl (fun e => ?_) (fun e => ?_)
    · subst e; exact nc _ _ h.blk
    · obtain ⟨c, e2⟩ := (h.safe i hi).bytes k e.symm; exact nc _ _ e2
theorem DK.forget {w : World} {O : Nat → Nat} {d i : Nat} {D : Ds} {nv sv cv : Nat → Value} (h : DK w O d D nv sv cv) (hi : i < 8) :
    DK (w.setCell ⟨d, i * 3 + 2, none⟩ (.slice none 0 0)) O d { D with chs := upd D.chs i [] } nv sv (upd cv i (.slice none 0 0)) ∧ Fp O w O (w.setCell ⟨d, i * 3 + 2, none⟩ (.slice none 0 0)) := by
  have ht := Turn.set h.blk (i * 3 + 2) (.slice none 0 0)
  rw [dkc_setC _ _ _ _ _ _ hi] at ht
  have ne : ∀ b, O b ≠ 26 → (w.setCell ⟨d, i * 3 + 2, none⟩ (.slice none 0 0)).heap[b]? = w.heap[b]? := fun b hb => ht.other b (fun e => hb (e ▸ h.td))
  refine ⟨⟨ht.blk, fun i hi => (h.now i hi).same fun b e => ne b (by rw [h.tn i hi b e]; omega), fun i hi => (h.safe i hi).same fun b e => ne b (by rw [h.ts i hi b e]; omega),
   fun j hj => ?_, h.tn, h.ts, fun j hj b e => ?_, h.td, fun b hb => ?_, h.bO, h.bF⟩, Fp.of_turn ht h.blk (by rw [h.td]; omega)⟩
  · by_cases e : j = i
    · subst e; simp only [upd_same]; exact Cv.nil _ _
    · simp only [upd_other _ _ e]
      exact (h.chs j hj).same (fun b e => ne b (by rw [h.tc j hj b e]; omega)) (fun b e _ => ⟨ne b (by rw [e]; omega), e⟩)
  · by_cases e' : j = i
    · subst e'; simp only [upd_same] at e; simp [Value.ownBlock] at e
    · simp only [upd_other _ _ e'] at e; exact h.tc j hj b e
  · by_cases e : b = d
    · subst e; exact ⟨_, ht.blk, rfl⟩
    · rw [ht.other b e]; exact h.cel b hb
/-- A change that may be. -/
def ChB (c : Ch) : Prop := c.pos + c.bs.length ≤ 131072 ∧ (c.cut = false → 0 < c.bs.length)
def fld (cs : List Ch) (r : List UInt8) : List UInt8 := cs.foldl (fun r c => ovr c r) r
theorem fld_le (cs : List Ch) (r : List UInt8) (hr : r.length ≤ 131072) (hc : ∀ c ∈ cs, ChB c) : (fld cs r).length ≤ 131072 := by
  induction cs generalizing r with
  | nil => exact hr
  | cons c cs ih =>
    refine ih (ovr c r) (Nat.le_trans (ovr_le c r) ?_) (fun x hx => hc x (List.mem_cons_of_mem _ hx))
    have := (hc c List.mem_cons_self).1
    omega
theorem fld_snoc (cs : List Ch) (c : Ch) (r : List UInt8) : fld (cs ++ [c]) r = ovr c (fld cs r) := by simp [fld]
/-- The changes of a file, one by one. -/
theorem Cv.at {w : World} {O : Nat → Nat} {v : Value} {l : List Ch} (h : Cv w O v l) (j : Nat) (hj : j < l.length) : ∃ g cap bv, v = .slice (some ⟨g, 0, none⟩) l.length cap ∧ w.cell? ⟨g, j * 3, none⟩ = some (.bool l[j].cut) ∧ w.cell? ⟨g, j * 3 + 1, none⟩ = some (.int .i64 (l[j].pos : Int)) ∧ w.cell? ⟨g, j * 3 + 2, none⟩ = some bv ∧ Ow w 0 bv l[j].bs ∧ (∀ b, bv.ownBlock = some b → O b = 25) := by
  obtain ⟨ps, h1, h2, h3⟩ := h
  have hl : ps.length = l.length := by rw [← h1, List.length_map]
  rcases h2.2 with ⟨_, hz⟩ | ⟨g, cap, cur, rfl, h5⟩
  · omega
  · have hjp : j < ps.length := by omega
    have e : l[j] = ps[j].1 := by subst h1; simp
    have at_ : ∀ t, t < 3 → (ps.flatMap ccells)[j * 3 + t]? = (ccells ps[j])[t]? := fun t ht => by
      have : ∀ (ps : List (Ch × Value)) (j : Nat) (hj : j < ps.length), (ps.flatMap ccells)[j * 3 + t]? = (ccells ps[j])[t]? := by
        intro ps
        induction ps with
        | nil => intro j hj; simp at hj
        | cons p ps ih =>
          intro j hj
          cases j with
          | zero => rw [List.flatMap_cons, Nat.zero_mul, Nat.zero_add, List.getElem?_append_left (by simp [ccells]; omega)]; rfl
          | succ j =>
            rw [List.flatMap_cons, List.getElem?_append_right (by simp [ccells]; omega)]
            have e : (j + 1) * 3 + t - (ccells p).length = j * 3 + t := by simp [ccells]; omega
            rw [e, ih j (by simpa using hj)]
            simp
      exact this ps j hjp
    refine ⟨g, cap, ps[j].2, by rw [hl], ?_, ?_, ?_, by rw [e]; exact (h3 _ (List.getElem_mem hjp)).1, (h3 _ (List.getElem_mem hjp)).2⟩
    · rw [World.ownsRow.cellAt h2 (j * 3) (by omega)]
      have := at_ 0 (by omega)
      rw [Nat.add_zero] at this
      rw [this, e]; rfl
    · rw [World.ownsRow.cellAt h2 (j * 3 + 1) (by omega), at_ 1 (by omega), e]; rfl
    · rw [World.ownsRow.cellAt h2 (j * 3 + 2) (by omega), at_ 2 (by omega)]; rfl
end Go.Proofs.Ytjbhegakgdcldaa
end
section
set_option linter.unusedSimpArgs false
set_option linter.unusedVariables false
namespace Go.Proofs.Ytjbhegakgdcldaa
open Go.RowKit

/-! Sync. -/
def syJ (D : Ds) (i j : Nat) : Ds := { D with safe := upd D.safe i (fld ((D.chs i).take j) (D.safe i)) }
def syD (D : Ds) (f : Int) : Ds := if cntE D f = 0 then { cnt D with safe := upd D.safe f.toNat (fld (D.chs f.toNat) (D.safe f.toNat)), chs := upd D.chs f.toNat [] } else cnt D
/-- So many changes were done. -/
structure SyI (w : World) (O : Nat → Nat) (d : Nat) (D : Ds) (nv cv : Nat → Value) (i j : Nat) (W : World) : Prop where
  ex : ∃ O' sv, DK W O' d (syJ D i j) nv sv cv ∧ Fp O w O' W
theorem SyI.below {w : World} {O : Nat → Nat} {d : Nat} {D : Ds} {nv cv : Nat → Value} {i j : Nat} {A B : World} (h : SyI w O d D nv cv i j A) (hb : Below A.heap.size A B) : SyI w O d D nv cv i j B := by
  obtain ⟨O', sv, h1, h2⟩ := h.ex
  exact ⟨O', sv, h1.below hb, h2.trans (Fp.of_below O' hb)⟩
theorem sy_zero (D : Ds) (i : Nat) : syJ D i 0 = D := by
  cases D
  simp only [syJ, List.take_zero, fld, List.foldl_nil]
  congr 1
  funext j
  unfold upd
  split
  · next e => rw [e]
  · rfl
theorem upd_upd {α : Type} (f : Nat → α) (i : Nat) (x y : α) : upd (upd f i x) i y = upd f i y := by
  funext j
  unfold upd
  split <;> rfl
theorem sy_succ (D : Ds) (i j : Nat) (hj : j < (D.chs i).length) : { syJ D i j with safe := upd (syJ D i j).safe i (ovr ((D.chs i)[j]) ((syJ D i j).safe i)) } = syJ D i (j + 1) := by
  unfold syJ
  simp only [upd_same, upd_upd, List.take_succ_eq_append_getElem hj, fld_snoc]
/-- A change was done to what is safe. -/
theorem sy_step {w W A B : World} {O : Nat → Nat} {d i j : Nat} {D : Ds} {nv cv : Nat → Value} {v : Value} {O' : Nat → Nat} {svs : Nat → Value} (hi : i < 8) (hj : j < (D.chs i).length) (h : DK W O' d (syJ D i j) nv svs cv) (hf : Fp O w O' W) (hb : Below W.heap.size W A)
    (hv : Ow B 0 v (ovr ((D.chs i)[j]) ((syJ D i j).safe i))) (hg : A.grownBy B (svs i).ownBlock) (hs : Sn A (svs i) v) : SyI w O d D nv cv i (j + 1) (B.setCell ⟨d, i * 3 + 1, none⟩ v) := by
  have hA := h.below hb
  have hzz := hb.size
  have hdB : Bk B d (dkc nv svs cv (syJ D i j).off (syJ D i j).tO (syJ D i j).tF) 107 := hA.blk.grown hg (fun e => by have h1 := hA.ts i hi d e.symm; rw [hA.td] at h1; omega)
  have hod : ∀ b, v.ownBlock = some b → b ≠ d := fun b hb' e => by
    subst e
    obtain ⟨c, e2⟩ := hv.bytes b hb'
    rw [show B.heap[b]? = _ from hdB] at e2
    simp at e2
  obtain ⟨O2, r1, r2⟩ := hA.safeStep hi (w' := B.setCell ⟨d, i * 3 + 1, none⟩ v) (sv' := v) (r := ovr ((D.chs i)[j]) ((syJ D i j).safe i)) hg.os hg.tape hg.output (by simp; exact hg.size) (hdB.set _ _ (dkc_setS _ _ _ _ _ _ hi _)) (hv.same fun b hb' => Below.heap_setCell B _ _ b (hod b hb')) hs
    (fun k hk n1 n2 => by rw [Below.heap_setCell B _ _ k n1, hg.block k hk n2])
  rw [sy_succ D i j hj] at r1
  exact ⟨O2, _, r1, hf.trans ((Fp.of_below O' hb).trans r2)⟩
set_option maxRecDepth 100000 in
set_option maxHeartbeats 4000000 in
theorem sync9 (w : World) (O : Nat → Nat) (d : Nat) (D : Ds) (nv sv cv : Nat → Value) (f : Int) (h : DK w O d D nv sv cv) (hs : ∀ i, i < 8 → (D.safe i).length ≤ 131072) (hm : ∀ i, i < 8 → (D.chs i).length ≤ 1099511627776) (hc : ∀ i, i < 8 → ∀ c ∈ D.chs i, ChB c) :
    Calls Try.prog 76 #[.pointer (some ⟨d, 0, none⟩), .int .i64 f] w fun e w' => e = .returned (.int .i64 (cntE D f)) ∧ ∃ O' nv' sv' cv', DK w' O' d (syD D f) nv' sv' cv' ∧ Fp O w O' w' := by
  have HF := findC w O d D nv sv cv f h
  have HD : Hid (DK w O d D nv sv cv) := h
  by_cases h0 : cntE D f = 0
  · obtain ⟨ho, i, rfl, hi, hp⟩ := cnt_ok (d := d) h0
    rw [hp, h0] at HF
    have HF : Hid _ := HF
    have eD : syD D (i : Int) = { syJ (cnt D) i ((cnt D).chs i).length with chs := upd D.chs i [] } := by unfold syD; rw [if_pos h0, Int.toNat_natCast]; unfold syJ; rw [List.take_length]; rfl
    rw [eD, h0]
    obtain ⟨ac, lc, capc, ecv⟩ : ∃ ac lc capc, cv i = .slice ac lc capc := by
      obtain ⟨ps, _, h2, _⟩ := h.chs i hi
      exact ownsRow_sl h2
    have hlc : lc = (D.chs i).length := by
      obtain ⟨ps, h1, h2, _⟩ := h.chs i hi
      rw [ecv] at h2
      rcases h2.2 with ⟨e, hz⟩ | ⟨g, cap, cur, e, _⟩
      · simp at e; rw [← h1, List.length_map]; omega
      · simp at e; rw [← h1, List.length_map]; omega
    have HC0 : Hid (∀ W D' O' sv', DK W O' d D' nv sv' cv → W.cell? ⟨d, i * 3 + 2, none⟩ = some (.slice ac lc capc) ∧ d < W.heap.size) := fun W D' O' sv' hW => ⟨by rw [← ecv]; exact (hW.blk.cell _).trans (dkc_chs _ _ _ _ _ _ hi), hW.blk.lt⟩
    have HB : Hid ((D.safe i).length ≤ 131072 ∧ (D.chs i).length ≤ 1099511627776 ∧ ∀ c ∈ D.chs i, ChB c) := ⟨hs i hi, hm i hi, hc i hi⟩
    have Hcv : Hid (cv i = .slice ac lc capc) := ecv
    have Hlc : Hid (lc = (D.chs i).length) := hlc
    have hlc2 : lc ≤ 1099511627776 := by rw [hlc]; exact hm i hi
    clear eD hp h0 ho hs hm hc h ecv hlc
    go_enter Try.func76, Try.ntmps76
    go_wp2_with (go_at_call 91; refine Calls.mono HF.out ?_; rintro e w8 ⟨rfl, ht8⟩; obtain ⟨hD8, hF8⟩ := HD.out.counted ht8; obtain ⟨c8, l8⟩ := HC0.out _ _ _ _ hD8; have H8 : Hid (SyI w O d (cnt D) nv cv i 0 w8) := ⟨O, sv, by rw [sy_zero]; exact hD8, hF8⟩; clear ht8 hD8 hF8)
    go_loopw [23] (fun k wr => ∃ j : Nat, j ≤ lc ∧ k = .int .i64 (j : Int) ∧ SyI w O d (cnt D) nv cv i j wr) (fun k _ => lc - (intOf k).toNat)
    case atStart => exact ⟨0, by omega, rfl, H8.out⟩
    case round =>
      clear c8 l8 H8
      obtain ⟨j, hj, rfl, hI⟩ := hrel
      have HI : Hid (SyI w O d (cnt D) nv cv i j wr) := hI
      obtain ⟨O1, sv1, hD1, hF1⟩ := hI.ex
      have HD1 : Hid (DK wr O1 d (syJ (cnt D) i j) nv sv1 cv ∧ Fp O w O1 wr) := ⟨hD1, hF1⟩
      by_cases hlt : j < lc
      · have hlt' : (j : Int) < (lc : Int) := by omega
        have hjc : j < (D.chs i).length := by have := Hlc.out; omega
        obtain ⟨g, cap, bv, e1, k0, k1, k2, hbv, htag⟩ := (hD1.chs i hi).at j hjc
        rw [Hcv.out] at e1
        simp at e1
        obtain ⟨rfl, e2, rfl⟩ := e1
        have hc9 : ChB (D.chs i)[j] := HB.out.2.2 _ (List.getElem_mem hjc)
        have hr9 : ((syJ (cnt D) i j).safe i).length ≤ 131072 := by
          show (upd D.safe i _ i).length ≤ _
          rw [upd_same]
          exact fld_le _ _ HB.out.1 (fun c hc => HB.out.2.2 c (List.mem_of_mem_take hc))
        obtain ⟨c, hcc⟩ : ∃ c, c = (D.chs i)[j] := ⟨_, rfl⟩
        replace k0 : wr.cell? ⟨g, j * 3, none⟩ = some (.bool c.cut) := by rw [hcc]; exact k0
        replace k1 : wr.cell? ⟨g, j * 3 + 1, none⟩ = some (.int .i64 (c.pos : Int)) := by rw [hcc]; exact k1
        replace hbv : Ow wr 0 bv c.bs := by rw [hcc]; exact hbv
        rw [← hcc] at hc9
        obtain ⟨ad0, n0, cap0, rfl⟩ := ownsRow_sl hbv
        have hne : (sv1 i).ownBlock = none ∨ (sv1 i).ownBlock ≠ (Value.slice ad0 n0 cap0).ownBlock := by
          cases e : (sv1 i).ownBlock with
          | none => exact .inl rfl
          | some b => right; intro e2; have h1 := hD1.ts i hi b e; have h2 := htag b e2.symm; omega
        have HOv : Hid (∀ W', Below wr.heap.size wr W' → Calls Try.prog 83 #[.agg (chc c (.slice ad0 n0 cap0)), sv1 i] W' fun e w' => ∃ rv', e = .returned rv' ∧ Ow w' 0 rv' (ovr c ((syJ (cnt D) i j).safe i)) ∧ W'.grownBy w' (sv1 i).ownBlock ∧ Sn W' (sv1 i) rv') := fun W' hW => over W' _ _ _ _ ((hD1.safe i hi).below hW (hD1.safe i hi).lt) (hbv.below hW hbv.lt) hne hc9.2 (by omega) (by have := hc9.1; omega)
        have HSt : Hid (∀ A B v, Below wr.heap.size wr A → Ow B 0 v (ovr c ((syJ (cnt D) i j).safe i)) → A.grownBy B (sv1 i).ownBlock → Sn A (sv1 i) v → SyI w O d (cnt D) nv cv i (j + 1) (B.setCell ⟨d, i * 3 + 1, none⟩ v)) := fun A B v h1 h2 h3 h4 => sy_step hi hjc HD1.out.1 HD1.out.2 h1 (by rw [hcc] at h2; exact h2) h3 h4
        obtain ⟨ads, ns, caps, ess⟩ := ownsRow_sl (hD1.safe i hi)
        have hs1 : (sv1 i).oneCell' = true := by rw [ess]; rfl
        clear ess
        have hSd : ∀ k, (sv1 i).ownBlock = some k → k ≠ d ∧ k < wr.heap.size := fun k hk => ⟨fun e => by have h1 := hD1.ts i hi k hk; rw [e, hD1.td] at h1; omega, (hD1.safe i hi).lt k hk⟩
        have HSd : Hid (∀ k, (sv1 i).ownBlock = some k → k ≠ d ∧ k < wr.heap.size) := hSd
        have ld := hD1.blk.lt
        have HDd : Hid (Bk wr d (dkc nv sv1 cv (syJ (cnt D) i j).off (syJ (cnt D) i j).tO (syJ (cnt D) i j).tF) 107) := hD1.blk
        clear hI hD1 hF1 hbv htag hne hc9 hr9 e2 hSd hcc
        go_upto_region 7 with fail
        obtain ⟨W, hW⟩ : ∃ W, W = wr.alloc (.cells (chc c (.slice ad0 n0 cap0)) 128) := ⟨_, rfl⟩
        rw [← hW]
        have HBw : Hid (Below wr.heap.size wr W) := by show Below _ _ _; rw [hW]; exact (Below.refl _ _).alloc (Nat.le_refl _) _
        have HX : Hid (Bk W wr.heap.size (chc c (.slice ad0 n0 cap0)) 128) := by show Bk _ _ _ _; rw [hW]; exact Bk.new _ _ _
        have HD1 : Hid (Bk W d (dkc nv sv1 cv (syJ (cnt D) i j).off (syJ (cnt D) i j).tO (syJ (cnt D) i j).tF) 107) := HDd.out.below HBw.out ld
        have c0 : W.drew.cell? ⟨d, i * 3 + 1, none⟩ = some (sv1 i) := (HD1.out.cell _).trans (dkc_safe _ _ _ _ _ _ hi)
        clear hW k0 k1 k2 HDd
        refine wp_region_noPanic ?_
        refine wp_region_held_drew (S := fun w' => Bk w' wr.heap.size (chc c (.slice ad0 n0 cap0)) 128) (by kernel_rfl) ?_ (fun hHeld => ?_)
        · ((try dsimp only); exact HX.out.drew)
        (try dsimp only at hHeld)
        refine wpAnyH_take (i := 0) (oi := ⟨some 27, _, _, _, _, _⟩) (v := ?_) rfl (by kernel_rfl) (by kernel_rfl) (by kernel_rfl) (fun _ _ _ h => h) (Or.inl ⟨by rfl, ?_⟩) (by assumption) ?_
        rotate_left
        · (intro w hSw; (try dsimp only at hSw); go_simp; try (with_reducible rfl))
        (try dsimp only); (try simp only [Act.put, List.setIfInBounds_toArray, List.set_cons_zero, List.set_cons_succ])
        refine wpAnyH_take (i := 1) (oi := ⟨some 28, _, _, _, _, _⟩) rfl (by kernel_rfl) (by kernel_rfl) (by kernel_rfl) (fun _ _ _ h => h) (yl_ch (by rfl) _ rfl rfl (fun w' h => range_bk h)) (by assumption) ?_
        (try dsimp only); (try simp only [Act.put, List.setIfInBounds_toArray, List.set_cons_zero, List.set_cons_succ])
        refine wpAnyH_take (i := 2) (oi := ⟨some 29, _, _, _, _, _⟩) (v := ?_) rfl (by kernel_rfl) (by kernel_rfl) (by kernel_rfl) (fun _ _ _ h => h) (Or.inl ⟨by rfl, ?_⟩) (by assumption) ?_
        rotate_left
        · (intro w hSw; (try dsimp only at hSw); go_simp; try (with_reducible rfl))
        (try dsimp only); (try simp only [Act.put, List.setIfInBounds_toArray, List.set_cons_zero, List.set_cons_succ])
        refine wpAnyH_take (i := 3) (oi := ⟨some 30, _, _, _, _, _⟩) (v := ?_) rfl (by kernel_rfl) (by kernel_rfl) (by kernel_rfl) (fun _ _ _ h => h) (Or.inl ⟨by rfl, ?_⟩) (by assumption) ?_
        rotate_left
        · (intro w hSw; (try dsimp only at hSw); go_simp; try (with_reducible rfl))
        (try dsimp only); (try simp only [Act.put, List.setIfInBounds_toArray, List.set_cons_zero, List.set_cons_succ])
        refine wpAnyH_take (i := 4) (oi := ⟨some 31, _, _, _, _, _⟩) (v := ?_) rfl (by kernel_rfl) (by kernel_rfl) (by kernel_rfl) (fun _ _ _ h => h) (Or.inl ⟨by rfl, ?_⟩) (by assumption) ?_
        rotate_left
        · (intro w hSw; (try dsimp only at hSw); go_simp; try (with_reducible rfl))
        (try dsimp only); (try simp only [Act.put, List.setIfInBounds_toArray, List.set_cons_zero, List.set_cons_succ])
        refine wpAnyH_ready (rs := [5]) (by kernel_rfl) (by simp) ?_
        refine AllReadyH.cons (o := ⟨some 32, _, _, _, _, _⟩) rfl (fun K hK => ?_) AllReadyH.nil
        go_simp
        refine hK.out _ _ hHeld (fun hHeld => ?_)
        clear hK K
        (try dsimp only); (try simp only [Act.put, List.setIfInBounds_toArray, List.set_cons_zero, List.set_cons_succ])
        refine wpAnyH_ready (rs := [6]) (by kernel_rfl) (by simp) ?_
        refine AllReadyH.cons (o := ⟨some 33, _, _, _, _, _⟩) rfl (fun K hK => ?_) AllReadyH.nil
        go_simp
        refine (HOv.out W.drew HBw.out.drew).mono ?_
        rintro e w2 ⟨rv2, rfl, ho2, hg2, hs2⟩
        have HN : Hid (SyI w O d (cnt D) nv cv i (j + 1) (w2.setCell ⟨d, i * 3 + 1, none⟩ rv2)) := HSt.out _ _ _ HBw.out.drew ho2 hg2 hs2
        obtain ⟨ad2, n2, cap2, rfl⟩ := ownsRow_sl ho2
        have hX2 : Bk w2 wr.heap.size (chc c (.slice ad0 n0 cap0)) 128 := hHeld.grown hg2 (fun e => by have := (HSd.out _ e.symm).2; omega)
        have hd2 : Bk w2 d (dkc nv sv1 cv (syJ (cnt D) i j).off (syJ (cnt D) i j).tO (syJ (cnt D) i j).tF) 107 := HD1.out.drew.grown hg2 (fun e => (HSd.out _ e.symm).1 rfl)
        have p0 : w2.cell? ⟨d, i * 3 + 1, none⟩ = some (sv1 i) := (hd2.cell _).trans (dkc_safe _ _ _ _ _ _ hi)
        have pf0 := hd2.frozen (i * 3 + 1)
        have pl0 := hd2.lt
        refine hK.out _ _ hX2 (fun hHeld => ?_)
        clear hK K ho2 hg2 hs2 hX2 hd2 c0
        (try dsimp only); (try simp only [Act.put, List.setIfInBounds_toArray, List.set_cons_zero, List.set_cons_succ])
        refine wpAnyH_take (i := 7) (oi := ⟨some 34, _, _, _, _, _⟩) (v := ?_) rfl (by kernel_rfl) (by kernel_rfl) (by kernel_rfl) (fun _ _ _ h => h) (Or.inl ⟨by rfl, ?_⟩) (by assumption) ?_
        rotate_left
        · (intro w hSw; (try dsimp only at hSw); go_simp; try (with_reducible rfl))
        (try dsimp only); (try simp only [Act.put, List.setIfInBounds_toArray, List.set_cons_zero, List.set_cons_succ])
        refine wpAnyH_take (i := 8) (oi := ⟨some 35, _, _, _, _, _⟩) (v := ?_) rfl (by kernel_rfl) (by kernel_rfl) (by kernel_rfl) (fun _ _ _ h => h) (Or.inl ⟨by rfl, ?_⟩) (by assumption) ?_
        rotate_left
        · (intro w hSw; (try dsimp only at hSw); go_simp; try (with_reducible rfl))
        (try dsimp only); (try simp only [Act.put, List.setIfInBounds_toArray, List.set_cons_zero, List.set_cons_succ])
        refine wpAnyH_ready (rs := [9]) (by kernel_rfl) (by simp) ?_
        refine AllReadyH.cons (o := ⟨none, _, _, _, _, _⟩) rfl (fun K hK => ?_) AllReadyH.nil
        go_simp
        refine hK.out _ _ (hHeld.other (a := ⟨d, i * 3 + 1, none⟩) (by show wr.heap.size ≠ d; omega) _) (fun hHeld => ?_)
        clear hK K
        (try dsimp only); (try simp only [Act.put, List.setIfInBounds_toArray, List.set_cons_zero, List.set_cons_succ])
        refine wpAnyH_done (by kernel_rfl) ?_ _
        refine NoPanic.normal ?_
        go_wp2
        go_roundw
        case rel => exact ⟨j + 1, by omega, by go_num, HN.out⟩
        case measure => simp [intOf]; omega
      · have hlt' : ¬ (j : Int) < (lc : Int) := by omega
        obtain rfl : j = lc := by omega
        obtain ⟨hF1, hF2⟩ := hD1.forget hi
        obtain ⟨ci, ld⟩ := HC0.out _ _ _ _ hD1
        have cf := hD1.blk.frozen (i * 3 + 2)
        have HE : Hid (∃ (O' : Nat → Nat) (nv' sv' cv' : Nat → Value), DK (wr.setCell ⟨d, i * 3 + 2, none⟩ (.slice none 0 0)) O' d { syJ (cnt D) i ((cnt D).chs i).length with chs := upd D.chs i [] } nv' sv' cv' ∧ Fp O w O' (wr.setCell ⟨d, i * 3 + 2, none⟩ (.slice none 0 0))) := by
          have e9 : ((cnt D).chs i).length = j := Hlc.out.symm
          rw [e9]
          exact ⟨O1, nv, sv1, upd cv i (.slice none 0 0), hF1, HD1.out.2.trans hF2⟩
        clear hI hD1 hF1 hF2
        go_wp2
        go_ret
        obtain ⟨O', a1, a2, a3, r1, r2⟩ := HE.out
        first | exact ⟨rfl, O', ⟨a1, a2, a3, r1⟩, r2⟩ | exact ⟨rfl, O', a1, a2, a3, r1, r2⟩
  · have e2 : syD D f = cnt D := if_neg h0
    rw [e2]
    rw [cnt_no h0] at HF
    have HF : Hid _ := HF
    have hne : (cntE D f != 0) = true := by rw [bne_iff_ne]; exact h0
    clear h h0 e2 hs hm hc
    generalize cntE D f = ev at *
    go_enter Try.func76, Try.ntmps76
    go_wp2_with (go_at_call 91; refine Calls.mono HF.out ?_; rintro e w8 ⟨rfl, ht8⟩; have H8 : Hid (Turn w w8 d (dkc nv sv cv (cnt D).off (cnt D).tO (cnt D).tF) 107) := ht8; clear ht8)
    go_ret
    exact ⟨rfl, O, nv, sv, cv, HD.out.counted H8.out⟩
end Go.Proofs.Ytjbhegakgdcldaa
end
section
set_option linter.unusedSimpArgs false
set_option linter.unusedVariables false
namespace Go.Proofs.Ytjbhegakgdcldaa
open Go.RowKit

/-! What a write, a sync, a switch make of a disk, plainly; a write by contract. -/
/-- What Off does to a disk. -/
def offD (D : Ds) (n : Int) : Ds := { D with off := D.off || decide (n < 1), tO := n.toNat }
def failD (D : Ds) (n : Int) : Ds := { D with tF := n.toNat }
/-- What the page's Sync makes of a disk. -/
def psyD (D : Ds) (f : Int) : Ds := if cntE D f = 0 then { cnt D with safe := upd D.safe f.toNat (D.now f.toNat), chs := upd D.chs f.toNat [] } else cnt D
/-- What a write makes of the page's disk. -/
def pwD (D : Ds) (i a : Nat) (bs : List UInt8) (pre : List (Nat × Nat)) : Ds := { D with now := upd D.now i (splice (pad (D.now i) (a + bs.length)) a bs), chs := upd D.chs i (D.chs i ++ pre.map (pch a bs)) }
theorem pad_drop (r : List UInt8) (m : Nat) : (pad r m).drop m = r.drop m := by
  unfold pad
  rw [List.drop_append]
  simp
theorem pad_take {r : List UInt8} {m a : Nat} (ha : a ≤ r.length) : (pad r m).take a = r.take a := by
  unfold pad
  exact List.take_append_of_le_length ha
theorem splice_eq {r b : List UInt8} {a : Nat} (ha : a ≤ r.length) : splice (pad r (a + b.length)) a b = r.take a ++ b ++ r.drop (a + b.length) := by
  unfold splice
  rw [pad_drop, pad_take ha]
  first | rfl | rw [List.append_assoc] | rw [← List.append_assoc]
theorem fld_pcs {a : Nat} {bs r : List UInt8} (ha : a ≤ r.length) : ∀ fuel k, bs.length - k ≤ fuel → k ≤ bs.length → fld ((pcs a bs.length k).map (pch a bs)) (r.take a ++ bs.take k ++ r.drop (a + k)) = r.take a ++ bs ++ r.drop (a + bs.length)
  | 0, k, h, hk => by
    obtain rfl : k = bs.length := by omega
    rw [pcs_nil (by omega), List.take_length]
    rfl
  | fuel + 1, k, h, hk => by
    by_cases hlt : k < bs.length
    · have h1 := pcn_pos (a := a) hlt
      have h2 := pcn_le (a := a) hlt
      rw [pcs_cons hlt]
      generalize pcn a bs.length k = n at *
      have e1 : ((bs.drop k).take n).length = n := by simp; omega
      have e2 : (r.take a ++ bs.take k).length = a + k := by simp; omega
      have st : ovr (pch a bs (k, n)) (r.take a ++ bs.take k ++ r.drop (a + k)) = r.take a ++ bs.take (k + n) ++ r.drop (a + (k + n)) := by
        rw [ovr_piece (by rfl)]
        show splice (pad _ (a + k + ((bs.drop k).take n).length)) (a + k) ((bs.drop k).take n) = _
        rw [splice_eq (by simp; omega), e1]
        have e3 : (r.take a ++ bs.take k ++ r.drop (a + k)).take (a + k) = r.take a ++ bs.take k := by
          rw [List.take_append_of_le_length (by omega), ← e2, List.take_length]
        have e4 : (r.take a ++ bs.take k ++ r.drop (a + k)).drop (a + k + n) = r.drop (a + (k + n)) := by
          rw [List.drop_append, List.drop_eq_nil_of_le (by omega), e2, List.drop_drop, List.nil_append]
          congr 1
          omega
        rw [e3, e4, List.append_assoc (r.take a), ← List.take_add]
      show fld ((pcs a bs.length (k + n)).map (pch a bs)) (ovr (pch a bs (k, n)) _) = _
      rw [st]
      exact fld_pcs ha fuel (k + n) (by omega) (by omega)
    · obtain rfl : k = bs.length := by omega
      rw [pcs_nil (by omega), List.take_length]
      rfl
theorem upd_self {α : Type} (f : Nat → α) (i : Nat) : upd f i (f i) = f := by
  funext j
  unfold upd
  split
  · next e => rw [e]
  · rfl
theorem wrL_eq (i a : Nat) (bs : List UInt8) (xs : List (Nat × Nat)) : ∀ D : Ds, wrL D i a bs xs = { D with now := upd D.now i (fld (xs.map (pch a bs)) (D.now i)), chs := upd D.chs i (D.chs i ++ xs.map (pch a bs)) } := by
  induction xs with
  | nil =>
    intro D
    show D = { D with now := upd D.now i (D.now i), chs := upd D.chs i (D.chs i ++ []) }
    rw [List.append_nil, upd_self, upd_self]
  | cons x xs ih =>
    intro D
    show wrL (chg D i (pch a bs x)) i a bs xs = _
    rw [ih]
    unfold chg
    simp only [upd_same, upd_upd, List.map_cons, List.append_assoc, List.cons_append, List.nil_append]
    rfl
/-- What the program's write makes of a disk is what the page's makes. -/
theorem wr_page {D : Ds} {i a : Nat} {bs : List UInt8} (ha : a ≤ (D.now i).length) : wrL D i a bs (pcs a bs.length 0) = pwD D i a bs (pcs a bs.length 0) := by
  rw [wrL_eq]
  unfold pwD
  have h := fld_pcs (bs := bs) ha bs.length 0 (by omega) (by omega)
  rw [List.take_zero, List.append_nil, Nat.add_zero, List.take_append_drop] at h
  rw [h, splice_eq ha]
theorem wrE_ok {D : Ds} {f at_ : Int} {bl : Nat} (hw : wrE D f at_ bl = 0) : cntE D f = 0 ∧ ∃ i a : Nat, f = (i : Int) ∧ i < 8 ∧ at_ = (a : Int) ∧ a ≤ (D.now i).length ∧ a + bl ≤ 131072 := by
  unfold wrE at hw
  by_cases h0 : cntE D f = 0
  · rw [if_neg (by rw [h0]; simp)] at hw
    obtain ⟨ho, i, rfl, hi, hp⟩ := cnt_ok (d := 0) h0
    rw [Int.toNat_natCast] at hw
    by_cases h1 : at_ < 0 ∨ ((D.now i).length : Int) < at_
    · rw [if_pos h1] at hw; omega
    · rw [if_neg h1] at hw
      by_cases h2 : 131072 - at_ < (bl : Int)
      · rw [if_pos h2] at hw; omega
      · exact ⟨h0, i, at_.toNat, rfl, hi, by omega, by omega, by omega⟩
  · rw [if_pos h0] at hw
    exact absurd hw h0
theorem write9 (w : World) (O : Nat → Nat) (d : Nat) (D : Ds) (nv sv cv : Nat → Value) (f at_ : Int) (ad : Option Addr) (bs : List UInt8) (bc : Nat) (h : DK w O d D nv sv cv) (hl : ∀ i, i < 8 → (D.now i).length ≤ 131072) (hm : ∀ i, i < 8 → (D.chs i).length ≤ 1099511496704) (hbl : bs.length ≤ 9223372036854775807)
    (hb : Rb w (.slice ad bs.length bc) bs) (hO : ∀ b n, ad = some ⟨b, n, none⟩ → O b = 0) :
    Calls Try.prog 93 #[.pointer (some ⟨d, 0, none⟩), .int .i64 f, .int .i64 at_, .slice ad bs.length bc] w fun e w' => e = .returned (.int .i64 (wrE D f at_ bs.length)) ∧ ∃ O' nv' sv' cv', DK w' O' d (wrD D f at_ bs) nv' sv' cv' ∧ Fp O w O' w' := by
  by_cases hw : wrE D f at_ bs.length = 0
  · obtain ⟨h0, i, a, rfl, hi, rfl, ha, hab⟩ := wrE_ok hw
    have e : wrD D (i : Int) (a : Int) bs = wrL (cnt D) i a bs (pcs a bs.length 0) := by unfold wrD; rw [if_pos hw, Int.toNat_natCast, Int.toNat_natCast]
    rw [e, hw]
    exact write_ok w O d i a D nv sv cv ad bs bc h hi h0 ha hab (hl i hi) (hm i hi) hb hO
  · have e : wrD D f at_ bs = cnt D := if_neg hw
    rw [e]
    exact write_no w O d D nv sv cv f at_ ad bs.length bc h hl hbl hw
theorem fp_low {w W W' : World} {O O' : Nat → Nat} (hb : Below w.heap.size w W) (lo : ∀ b, O b ≠ 0 → w.heap.size ≤ b) (hf : Fp O W O' W') : Below w.heap.size w W' ∧ ∀ b, O' b ≠ 0 → w.heap.size ≤ b := by
  have hz := hb.size
  refine ⟨hb.trans ⟨hf.os, hf.tape, hf.output, hf.size, fun k hk => hf.keep k (by omega) ?_⟩, fun b hb' => ?_⟩
  · refine Classical.byContradiction fun h => ?_
    have := lo k h
    omega
  · refine Classical.byContradiction fun h => ?_
    refine hb' (hf.old b (by omega) (Classical.byContradiction fun h2 => ?_))
    exact h (lo b h2)
end Go.Proofs.Ytjbhegakgdcldaa
end
section
set_option linter.unusedSimpArgs false
set_option linter.unusedVariables false
namespace Go.Proofs.Ytjbhegakgdcldaa
open Go.RowKit

/-! What a disk always is: what it tells now is what is safe, and its changes over it. -/
structure Inv (D : Ds) : Prop where
  now : ∀ i, i < 8 → D.now i = fld (D.chs i) (D.safe i)
  len : ∀ i, i < 8 → (D.now i).length ≤ 131072
  saf : ∀ i, i < 8 → (D.safe i).length ≤ 131072
  chb : ∀ i, i < 8 → ∀ c ∈ D.chs i, ChB c
theorem Inv.cnt {D : Ds} (h : Inv D) : Inv (cnt D) := ⟨h.now, h.len, h.saf, h.chb⟩
theorem Inv.offD {D : Ds} (h : Inv D) (n : Int) : Inv (offD D n) := ⟨h.now, h.len, h.saf, h.chb⟩
theorem Inv.failD {D : Ds} (h : Inv D) (n : Int) : Inv (failD D n) := ⟨h.now, h.len, h.saf, h.chb⟩
theorem Inv.chg {D : Ds} (h : Inv D) {i : Nat} (hi : i < 8) {c : Ch} (hc : ChB c) (hl : (ovr c (D.now i)).length ≤ 131072) : Inv (chg D i c) := by
  refine ⟨fun j hj => ?_, fun j hj => ?_, h.saf, fun j hj c' hc' => ?_⟩
  · by_cases e : j = i
    · subst e
      show upd D.now j (ovr c (D.now j)) j = fld (upd D.chs j (D.chs j ++ [c]) j) (D.safe j)
      rw [upd_same, upd_same, h.now j hj]
      exact (fld_snoc ..).symm
    · show upd D.now i _ j = fld (upd D.chs i _ j) (D.safe j)
      rw [upd_other _ _ e, upd_other _ _ e]
      exact h.now j hj
  · by_cases e : j = i
    · subst e
      show (upd D.now j (ovr c (D.now j)) j).length ≤ _
      rw [upd_same]; exact hl
    · show (upd D.now i _ j).length ≤ _
      rw [upd_other _ _ e]; exact h.len j hj
  · by_cases e : j = i
    · subst e
      have hc2 : c' ∈ upd D.chs j (D.chs j ++ [c]) j := hc'
      rw [upd_same] at hc2
      rcases List.mem_append.1 hc2 with h1 | h1
      · exact h.chb j hj c' h1
      · simp at h1; subst h1; exact hc
    · have hc2 : c' ∈ upd D.chs i (D.chs i ++ [c]) j := hc'
      rw [upd_other _ _ e] at hc2
      exact h.chb j hj c' hc2
theorem Inv.wrL {i a : Nat} {bs : List UInt8} (hi : i < 8) (hab : a + bs.length ≤ 131072) (xs : List (Nat × Nat)) (hx : ∀ x ∈ xs, 0 < x.2 ∧ x.1 + x.2 ≤ bs.length) : ∀ {D : Ds}, Inv D → Inv (wrL D i a bs xs) := by
  induction xs with
  | nil => intro D h; exact h
  | cons x xs ih =>
    intro D h
    have h1 := hx x (List.mem_cons_self ..)
    have e1 : ((bs.drop x.1).take x.2).length = x.2 := by simp; omega
    refine ih (fun y hy => hx y (List.mem_cons_of_mem _ hy)) (D := Go.Proofs.Ytjbhegakgdcldaa.chg D i (pch a bs x)) (h.chg hi ⟨?_, fun _ => ?_⟩ ?_)
    · show a + x.1 + ((bs.drop x.1).take x.2).length ≤ _
      omega
    · show 0 < ((bs.drop x.1).take x.2).length
      omega
    · rw [ovr_length (by rfl)]
      show max _ (a + x.1 + ((bs.drop x.1).take x.2).length) ≤ _
      have := h.len i hi
      omega
theorem Inv.wrD {D : Ds} (h : Inv D) (f at_ : Int) (bs : List UInt8) : Inv (wrD D f at_ bs) := by
  by_cases hw : wrE D f at_ bs.length = 0
  · obtain ⟨h0, i, a, rfl, hi, rfl, ha, hab⟩ := wrE_ok hw
    have e : Go.Proofs.Ytjbhegakgdcldaa.wrD D (i : Int) (a : Int) bs = Go.Proofs.Ytjbhegakgdcldaa.wrL (Go.Proofs.Ytjbhegakgdcldaa.cnt D) i a bs (pcs a bs.length 0) := by unfold Go.Proofs.Ytjbhegakgdcldaa.wrD; rw [if_pos hw, Int.toNat_natCast, Int.toNat_natCast]
    rw [e]
    exact Inv.wrL hi hab _ (pcs_mem bs.length 0 (by omega)) h.cnt
  · have e : Go.Proofs.Ytjbhegakgdcldaa.wrD D f at_ bs = Go.Proofs.Ytjbhegakgdcldaa.cnt D := if_neg hw
    rw [e]
    exact h.cnt
theorem Inv.cutD {D : Ds} (h : Inv D) (f n : Int) : Inv (cutD D f n) := by
  by_cases hw : cutE D f n = 0
  · have e : Go.Proofs.Ytjbhegakgdcldaa.cutD D f n = Go.Proofs.Ytjbhegakgdcldaa.chg (Go.Proofs.Ytjbhegakgdcldaa.cnt D) f.toNat ⟨true, n.toNat, []⟩ := if_pos hw
    rw [e]
    have h0 : cntE D f = 0 := by
      refine Classical.byContradiction fun h9 => ?_
      unfold cutE at hw
      rw [if_pos h9] at hw
      exact h9 hw
    obtain ⟨ho, i, rfl, hi, hp⟩ := cnt_ok (d := 0) h0
    unfold cutE at hw
    rw [if_neg (by rw [h0]; simp), Int.toNat_natCast] at hw
    rw [Int.toNat_natCast]
    have hn : ¬ (n < 0 ∨ ((D.now i).length : Int) < n) := fun h9 => by rw [if_pos h9] at hw; omega
    have hl := h.len i hi
    refine h.cnt.chg hi ⟨?_, fun h9 => by simp at h9⟩ ?_
    · show n.toNat + 0 ≤ _; omega
    · rw [ovr_cut (by rfl)]
      show ((D.now i).take n.toNat).length ≤ _
      rw [List.length_take]; omega
  · have e : Go.Proofs.Ytjbhegakgdcldaa.cutD D f n = Go.Proofs.Ytjbhegakgdcldaa.cnt D := if_neg hw
    rw [e]
    exact h.cnt
/-- What the program's Sync makes of a disk is what the page's makes. -/
theorem Inv.syD {D : Ds} (h : Inv D) (f : Int) : syD D f = psyD D f := by
  unfold Go.Proofs.Ytjbhegakgdcldaa.syD psyD
  by_cases h0 : cntE D f = 0
  · obtain ⟨ho, i, rfl, hi, hp⟩ := cnt_ok (d := 0) h0
    rw [if_pos h0, if_pos h0, Int.toNat_natCast, h.now i hi]
  · rw [if_neg h0, if_neg h0]
theorem Inv.psyD {D : Ds} (h : Inv D) (f : Int) : Inv (psyD D f) := by
  unfold Go.Proofs.Ytjbhegakgdcldaa.psyD
  by_cases h0 : cntE D f = 0
  · obtain ⟨ho, i, rfl, hi, hp⟩ := cnt_ok (d := 0) h0
    rw [if_pos h0, Int.toNat_natCast]
    refine ⟨fun j hj => ?_, h.len, fun j hj => ?_, fun j hj c hc => ?_⟩
    · show D.now j = fld (upd D.chs i [] j) (upd D.safe i (D.now i) j)
      by_cases e : j = i
      · subst e; rw [upd_same, upd_same]; rfl
      · rw [upd_other _ _ e, upd_other _ _ e]; exact h.now j hj
    · show (upd D.safe i (D.now i) j).length ≤ _
      by_cases e : j = i
      · subst e; rw [upd_same]; exact h.len j hj
      · rw [upd_other _ _ e]; exact h.saf j hj
    · have hc2 : c ∈ upd D.chs i [] j := hc
      by_cases e : j = i
      · subst e; rw [upd_same] at hc2; cases hc2
      · rw [upd_other _ _ e] at hc2; exact h.chb j hj c hc2
  · rw [if_neg h0]
    exact h.cnt
end Go.Proofs.Ytjbhegakgdcldaa
end
section
set_option linter.unusedSimpArgs false
set_option linter.unusedVariables false
namespace Go.Proofs.Ytjbhegakgdcldaa
open Go.RowKit

/-! change.kept: what a pick keeps of a change. -/
def kpt (c : Ch) (p : Int) : Option Ch := if p = 0 then some c else if c.cut = true ∨ p ≤ 2 then none else some { c with bs := c.bs.take (p - 2).toNat }
def kptV (w : World) (o : Option Ch) (bv : Value) (e : Ending) : Prop := match o with
  | none => e = .returned (.tuple #[.agg #[.bool false, .int .i64 0, .slice none 0 0], .bool false])
  | some c' => ∃ bv', e = .returned (.tuple #[.agg (chc c' bv'), .bool true]) ∧ Ow w 0 bv' c'.bs ∧ bv'.ownBlock = bv.ownBlock
set_option maxRecDepth 100000 in
set_option maxHeartbeats 4000000 in
theorem kept9 (w : World) (c : Ch) (bv : Value) (p : Int) (hb : Ow w 0 bv c.bs) (hl : c.bs.length ≤ 1099511627776) (hp : -9223372036854775808 ≤ p ∧ p ≤ 9223372036854775807) :
    Calls Try.prog 82 #[.agg (chc c bv), .int .i64 p] w fun e w' => kptV w' (kpt c p) bv e ∧ Below w.heap.size w w' := by
  obtain ⟨cut, pos, bs⟩ := c
  obtain ⟨ad, cap, rfl, hle⟩ := hb.shape
  have HB : Hid (Ow w 0 (.slice ad bs.length cap) bs) := hb
  have hble : bs.length ≤ cap := hle
  have hbl : bs.length ≤ 1099511627776 := hl
  clear hb hle hl
  have hNew : ∀ (x y : Array Value) , Bk ((w.alloc (.cells x 128)).alloc (.cells y 128)) (w.heap.size + 1) y 128 := fun x y => Bk.new' _ _ _ (by simp)
  have HNew : Hid _ := hNew
  have hBel : ∀ (x y : Array Value), Below w.heap.size w ((w.alloc (.cells x 128)).alloc (.cells y 128)) := fun x y => ((Below.refl _ w).alloc (Nat.le_refl _) _).alloc (by simp) _
  have HBel : Hid _ := hBel
  clear hNew hBel
  by_cases h0 : p = 0
  · subst h0
    rw [show kpt ⟨cut, pos, bs⟩ 0 = some ⟨cut, pos, bs⟩ from if_pos rfl]
    go_enter Try.func82, Try.ntmps82
    go_wp2
    have hb := HNew.out (chc ⟨cut, pos, bs⟩ (.slice ad bs.length cap)) (chc ⟨cut, pos, bs⟩ (.slice ad bs.length cap))
    have hld := run_loadVar_mid (P := Try.prog) _ (w.heap.size + 1) 0 128 (chc ⟨cut, pos, bs⟩ (.slice ad bs.length cap)).toList _ (range_bk hb) Try.underlying128 rfl infoCh
    refine bodyPost_ret (v := .tuple #[.agg (chc ⟨cut, pos, bs⟩ (.slice ad bs.length cap)), .bool true]) ?_ rfl ⟨⟨_, rfl, HB.out.below (HBel.out _ _) HB.out.lt, rfl⟩, HBel.out _ _⟩
    simp only [results, Try.results82, Act.put]
    simp [asAddr, hld]
  · have hne : (p == 0) = false := by rw [beq_eq_false_iff_ne]; exact h0
    by_cases hc : cut = true ∨ p ≤ 2
    · rw [show kpt ⟨cut, pos, bs⟩ p = none by unfold kpt; rw [if_neg h0, if_pos hc]]
      have hz := HNew.out (chc ⟨cut, pos, bs⟩ (.slice ad bs.length cap)) #[.bool false, .int .i64 0, .slice none 0 0]
      have hld := run_loadVar_mid (P := Try.prog) _ (w.heap.size + 1) 0 128 [.bool false, .int .i64 0, .slice none 0 0] _ (range_bk hz) Try.underlying128 rfl infoCh
      have HLd : Hid _ := hld
      clear hz hld
      cases cut
      · have hp2 : p ≤ 2 := by rcases hc with h | h <;> simp_all
        go_enter Try.func82, Try.ntmps82
        go_wp2
        refine bodyPost_ret (v := .tuple #[.agg #[.bool false, .int .i64 0, .slice none 0 0], .bool false]) ?_ rfl ⟨rfl, HBel.out _ _⟩
        have hld := HLd.out
        simp only [results, Try.results82, Act.put]
        simp [asAddr, hld]
      · clear hc
        go_enter Try.func82, Try.ntmps82
        go_wp2
        refine bodyPost_ret (v := .tuple #[.agg #[.bool false, .int .i64 0, .slice none 0 0], .bool false]) ?_ rfl ⟨rfl, HBel.out _ _⟩
        have hld := HLd.out
        simp only [results, Try.results82, Act.put]
        simp [asAddr, hld]
    · have hcut : cut = false := by cases cut <;> simp_all
      subst hcut
      have hp2 : ¬ p ≤ 2 := fun h => hc (.inr h)
      obtain ⟨k, hk⟩ : ∃ k : Nat, p = (k : Int) + 2 := ⟨(p - 2).toNat, by omega⟩
      subst hk
      rw [show kpt ⟨false, pos, bs⟩ ((k : Int) + 2) = some ⟨false, pos, bs.take k⟩ by unfold kpt; rw [if_neg h0, if_neg hc]; congr 3; omega]
      have hdif : IntKind.i64.wrap ((k : Int) + 2 - 2) = (k : Int) := by rw [IntWalk.i64_in _ (by omega)]; omega
      have hdif2 : IntKind.i64.wrap ((k : Int)) = (k : Int) := by rw [IntWalk.i64_in _ (by omega)]
      obtain ⟨n, hn⟩ : ∃ n, n = min k bs.length := ⟨_, rfl⟩
      have hb2 : Ow w 0 (.slice ad n cap) (bs.take k) := by
        have e : bs.take k = bs.take n := by rw [hn]; simp [List.take_eq_take_iff]
        rw [e]
        exact HB.out.cut n (by omega)
      have hmin : min (k : Int) (bs.length : Int) = (n : Int) := by omega
      have HB2 : Hid (Ow w 0 (.slice ad n cap) (bs.take k)) := hb2
      have hld := run_loadVar_mid (P := Try.prog) _ (w.heap.size + 1) 0 128 [.bool false, .int .i64 (pos : Int), .slice ad n cap] _ (range_bk (HNew.out (chc ⟨false, pos, bs⟩ (.slice ad n cap)) (chc ⟨false, pos, bs⟩ (.slice ad n cap)))) Try.underlying128 rfl infoCh
      have HLd : Hid _ := hld
      clear hb2 hld hc
      have hnc : n ≤ cap := by omega
      clear hdif2
      rcases Nat.lt_trichotomy k bs.length with hlt | heq | hgt
      · obtain rfl : n = k := by omega
        clear hn
        go_enter Try.func82, Try.ntmps82
        go_wp2
        refine bodyPost_ret (v := .tuple #[.agg (chc ⟨false, pos, bs.take n⟩ (.slice ad n cap)), .bool true]) ?_ rfl ⟨⟨_, rfl, HB2.out.below (HBel.out _ _) HB2.out.lt, by cases ad <;> rfl⟩, HBel.out _ _⟩
        have hld := HLd.out
        simp only [results, Try.results82, Act.put]
        simp [asAddr, hld]
      · obtain rfl : n = k := by omega
        clear hn
        subst heq
        go_enter Try.func82, Try.ntmps82
        go_wp2
        refine bodyPost_ret (v := .tuple #[.agg (chc ⟨false, pos, bs⟩ (.slice ad bs.length cap)), .bool true]) ?_ rfl ⟨⟨_, rfl, HB.out.below (HBel.out _ _) HB.out.lt, by cases ad <;> rfl⟩, HBel.out _ _⟩
        have hld := HLd.out
        simp only [results, Try.results82, Act.put]
        simp [asAddr, hld]
      · obtain rfl : n = bs.length := by omega
        clear hn
        go_enter Try.func82, Try.ntmps82
        go_wp2
        refine bodyPost_ret (v := .tuple #[.agg (chc ⟨false, pos, bs.take k⟩ (.slice ad bs.length cap)), .bool true]) ?_ rfl ⟨⟨_, rfl, HB2.out.below (HBel.out _ _) HB2.out.lt, by cases ad <;> rfl⟩, HBel.out _ _⟩
        have hld := HLd.out
        simp only [results, Try.results82, Act.put]
        simp [asAddr, hld]
end Go.Proofs.Ytjbhegakgdcldaa
end

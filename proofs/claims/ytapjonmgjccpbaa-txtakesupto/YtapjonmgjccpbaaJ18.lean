/- Texts joined: Lst Ix7. -/
import Derived.Test.YtapjonmgjccpbaaJ17
import Derived.Test.YtapjonmgjccpbaaJ0
section
set_option linter.unusedSimpArgs false
set_option linter.unusedVariables false
set_option maxRecDepth 100000
namespace Go.Proofs.Ytapjonmgjccpbaa
open Go.RowKit Go.Shelf
attribute [local go_sem] Oper.semAt_some

/-! tx.list. -/
def senc (s : ByteArray) : Array Value := #[.string s]
/-- A function that tells these texts, one behind the other. -/
def Texts (gf : Nat) (lb : Array Value) (ss : List ByteArray) (N : Nat) (w : World) : Prop :=
  SeqA Fence.wide 5 Try.prog gf lb senc (KpI N) (fun _ pre _ _ => pre.length < ss.length) (fun xs => xs = ss) (fun _ => True) w
def LtI (w W : World) (A : Nat) (pre : List ByteArray) : Prop := ∃ va vc ps, LI (A + 1) A w W (pre.map txtI) pre.length va vc ps
set_option maxHeartbeats 4000000 in
theorem list7 (gf : Nat) (lb : Array Value) (ss : List ByteArray) (w : World) (eg : ∀ args w, (callFunc gf args).run Try.prog w = .ok (.enter gf args) w) (hs : ss.length ≤ 1000000) (hseq : ∀ W, Below w.heap.size w W → Texts gf lb ss w.heap.size W) :
    Calls Try.prog 51 #[(.func (.func gf) #[] lb)] w fun e w' => (∃ ad c ps, e = .returned (.agg #[.bool true, .string ⟨#[]⟩, .slice ad ss.length c]) ∧ ps.map Prod.fst = ss.map txtI ∧ Bld w' (w.heap.size + 2) 1 (.slice ad ss.length c) ps) ∧ Below w.heap.size w w' := by
  have HS : Hid (∀ W, Below w.heap.size w W → Texts gf lb ss w.heap.size W) := hseq
  clear hseq
  refine (callsIn_wide (n := 6)).1 ?_
  refine callsIn_of_wp_marks Try.func51 rfl trivial ?_ rfl
  simp only [Try.ntmps51, List.size_toArray, List.length_cons, List.length_nil, Nat.reduceAdd, Nat.reduceSub, Array.replicate_succ, Array.replicate_zero, List.push_toArray, List.append_toArray, List.nil_append, List.cons_append]
  gi_wp2
  obtain ⟨w9, hw9⟩ : ∃ w9, w9 = (w.alloc (.cells #[.bool false, .string ⟨#[]⟩, .slice none 0 0] 70)).alloc (.cells #[.bool true, .string ⟨#[]⟩, .slice none 0 0] 70) := ⟨_, rfl⟩
  rw [← hw9]
  have bR : Bk w9 w.heap.size #[.bool false, .string ⟨#[]⟩, .slice none 0 0] 70 := by rw [hw9]; exact (Bk.new _ _ _).alloc _
  have bA : Bk w9 (w.heap.size + 1) #[.bool true, .string ⟨#[]⟩, .slice none 0 0] 70 := by rw [hw9]; exact Bk.new' _ _ _ (by simp)
  have hB9 : Below w.heap.size w w9 := by rw [hw9]; exact ((Below.refl _ w).alloc (Nat.le_refl _) _).alloc (by simp) _
  have hz9 : w9.heap.size = w.heap.size + 2 := by rw [hw9]; simp
  clear hw9
  have h0 : LtI w9 w9 (w.heap.size + 1) [] := ⟨none, 0, [], ⟨rfl, rfl, Bld.nil _ _ _, bA, KB.refl _ _ _⟩⟩
  have HB : Hid (Below w.heap.size w w9 ∧ Bk w9 w.heap.size #[.bool false, .string ⟨#[]⟩, .slice none 0 0] 70) := ⟨hB9, bR⟩
  have HZ : Hid (w9.heap.size = w.heap.size + 2) := hz9
  refine wpIn_rangeA rfl (by omega) (gf := gf) (lb := lb) rfl trivial eg (HS.out w9 hB9) KpI.trans (fun W l o o' hl h hc => kpi_put W l o o' (by omega) h hc) (Below.refl _ _) (fun _ => rfl)
    (fun pre W => LtI w9 W (w.heap.size + 1) pre ∧ w.heap.size + 2 ≤ W.heap.size) (fun c pre W => False) (fun s A B h hb => by obtain ⟨⟨va, vc, ps, h⟩, hz⟩ := h; exact ⟨⟨va, vc, ps, h.below hb (by omega) (by omega)⟩, Nat.le_trans hz hb.size⟩) (fun c s A B h hb => h) (fun s A l o o' hl h hc hi => by obtain ⟨⟨va, vc, ps, hi⟩, hz⟩ := hi; exact ⟨⟨va, vc, ps, hi.put (by omega) (by omega) h hc⟩, by simpa [World.putObj] using hz⟩) (fun c s A l o o' hl h hc hi => hi) ⟨h0, by omega⟩
    (fun x a' W => a' = { tmps := #[(.func (.func gf) #[] lb), undef, .pointer (some ⟨w.heap.size, 0, none⟩), .pointer (some ⟨w.heap.size + 1, 0, none⟩), .string x, .agg #[.bool true, .string ⟨#[]⟩, .slice none 0 0], (.func (.func gf) #[] lb), .string x, undef, undef, undef, undef, undef, undef, undef, undef, undef, undef], defers := [] } ∧ ∃ va k vc, Bk W (w.heap.size + 1) #[.bool true, .string ⟨#[]⟩, .slice va k vc] 70 ∧ k < ss.length)
    (fun x a' A l o o' _ h hc hx => by obtain ⟨h1, va, k, vc, h2, h3⟩ := hx; exact ⟨h1, va, k, vc, bk_put h2 h hc, h3⟩) ?assign ?body ?done ?stop
  case assign =>
    intro l pre x A0 W K hi0 hbA hgd hi hK
    simp only [senc]
    gi_wp2
    obtain ⟨⟨va, vc, ps, hi'⟩, hz⟩ := id hi
    exact hK _ _ (KeepsFrom.refl _ _) ⟨fun _ _ => rfl, fun b vs t _ h => h⟩ hi ⟨rfl, va, pre.length, vc, hi'.bA, hgd⟩
  case body =>
    rintro l pre x a' W ⟨⟨va, vc, ps, hi⟩, hzW⟩ ⟨rfl, va', k', vc', bA', hk40⟩
    obtain ⟨rfl, rfl, rfl⟩ : va' = va ∧ k' = pre.length ∧ vc' = vc := by
      have e := (show W.heap[w.heap.size + 1]? = _ from bA').symm.trans hi.bA
      simpa using e
    have HI : Hid (LI (w.heap.size + 1 + 1) (w.heap.size + 1) w9 W (pre.map txtI) pre.length va' vc' ps) := hi
    have lA := bA'.lt
    have bA := bA'.drew
    have a2w := bA'.cell 2
    have af2w := bA'.frozen 2
    have a2 := bA.cell 2
    have af2 := bA.frozen 2
    simp only [List.getElem?_toArray, List.getElem?_cons_zero, List.getElem?_cons_succ] at a2 a2w
    have bA1 := bA.alloc (.cells #[.bool false, .string ⟨#[]⟩, .slice none 0 0] 70)
    have a2' := bA1.cell 2
    simp only [List.getElem?_toArray, List.getElem?_cons_zero, List.getElem?_cons_succ] at a2'
    obtain ⟨j0, hj, hz0, hz1, hz2⟩ := info_of infoI
    have HJ : Hid (Try.prog.info? 70 = some j0 ∧ j0.zero = some (.agg #[.bool false, .string ⟨#[]⟩, .slice none 0 0]) ∧ j0.size = 3 ∧ j0.bytes = 48) := ⟨hj, hz0, hz1, hz2⟩
    have HBA : Hid (Bk W (w.heap.size + 1) #[.bool true, .string ⟨#[]⟩, .slice va' pre.length vc'] 70) := bA'
    clear hj hz0 hz1 hz2 hi bA bA' bA1 h0
    gi_wp2
    refine wpIn_region_any (by kernel_rfl) ?_
    (try (change wpAnyIn _ _ _ _ _ _ _ _ _ (World.drew _)))
    refine anyIn_round l (noDefer_spec (by kernel_rfl)) _ _ _ _ ?_
    refine wpAnyIn_take (i := 0) (oi := ⟨some 8, _, _, _, _, _⟩) (v := ?_) rfl rfl (by kernel_rfl) (by kernel_rfl) (by kernel_rfl) (fun _ _ _ h => h) ⟨Or.inl ⟨by rfl, ?_⟩, fun _ => rfl⟩ ?_
    rotate_left
    · (intro w; go_simp; try (with_reducible rfl))
    (try dsimp only); (try simp only [Act.put, List.setIfInBounds_toArray, List.set_cons_zero, List.set_cons_succ])
    refine wpAnyIn_take (i := 2) (oi := ⟨some 10, _, _, _, _, _⟩) (v := ?_) rfl rfl (by kernel_rfl) (by kernel_rfl) (by kernel_rfl) (fun _ _ _ h => h) ⟨Or.inl ⟨by rfl, ?_⟩, fun _ => rfl⟩ ?_
    rotate_left
    · (intro w; go_simp; try (with_reducible rfl))
    (try dsimp only); (try simp only [Act.put, List.setIfInBounds_toArray, List.set_cons_zero, List.set_cons_succ])
    refine wpAnyIn_take (i := 3) (oi := ⟨some 11, _, _, _, _, _⟩) (v := ?_) rfl rfl (by kernel_rfl) (by kernel_rfl) (by kernel_rfl) (fun _ _ _ h => h) ⟨Or.inl ⟨by rfl, ?_⟩, fun _ => rfl⟩ ?_
    rotate_left
    · (intro w; go_simp; try (with_reducible rfl))
    (try dsimp only); (try simp only [Act.put, List.setIfInBounds_toArray, List.set_cons_zero, List.set_cons_succ])
    refine (@id (?T → _) (fun key => ?main)) ?pf
    case main =>
      refine wpAnyIn_ready (rs := [1, 5]) (by kernel_rfl) (by simp) ?_
      refine AllReadyIn.cons (o := ⟨some 9, _, _, _, _, _⟩) rfl (fun K hK => ?_) (AllReadyIn.cons (o := ⟨some 13, _, _, _, _, _⟩) rfl (fun K hK => ?_) AllReadyIn.nil)
      · go_simp
        refine hK _ _ ?_
        clear hK K
        (try dsimp only); (try simp only [Act.put, List.setIfInBounds_toArray, List.set_cons_zero, List.set_cons_succ])
        refine wpAnyIn_take (i := 4) (oi := ⟨some 12, _, _, _, _, _⟩) (v := ?_) rfl rfl (by kernel_rfl) (by kernel_rfl) (by kernel_rfl) (fun _ _ _ h => h) ⟨Or.inl ⟨by rfl, ?_⟩, fun _ => rfl⟩ ?_
        rotate_left
        · (intro w; go_simp; try (with_reducible rfl))
        (try dsimp only); (try simp only [Act.put, List.setIfInBounds_toArray, List.set_cons_zero, List.set_cons_succ])
        refine wpAnyIn_ready (rs := [5]) (by kernel_rfl) (by simp) ?_
        refine AllReadyIn.cons (o := ⟨some 13, _, _, _, _, _⟩) rfl (fun K hK => ?_) AllReadyIn.nil
        · go_simp
          refine hK _ _ ?_
          clear hK K
          (try dsimp only); (try simp only [Act.put, List.setIfInBounds_toArray, List.set_cons_zero, List.set_cons_succ])
          exact key
      · go_simp
        refine hK _ _ ?_
        clear hK K
        (try dsimp only); (try simp only [Act.put, List.setIfInBounds_toArray, List.set_cons_zero, List.set_cons_succ])
        refine wpAnyIn_ready (rs := [1]) (by kernel_rfl) (by simp) ?_
        refine AllReadyIn.cons (o := ⟨some 9, _, _, _, _, _⟩) rfl (fun K hK => ?_) AllReadyIn.nil
        · go_simp
          refine hK _ _ ?_
          clear hK K
          (try dsimp only); (try simp only [Act.put, List.setIfInBounds_toArray, List.set_cons_zero, List.set_cons_succ])
          refine wpAnyIn_take (i := 4) (oi := ⟨some 12, _, _, _, _, _⟩) (v := ?_) rfl rfl (by kernel_rfl) (by kernel_rfl) (by kernel_rfl) (fun _ _ _ h => h) ⟨Or.inl ⟨by rfl, ?_⟩, fun _ => rfl⟩ ?_
          rotate_left
          · (intro w; go_simp; try (with_reducible rfl))
          (try dsimp only); (try simp only [Act.put, List.setIfInBounds_toArray, List.set_cons_zero, List.set_cons_succ])
          exact key
    case pf =>
      refine wpAnyIn_ready (rs := [6]) (by kernel_rfl) (by simp) ?_
      refine AllReadyIn.cons (o := ⟨some 14, _, _, _, _, _⟩) rfl (fun K hK => ?_) AllReadyIn.nil
      (refine stepW_append_src rfl _ _ 68 68 rfl (w.heap.size + 1 + 1) 70 j0 (.agg #[.bool false, .string ⟨#[]⟩, .slice none 0 0]) 3 48 Try.underlying68 HJ.out.1 HJ.out.2.1 HJ.out.2.2.1 HJ.out.2.2.2 rfl (.slice va' pre.length vc') (.slice (some ⟨W.heap.size, 0, none⟩) 1 1) pre.length (icells ps) 1 [.bool false, .string ⟨#[]⟩, .slice none 0 0] rfl rfl (by have h := (HI.out.bl.below ((Below.refl _ W).drew)).row; rw [HI.out.e2] at h; exact h.alloc _) (one_src (Bk.new W.drew _ _) rfl rfl rfl) (by unfold maxLen; omega) (by omega) (by simp; omega) (by omega) (pre.length + 1) rfl ?_; intro g cap w4 hown4 hgr4 hsn4 hlt4 hg4)
      refine hK _ _ ?_
      clear hK K
      (try dsimp only); (try simp only [Act.put, List.setIfInBounds_toArray, List.set_cons_zero, List.set_cons_succ])
      have hcl := icells_length ps
      rw [HI.out.e2] at hcl
      have k0 : w4.cell? ⟨g, pre.length * 3, none⟩ = some (.bool false) := (World.ownsRow.cellAt hown4 (pre.length * 3) (by omega)).trans (by rw [List.getElem?_append_right (by omega), hcl]; simp)
      have k1 : w4.cell? ⟨g, pre.length * 3 + 1, none⟩ = some (.string ⟨#[]⟩) := (World.ownsRow.cellAt hown4 (pre.length * 3 + 1) (by omega)).trans (by rw [List.getElem?_append_right (by omega), hcl]; simp)
      have k2 : w4.cell? ⟨g, pre.length * 3 + 2, none⟩ = some (.slice none 0 0) := (World.ownsRow.cellAt hown4 (pre.length * 3 + 2) (by omega)).trans (by rw [List.getElem?_append_right (by omega), hcl]; simp)
      have q0 := World.ownsRow.frozenAt hown4 (pre.length * 3)
      have q1 := World.ownsRow.frozenAt hown4 (pre.length * 3 + 1)
      have q2 := World.ownsRow.frozenAt hown4 (pre.length * 3 + 2)
      have b4 := bk_grown (HBA.out.drew.alloc (.cells #[.bool false, .string ⟨#[]⟩, .slice none 0 0] 70)) hgr4 (fun k hk => by have := (HI.out.bl.row.lt k hk).1; omega)
      have v4 := b4.cell 2
      have vf4 := b4.frozen 2
      simp only [List.getElem?_toArray, List.getElem?_cons_zero, List.getElem?_cons_succ] at v4
      have lV4 := b4.lt
      have hgV : ¬ g = w.heap.size + 1 := by omega
      have hVg : ¬ w.heap.size + 1 = g := by omega
      have hidx : (pre.length : Int) < (pre.length : Int) + 1 := by omega
      have H4 : Hid (w4.ownsRow (w.heap.size + 1 + 1) 70 3 (.slice (some ⟨g, 0, none⟩) (pre.length + 1) cap) (pre.length + 1) (icells ps ++ [.bool false, .string ⟨#[]⟩, .slice none 0 0]) ∧ (W.drew.alloc (.cells #[.bool false, .string ⟨#[]⟩, .slice none 0 0] 70)).grownBy w4 (Value.slice va' pre.length vc').ownBlock ∧ Sn (W.drew.alloc (.cells #[.bool false, .string ⟨#[]⟩, .slice none 0 0] 70)) (.slice va' pre.length vc') (.slice (some ⟨g, 0, none⟩) (pre.length + 1) cap)) := ⟨hown4, hgr4, hsn4⟩
      clear hown4 hgr4 hsn4 hcl b4
      refine wpAnyIn_take (i := 7) (oi := ⟨some 15, _, _, _, _, _⟩) (v := ?_) rfl rfl (by kernel_rfl) (by kernel_rfl) (by kernel_rfl) (fun _ _ _ h => h) ⟨Or.inl ⟨by rfl, ?_⟩, fun _ => rfl⟩ ?_
      rotate_left
      · (intro w; go_simp; try (with_reducible rfl))
      (try dsimp only); (try simp only [Act.put, List.setIfInBounds_toArray, List.set_cons_zero, List.set_cons_succ])
      refine wpAnyIn_take (i := 9) (oi := ⟨some 16, _, _, _, _, _⟩) (v := ?_) rfl rfl (by kernel_rfl) (by kernel_rfl) (by kernel_rfl) (fun _ _ _ h => h) ⟨Or.inl ⟨by rfl, ?_⟩, fun _ => rfl⟩ ?_
      rotate_left
      · (intro w; go_simp; try (with_reducible rfl))
      (try dsimp only); (try simp only [Act.put, List.setIfInBounds_toArray, List.set_cons_zero, List.set_cons_succ])
      refine wpAnyIn_ready (rs := [8, 10]) (by kernel_rfl) (by simp) ?_
      refine AllReadyIn.cons (o := ⟨none, _, _, _, _, _⟩) rfl (fun K hK => ?_) (AllReadyIn.cons (o := ⟨none, _, _, _, _, _⟩) rfl (fun K hK => ?_) AllReadyIn.nil)
      · go_simp
        refine hK _ _ ?_
        clear hK K
        (try dsimp only); (try simp only [Act.put, List.setIfInBounds_toArray, List.set_cons_zero, List.set_cons_succ])
        refine wpAnyIn_ready (rs := [10]) (by kernel_rfl) (by simp) ?_
        refine AllReadyIn.cons (o := ⟨none, _, _, _, _, _⟩) rfl (fun K hK => ?_) AllReadyIn.nil
        · go_simp
          refine hK _ _ ?_
          clear hK K
          (try dsimp only); (try simp only [Act.put, List.setIfInBounds_toArray, List.set_cons_zero, List.set_cons_succ])
          refine wpAnyIn_done (by kernel_rfl) ?_ _
          simp only [Exit.inBlock]
          have hend := lst_end (N := w.heap.size) (s := x) _ HI.out (by omega) (by omega) (by omega) H4.out.1 H4.out.2.1 H4.out.2.2 hg4
          have hz4 : w.heap.size + 2 ≤ w4.heap.size := by have := H4.out.2.1.size; simp at this; omega
          exact ⟨hend.1 _, hend.2.1, hend.2.2, by simp; exact hz4⟩
      · go_simp
        refine hK _ _ ?_
        clear hK K
        (try dsimp only); (try simp only [Act.put, List.setIfInBounds_toArray, List.set_cons_zero, List.set_cons_succ])
        refine wpAnyIn_ready (rs := [8]) (by kernel_rfl) (by simp) ?_
        refine AllReadyIn.cons (o := ⟨none, _, _, _, _, _⟩) rfl (fun K hK => ?_) AllReadyIn.nil
        · go_simp
          refine hK _ _ ?_
          clear hK K
          (try dsimp only); (try simp only [Act.put, List.setIfInBounds_toArray, List.set_cons_zero, List.set_cons_succ])
          refine wpAnyIn_done (by kernel_rfl) ?_ _
          simp only [Exit.inBlock]
          have hend := lst_end (N := w.heap.size) (s := x) _ HI.out (by omega) (by omega) (by omega) H4.out.1 H4.out.2.1 H4.out.2.2 hg4
          have hz4 : w.heap.size + 2 ≤ w4.heap.size := by have := H4.out.2.1.size; simp at this; omega
          rw [set_comm _ ⟨w.heap.size + 1, 2, none⟩ _ _ _ hVg, set_comm _ ⟨w.heap.size + 1, 2, none⟩ _ _ _ hVg, set_comm _ ⟨w.heap.size + 1, 2, none⟩ _ _ _ hVg]
          exact ⟨hend.1 _, hend.2.1, hend.2.2, by simp; exact hz4⟩
  case done =>
    rintro D xs W hD rfl ⟨⟨va, vc, ps, hi⟩, hz⟩ hK
    have HI : Hid (LI (w.heap.size + 1 + 1) (w.heap.size + 1) w9 W (xs.map txtI) xs.length va vc ps) := hi
    have a0 := hi.bA.cell 0
    have a1 := hi.bA.cell 1
    have a2 := hi.bA.cell 2
    have bR : Bk W w.heap.size #[.bool false, .string ⟨#[]⟩, .slice none 0 0] 70 := hi.kb.bk HB.out.2 (by omega) (by omega)
    have lR := bR.lt
    have r0 := bR.cell 0
    have r1 := bR.cell 1
    have r2 := bR.cell 2
    have rf0 := bR.frozen 0
    have rf1 := bR.frozen 1
    have rf2 := bR.frozen 2
    simp only [List.getElem?_toArray, List.getElem?_cons_zero, List.getElem?_cons_succ] at a0 a1 a2 r0 r1 r2
    have HR : Hid (Bk W w.heap.size #[.bool false, .string ⟨#[]⟩, .slice none 0 0] 70) := bR
    clear hi bR h0 bA
    gi_wp2
    have hK3 : (((W.setCell ⟨w.heap.size, 0, none⟩ (.bool true)).setCell ⟨w.heap.size, 1, none⟩ (.string ⟨#[]⟩)).setCell ⟨w.heap.size, 2, none⟩ (.slice va xs.length vc)).heap[D]? = some (.deferred (some [])) := (Below.heap_setCell _ _ _ D (by show D ≠ w.heap.size; omega)).trans ((Below.heap_setCell _ _ _ D (by show D ≠ w.heap.size; omega)).trans ((Below.heap_setCell _ _ _ D (by show D ≠ w.heap.size; omega)).trans hK))
    refine ⟨by simp, .inl ⟨_, _, rfl, run_takeDeferred hK3, ?_⟩⟩
    have bQ := bk_put (x' := .deferred none) (((HR.out.set 0 (.bool true) rfl).set 1 (.string ⟨#[]⟩) rfl).set 2 (.slice va xs.length vc) rfl) hK3 rfl
    have s0 := bQ.cell 0
    have s1 := bQ.cell 1
    have s2 := bQ.cell 2
    simp at s0 s1 s2
    have hBl := (((HI.out.bl.setOther (r := w.heap.size) (by omega) 0 (.bool true)).setOther (r := w.heap.size) (by omega) 1 (.string ⟨#[]⟩)).setOther (r := w.heap.size) (by omega) 2 (.slice va xs.length vc)).put (o' := .deferred none) hK3 rfl
    have he1 := HI.out.e1
    rw [List.take_of_length_le (by simp)] at he1
    have hbW : Below w.heap.size w W := HB.out.1.trans (HI.out.kb.hb.mono (by omega))
    refine ⟨.agg #[.bool true, .string ⟨#[]⟩, .slice va xs.length vc], ?_, ⟨va, vc, ps, rfl, he1, hBl⟩, (((hbW.setCell (p := ⟨w.heap.size, 0, none⟩) (Nat.le_refl _) _).setCell (p := ⟨w.heap.size, 1, none⟩) (Nat.le_refl _) _).setCell (p := ⟨w.heap.size, 2, none⟩) (Nat.le_refl _) _).trans (below_put _ _ (by omega))⟩
    simp [results, Try.f51, go_sem, s0, s1, s2]
  case stop =>
    rintro D c pre W hD _ hf hK
    exact hf.elim
end Go.Proofs.Ytapjonmgjccpbaa
end
section
set_option linter.unusedSimpArgs false
set_option linter.unusedVariables false
namespace Go.Proofs.Ytapjonmgjccpbaa
open Go.RowKit

/-! An array of seven numbers, told by its index. -/
abbrev A28 (a b c d e f g : Nat) : Array Value := #[.int .u64 (lb a 0), .int .u64 (lb a 1), .int .u64 (lb a 2), .int .u64 (lb a 3), .int .u64 (lb b 0), .int .u64 (lb b 1), .int .u64 (lb b 2), .int .u64 (lb b 3),
  .int .u64 (lb c 0), .int .u64 (lb c 1), .int .u64 (lb c 2), .int .u64 (lb c 3), .int .u64 (lb d 0), .int .u64 (lb d 1), .int .u64 (lb d 2), .int .u64 (lb d 3), .int .u64 (lb e 0), .int .u64 (lb e 1), .int .u64 (lb e 2), .int .u64 (lb e 3),
  .int .u64 (lb f 0), .int .u64 (lb f 1), .int .u64 (lb f 2), .int .u64 (lb f 3), .int .u64 (lb g 0), .int .u64 (lb g 1), .int .u64 (lb g 2), .int .u64 (lb g 3)]
theorem ix7_0 (a b c d e f g : Nat) (w : World) : (Instr.index 128 (.agg (A28 a b c d e f g)) (.int .i64 0)).run Try.prog w = .ok (V a) w := by
  simp [Instr.index, run_underlying Try.underlying128, asIntOf, go_sem]
theorem ix7_1 (a b c d e f g : Nat) (w : World) : (Instr.index 128 (.agg (A28 a b c d e f g)) (.int .i64 1)).run Try.prog w = .ok (V b) w := by
  simp [Instr.index, run_underlying Try.underlying128, asIntOf, go_sem]
theorem ix7_2 (a b c d e f g : Nat) (w : World) : (Instr.index 128 (.agg (A28 a b c d e f g)) (.int .i64 2)).run Try.prog w = .ok (V c) w := by
  simp [Instr.index, run_underlying Try.underlying128, asIntOf, go_sem]
theorem ix7_3 (a b c d e f g : Nat) (w : World) : (Instr.index 128 (.agg (A28 a b c d e f g)) (.int .i64 3)).run Try.prog w = .ok (V d) w := by
  simp [Instr.index, run_underlying Try.underlying128, asIntOf, go_sem]
theorem ix7_4 (a b c d e f g : Nat) (w : World) : (Instr.index 128 (.agg (A28 a b c d e f g)) (.int .i64 4)).run Try.prog w = .ok (V e) w := by
  simp [Instr.index, run_underlying Try.underlying128, asIntOf, go_sem]
theorem ix7_5 (a b c d e f g : Nat) (w : World) : (Instr.index 128 (.agg (A28 a b c d e f g)) (.int .i64 5)).run Try.prog w = .ok (V f) w := by
  simp [Instr.index, run_underlying Try.underlying128, asIntOf, go_sem]
theorem ix7_6 (a b c d e f g : Nat) (w : World) : (Instr.index 128 (.agg (A28 a b c d e f g)) (.int .i64 6)).run Try.prog w = .ok (V g) w := by
  simp [Instr.index, run_underlying Try.underlying128, asIntOf, go_sem]
end Go.Proofs.Ytapjonmgjccpbaa
end

import Derived.Test.YtapjonmgjccpbaaJ9
import Derived.Scope
set_option linter.unusedSimpArgs false
set_option linter.unusedVariables false
namespace Go.Proofs.Ytapjonmgjccpbaa
open Go.RowKit Go.Shelf
attribute [local go_sem] Oper.semAt_some

/-! item.takeAll by contract. -/
set_option maxRecDepth 100000 in
set_option maxHeartbeats 2000000 in
theorem takeAll (r d : Nat) (IH : TkS r) (hd : d + r = 16) (s : ByteArray) (hs : s.size ≤ 1099511627776) (w : World) :
    Calls Try.prog 114 #[.string s, .int .i64 (d : Int)] w (TaQ r s w) := by
  have HIH : Hid (TkS r) := IH
  have Hs : Hid (s.size ≤ 1099511627776) := hs
  clear IH hs
  refine (callsIn_wide (n := 6)).1 ?_
  refine callsIn_of_wp_marks Try.func114 rfl trivial ?_ rfl
  simp only [Try.ntmps114, List.size_toArray, List.length_cons, List.length_nil, Nat.reduceAdd, Nat.reduceSub, Array.replicate_succ, Array.replicate_zero, List.push_toArray, List.append_toArray, List.nil_append, List.cons_append]
  gi_wp2
  refine wpIn_wide.2 (wp_scope_straight ((wpIn_wide (n := 6)).1 ?_))
  gi_wp2
  refine wpIn_label ?_
  gi_wp2_with (refine ⟨trivial, ?_⟩; gi_at_call 125; refine (callsIn_wide.2 (parts_any s d _)).mono ?_; rintro e w' ⟨rfl, rfl⟩)
  /- from here on by gen/tka.py -/
  have bS : Bk ((((w.alloc (.cells #[.slice none 0 0] 68)).alloc (.cells #[.int .i64 0] 33)).alloc (.cells #[.string s] 9)).alloc (.cells #[.int .i64 (d : Int)] 3)) (w.heap.size + 1 + 1) #[.string s] 9 := (Bk.new' _ _ _ (by simp)).alloc _
  have bD : Bk ((((w.alloc (.cells #[.slice none 0 0] 68)).alloc (.cells #[.int .i64 0] 33)).alloc (.cells #[.string s] 9)).alloc (.cells #[.int .i64 (d : Int)] 3)) (w.heap.size + 1 + 1 + 1) #[.int .i64 (d : Int)] 3 := Bk.new' _ _ _ (by simp)
  have h0 : TI w ((((w.alloc (.cells #[.slice none 0 0] 68)).alloc (.cells #[.int .i64 0] 33)).alloc (.cells #[.string s] 9)).alloc (.cells #[.int .i64 (d : Int)] 3)) r [] := ⟨⟨none, 0, (((Bk.new w _ _).alloc _).alloc _).alloc _, Bld.nil _ _ _⟩, ((Bk.new' _ _ _ (by simp)).alloc _).alloc _, fun x hx => (by cases hx), ((((Below.refl _ w).alloc (Nat.le_refl _) _).alloc (by simp) _).alloc (by simp <;> omega) _).alloc (by simp <;> omega) _, by simp⟩
  have hz9 : ((((w.alloc (.cells #[.slice none 0 0] 68)).alloc (.cells #[.int .i64 0] 33)).alloc (.cells #[.string s] 9)).alloc (.cells #[.int .i64 (d : Int)] 3)).heap.size = w.heap.size + 4 := by simp
  generalize ((((w.alloc (.cells #[.slice none 0 0] 68)).alloc (.cells #[.int .i64 0] 33)).alloc (.cells #[.string s] 9)).alloc (.cells #[.int .i64 (d : Int)] 3)) = w9 at bS bD h0 hz9 ⊢
  refine wpIn_rangeA rfl (by omega) (gf := 130) (lb := #[.pointer (some ⟨w.heap.size + 1 + 1, 0, none⟩), .pointer (some ⟨w.heap.size + 1 + 1 + 1, 0, none⟩)]) rfl trivial (enters_of Try.func130 rfl rfl)
    (parts_seq _ r d HIH.out hd s Hs.out (w.heap.size + 4) (w.heap.size + 1 + 1) (w.heap.size + 1 + 1 + 1) w.heap.size (w.heap.size + 1) (by omega) w9 bS bD ⟨by omega, by omega, by omega⟩ ⟨by omega, by omega, by omega⟩) KpL.trans (fun W l o o' _ h hc b vs t _ _ _ hb => bk_put hb h hc) (Below.refl _ _) (fun _ => rfl)
    (fun pre W => TI w W r pre) (fun c pre W => c = .exit 0 ∧ TXa w W ∧ ∃ (ys : List PX) (z : PX), pre = ys ++ [z] ∧ z.e ≠ 0) (fun s A B h hb => h.below hb) (fun c s A B h hb => ⟨h.1, h.2.1.below hb, h.2.2⟩) (fun s A l o o' hl h hc hi => hi.put (by omega) h hc) (fun c s A l o o' hl h hc hi => ⟨hi.1, hi.2.1.put (by omega) h hc, hi.2.2⟩) h0
    (fun x a' W => ∃ X B, a' = { tmps := #[.string s, .int .i64 (d : Int), undef, undef, .slice none 0 0, .int .i64 0, .pointer (some ⟨w.heap.size, 0, none⟩), .pointer (some ⟨w.heap.size + 1, 0, none⟩), .pointer (some ⟨X, 0, none⟩), .int .i64 (x.e : Int), .string s, .int .i64 (d : Int), .func (.func 130) #[] #[.pointer (some ⟨w.heap.size + 1 + 1, 0, none⟩), .pointer (some ⟨w.heap.size + 1 + 1 + 1, 0, none⟩)], .agg #[.bool x.it.list, .string x.it.text, .slice x.ad x.l x.c], .int .i64 (x.e : Int), undef, undef, undef, undef, undef, undef, undef, undef, undef, undef, undef, undef, undef], defers := [] } ∧ TAx w W r x X B)
    (fun x a' A l o o' _ h hc hx => by obtain ⟨X, B, h1, h2⟩ := hx; exact ⟨X, B, h1, h2.put h hc⟩) ?assign ?body ?done ?stop
  case assign =>
    intro l pre x A0 W K hi0 hbA hgd hi hK
    simp only [penc]
    gi_wp2
    refine hK _ _ (kf_below ((Below.refl _ W).alloc (Nat.le_refl _) _)) (fun b vs t _ _ _ hb => hb.alloc _) (hi.below ((Below.refl _ W).alloc (Nat.le_refl _) _)) ⟨W.heap.size, A0.heap.size, rfl, ?_⟩
    exact TAx.mk' hi0 hbA hgd Hs.out
  case body =>
    rintro l pre x a' W hi ⟨X, B, rfl, hax⟩
    by_cases he : x.e = 0
    · obtain ⟨⟨va, vc, bV, hBl⟩, bF, hok, hbel, hsz⟩ := id hi
      obtain ⟨va', n', vc', bV', hn40, hkB⟩ := hax.old
      obtain ⟨rfl, rfl, rfl⟩ : va' = va ∧ n' = pre.length ∧ vc' = vc := by
        have e := (show W.heap[w.heap.size]? = _ from bV').symm.trans bV
        simpa using e
      have v0 := bV.cell 0
      have vf0 := bV.frozen 0
      simp only [List.getElem?_toArray, List.getElem?_cons_zero] at v0
      obtain ⟨x0, x1, x2⟩ := box_cells hax.bX
      have he' : ((x.e : Int) == 0) = true := by rw [beq_iff_eq]; omega
      have HI : Hid (TI w W r pre) := hi
      have HBl : Hid (Bld W (w.heap.size + 4) (r + 2) (.slice va' pre.length vc') (pxs pre)) := hBl
      have HV : Hid (Bk W w.heap.size #[.slice va' pre.length vc'] 68) := bV
      have HAx : Hid (TAx w W r x X B ∧ (∀ k, (Value.slice va' pre.length vc').ownBlock = some k → k < B ∧ k ≠ X) ∧ x.e = 0) := ⟨hax, hkB, he⟩
      have lX := hax.bX.lt
      have lV := bV.lt
      obtain ⟨j0, hj, hz0, hz1, hz2⟩ := info_of infoI
      have HJ : Hid (Try.prog.info? 70 = some j0 ∧ j0.zero = some (.agg #[.bool false, .string ⟨#[]⟩, .slice none 0 0]) ∧ j0.size = 3 ∧ j0.bytes = 48) := ⟨hj, hz0, hz1, hz2⟩
      clear hj hz0 hz1 hz2 hi hax hBl bV bV' bF hok hbel hkB he
      gi_wp2
      refine wpIn_region_any (by kernel_rfl) ?_
      (try (change wpAnyIn _ _ _ _ _ _ _ _ _ (World.drew _)))
      refine (@id (?T → _) (fun key => ?main)) ?pf
      case main =>
        refine wpAnyIn_ready (rs := [0, 1, 3]) (by kernel_rfl) (by simp) ?_
        refine AllReadyIn.cons rfl (fun K hK => ?_) (AllReadyIn.cons rfl (fun K hK => ?_) (AllReadyIn.cons rfl (fun K hK => ?_) AllReadyIn.nil))
        · go_simp
          refine hK _ _ ?_
          clear hK K
          (try dsimp only); (try simp only [Act.put, List.setIfInBounds_toArray, List.set_cons_zero, List.set_cons_succ])
          refine wpAnyIn_ready (rs := [1, 2, 3]) (by kernel_rfl) (by simp) ?_
          refine AllReadyIn.cons rfl (fun K hK => ?_) (AllReadyIn.cons rfl (fun K hK => ?_) (AllReadyIn.cons rfl (fun K hK => ?_) AllReadyIn.nil))
          · go_simp
            refine hK _ _ ?_
            clear hK K
            (try dsimp only); (try simp only [Act.put, List.setIfInBounds_toArray, List.set_cons_zero, List.set_cons_succ])
            refine wpAnyIn_ready (rs := [2, 3]) (by kernel_rfl) (by simp) ?_
            refine AllReadyIn.cons rfl (fun K hK => ?_) (AllReadyIn.cons rfl (fun K hK => ?_) AllReadyIn.nil)
            · go_simp
              refine hK _ _ ?_
              clear hK K
              (try dsimp only); (try simp only [Act.put, List.setIfInBounds_toArray, List.set_cons_zero, List.set_cons_succ])
              refine wpAnyIn_ready (rs := [3]) (by kernel_rfl) (by simp) ?_
              refine AllReadyIn.cons rfl (fun K hK => ?_) AllReadyIn.nil
              · go_simp
                refine hK _ _ ?_
                clear hK K
                (try dsimp only); (try simp only [Act.put, List.setIfInBounds_toArray, List.set_cons_zero, List.set_cons_succ])
                exact key
            · go_simp
              refine hK _ _ ?_
              clear hK K
              (try dsimp only); (try simp only [Act.put, List.setIfInBounds_toArray, List.set_cons_zero, List.set_cons_succ])
              refine wpAnyIn_ready (rs := [2]) (by kernel_rfl) (by simp) ?_
              refine AllReadyIn.cons rfl (fun K hK => ?_) AllReadyIn.nil
              · go_simp
                refine hK _ _ ?_
                clear hK K
                (try dsimp only); (try simp only [Act.put, List.setIfInBounds_toArray, List.set_cons_zero, List.set_cons_succ])
                exact key
          · go_simp
            refine hK _ _ ?_
            clear hK K
            (try dsimp only); (try simp only [Act.put, List.setIfInBounds_toArray, List.set_cons_zero, List.set_cons_succ])
            refine wpAnyIn_ready (rs := [1, 3]) (by kernel_rfl) (by simp) ?_
            refine AllReadyIn.cons rfl (fun K hK => ?_) (AllReadyIn.cons rfl (fun K hK => ?_) AllReadyIn.nil)
            · go_simp
              refine hK _ _ ?_
              clear hK K
              (try dsimp only); (try simp only [Act.put, List.setIfInBounds_toArray, List.set_cons_zero, List.set_cons_succ])
              refine wpAnyIn_ready (rs := [3]) (by kernel_rfl) (by simp) ?_
              refine AllReadyIn.cons rfl (fun K hK => ?_) AllReadyIn.nil
              · go_simp
                refine hK _ _ ?_
                clear hK K
                (try dsimp only); (try simp only [Act.put, List.setIfInBounds_toArray, List.set_cons_zero, List.set_cons_succ])
                exact key
            · go_simp
              refine hK _ _ ?_
              clear hK K
              (try dsimp only); (try simp only [Act.put, List.setIfInBounds_toArray, List.set_cons_zero, List.set_cons_succ])
              refine wpAnyIn_ready (rs := [1]) (by kernel_rfl) (by simp) ?_
              refine AllReadyIn.cons rfl (fun K hK => ?_) AllReadyIn.nil
              · go_simp
                refine hK _ _ ?_
                clear hK K
                (try dsimp only); (try simp only [Act.put, List.setIfInBounds_toArray, List.set_cons_zero, List.set_cons_succ])
                exact key
          · go_simp
            refine hK _ _ ?_
            clear hK K
            (try dsimp only); (try simp only [Act.put, List.setIfInBounds_toArray, List.set_cons_zero, List.set_cons_succ])
            refine wpAnyIn_ready (rs := [1, 2]) (by kernel_rfl) (by simp) ?_
            refine AllReadyIn.cons rfl (fun K hK => ?_) (AllReadyIn.cons rfl (fun K hK => ?_) AllReadyIn.nil)
            · go_simp
              refine hK _ _ ?_
              clear hK K
              (try dsimp only); (try simp only [Act.put, List.setIfInBounds_toArray, List.set_cons_zero, List.set_cons_succ])
              refine wpAnyIn_ready (rs := [2]) (by kernel_rfl) (by simp) ?_
              refine AllReadyIn.cons rfl (fun K hK => ?_) AllReadyIn.nil
              · go_simp
                refine hK _ _ ?_
                clear hK K
                (try dsimp only); (try simp only [Act.put, List.setIfInBounds_toArray, List.set_cons_zero, List.set_cons_succ])
                exact key
            · go_simp
              refine hK _ _ ?_
              clear hK K
              (try dsimp only); (try simp only [Act.put, List.setIfInBounds_toArray, List.set_cons_zero, List.set_cons_succ])
              refine wpAnyIn_ready (rs := [1]) (by kernel_rfl) (by simp) ?_
              refine AllReadyIn.cons rfl (fun K hK => ?_) AllReadyIn.nil
              · go_simp
                refine hK _ _ ?_
                clear hK K
                (try dsimp only); (try simp only [Act.put, List.setIfInBounds_toArray, List.set_cons_zero, List.set_cons_succ])
                exact key
        · go_simp
          refine hK _ _ ?_
          clear hK K
          (try dsimp only); (try simp only [Act.put, List.setIfInBounds_toArray, List.set_cons_zero, List.set_cons_succ])
          refine wpAnyIn_ready (rs := [0, 3]) (by kernel_rfl) (by simp) ?_
          refine AllReadyIn.cons rfl (fun K hK => ?_) (AllReadyIn.cons rfl (fun K hK => ?_) AllReadyIn.nil)
          · go_simp
            refine hK _ _ ?_
            clear hK K
            (try dsimp only); (try simp only [Act.put, List.setIfInBounds_toArray, List.set_cons_zero, List.set_cons_succ])
            refine wpAnyIn_ready (rs := [2, 3]) (by kernel_rfl) (by simp) ?_
            refine AllReadyIn.cons rfl (fun K hK => ?_) (AllReadyIn.cons rfl (fun K hK => ?_) AllReadyIn.nil)
            · go_simp
              refine hK _ _ ?_
              clear hK K
              (try dsimp only); (try simp only [Act.put, List.setIfInBounds_toArray, List.set_cons_zero, List.set_cons_succ])
              refine wpAnyIn_ready (rs := [3]) (by kernel_rfl) (by simp) ?_
              refine AllReadyIn.cons rfl (fun K hK => ?_) AllReadyIn.nil
              · go_simp
                refine hK _ _ ?_
                clear hK K
                (try dsimp only); (try simp only [Act.put, List.setIfInBounds_toArray, List.set_cons_zero, List.set_cons_succ])
                exact key
            · go_simp
              refine hK _ _ ?_
              clear hK K
              (try dsimp only); (try simp only [Act.put, List.setIfInBounds_toArray, List.set_cons_zero, List.set_cons_succ])
              refine wpAnyIn_ready (rs := [2]) (by kernel_rfl) (by simp) ?_
              refine AllReadyIn.cons rfl (fun K hK => ?_) AllReadyIn.nil
              · go_simp
                refine hK _ _ ?_
                clear hK K
                (try dsimp only); (try simp only [Act.put, List.setIfInBounds_toArray, List.set_cons_zero, List.set_cons_succ])
                exact key
          · go_simp
            refine hK _ _ ?_
            clear hK K
            (try dsimp only); (try simp only [Act.put, List.setIfInBounds_toArray, List.set_cons_zero, List.set_cons_succ])
            refine wpAnyIn_ready (rs := [0]) (by kernel_rfl) (by simp) ?_
            refine AllReadyIn.cons rfl (fun K hK => ?_) AllReadyIn.nil
            · go_simp
              refine hK _ _ ?_
              clear hK K
              (try dsimp only); (try simp only [Act.put, List.setIfInBounds_toArray, List.set_cons_zero, List.set_cons_succ])
              refine wpAnyIn_ready (rs := [2]) (by kernel_rfl) (by simp) ?_
              refine AllReadyIn.cons rfl (fun K hK => ?_) AllReadyIn.nil
              · go_simp
                refine hK _ _ ?_
                clear hK K
                (try dsimp only); (try simp only [Act.put, List.setIfInBounds_toArray, List.set_cons_zero, List.set_cons_succ])
                exact key
        · go_simp
          refine hK _ _ ?_
          clear hK K
          (try dsimp only); (try simp only [Act.put, List.setIfInBounds_toArray, List.set_cons_zero, List.set_cons_succ])
          refine wpAnyIn_ready (rs := [0, 1]) (by kernel_rfl) (by simp) ?_
          refine AllReadyIn.cons rfl (fun K hK => ?_) (AllReadyIn.cons rfl (fun K hK => ?_) AllReadyIn.nil)
          · go_simp
            refine hK _ _ ?_
            clear hK K
            (try dsimp only); (try simp only [Act.put, List.setIfInBounds_toArray, List.set_cons_zero, List.set_cons_succ])
            refine wpAnyIn_ready (rs := [1, 2]) (by kernel_rfl) (by simp) ?_
            refine AllReadyIn.cons rfl (fun K hK => ?_) (AllReadyIn.cons rfl (fun K hK => ?_) AllReadyIn.nil)
            · go_simp
              refine hK _ _ ?_
              clear hK K
              (try dsimp only); (try simp only [Act.put, List.setIfInBounds_toArray, List.set_cons_zero, List.set_cons_succ])
              refine wpAnyIn_ready (rs := [2]) (by kernel_rfl) (by simp) ?_
              refine AllReadyIn.cons rfl (fun K hK => ?_) AllReadyIn.nil
              · go_simp
                refine hK _ _ ?_
                clear hK K
                (try dsimp only); (try simp only [Act.put, List.setIfInBounds_toArray, List.set_cons_zero, List.set_cons_succ])
                exact key
            · go_simp
              refine hK _ _ ?_
              clear hK K
              (try dsimp only); (try simp only [Act.put, List.setIfInBounds_toArray, List.set_cons_zero, List.set_cons_succ])
              refine wpAnyIn_ready (rs := [1]) (by kernel_rfl) (by simp) ?_
              refine AllReadyIn.cons rfl (fun K hK => ?_) AllReadyIn.nil
              · go_simp
                refine hK _ _ ?_
                clear hK K
                (try dsimp only); (try simp only [Act.put, List.setIfInBounds_toArray, List.set_cons_zero, List.set_cons_succ])
                exact key
          · go_simp
            refine hK _ _ ?_
            clear hK K
            (try dsimp only); (try simp only [Act.put, List.setIfInBounds_toArray, List.set_cons_zero, List.set_cons_succ])
            refine wpAnyIn_ready (rs := [0]) (by kernel_rfl) (by simp) ?_
            refine AllReadyIn.cons rfl (fun K hK => ?_) AllReadyIn.nil
            · go_simp
              refine hK _ _ ?_
              clear hK K
              (try dsimp only); (try simp only [Act.put, List.setIfInBounds_toArray, List.set_cons_zero, List.set_cons_succ])
              refine wpAnyIn_ready (rs := [2]) (by kernel_rfl) (by simp) ?_
              refine AllReadyIn.cons rfl (fun K hK => ?_) AllReadyIn.nil
              · go_simp
                refine hK _ _ ?_
                clear hK K
                (try dsimp only); (try simp only [Act.put, List.setIfInBounds_toArray, List.set_cons_zero, List.set_cons_succ])
                exact key
      case pf =>
        refine wpAnyIn_ready (rs := [4]) (by kernel_rfl) (by simp) ?_
        refine AllReadyIn.cons rfl (fun K hK => ?_) AllReadyIn.nil
        · (refine stepIn_append_src rfl _ _ 68 68 rfl (w.heap.size + 4) 70 j0 (.agg #[.bool false, .string ⟨#[]⟩, .slice none 0 0]) 3 48 Try.underlying68 HJ.out.1 HJ.out.2.1 HJ.out.2.2.1 HJ.out.2.2.2 rfl (.slice va' pre.length vc') (.slice (some ⟨W.heap.size, 0, none⟩) 1 1) pre.length (icells (pxs pre)) 1 [.bool false, .string ⟨#[]⟩, .slice none 0 0] rfl rfl (by have h := (HBl.out.below ((Below.refl _ W).drew)).row; rw [show (pxs pre).length = pre.length by simp [pxs]] at h; exact h.alloc _) (one_src (Bk.new W.drew _ _) rfl rfl rfl) (by unfold maxLen; omega) (by omega) (by have := HI.out.sz; simp; omega) (by omega) (pre.length + 1) rfl ?_; intro g cap w4 hown4 hgr4 hsn4 hlt4 hg4)
          refine hK _ _ ?_
          clear hK K
          (try dsimp only); (try simp only [Act.put, List.setIfInBounds_toArray, List.set_cons_zero, List.set_cons_succ])
          have hpl : (pxs pre).length = pre.length := by simp [pxs]
          have hcl := icells_length (pxs pre)
          rw [hpl] at hcl
          have k0 : w4.cell? ⟨g, pre.length * 3, none⟩ = some (.bool false) := (World.ownsRow.cellAt hown4 (pre.length * 3) (by omega)).trans (by rw [List.getElem?_append_right (by omega), hcl]; simp)
          have k1 : w4.cell? ⟨g, pre.length * 3 + 1, none⟩ = some (.string ⟨#[]⟩) := (World.ownsRow.cellAt hown4 (pre.length * 3 + 1) (by omega)).trans (by rw [List.getElem?_append_right (by omega), hcl]; simp)
          have k2 : w4.cell? ⟨g, pre.length * 3 + 2, none⟩ = some (.slice none 0 0) := (World.ownsRow.cellAt hown4 (pre.length * 3 + 2) (by omega)).trans (by rw [List.getElem?_append_right (by omega), hcl]; simp)
          have q0 := World.ownsRow.frozenAt hown4 (pre.length * 3)
          have q1 := World.ownsRow.frozenAt hown4 (pre.length * 3 + 1)
          have q2 := World.ownsRow.frozenAt hown4 (pre.length * 3 + 2)
          have b4 := bk_grown (HV.out.drew.alloc (.cells #[.bool false, .string ⟨#[]⟩, .slice none 0 0] 70)) hgr4 (fun k hk => by have := (HBl.out.row.lt k hk).1; omega)
          have v4 := b4.cell 0
          have vf4 := b4.frozen 0
          simp only [List.getElem?_toArray, List.getElem?_cons_zero] at v4
          have lV4 := b4.lt
          have hgV : ¬ g = w.heap.size := by omega
          have hVg : ¬ w.heap.size = g := by omega
          have hidx : (pre.length : Int) < (pre.length : Int) + 1 := by omega
          have H4 : Hid (w4.ownsRow (w.heap.size + 4) 70 3 (.slice (some ⟨g, 0, none⟩) (pre.length + 1) cap) (pre.length + 1) (icells (pxs pre) ++ [.bool false, .string ⟨#[]⟩, .slice none 0 0]) ∧ (W.drew.alloc (.cells #[.bool false, .string ⟨#[]⟩, .slice none 0 0] 70)).grownBy w4 (Value.slice va' pre.length vc').ownBlock ∧ Sn (W.drew.alloc (.cells #[.bool false, .string ⟨#[]⟩, .slice none 0 0] 70)) (.slice va' pre.length vc') (.slice (some ⟨g, 0, none⟩) (pre.length + 1) cap)) := ⟨hown4, hgr4, hsn4⟩
          clear hown4 hgr4 hsn4 hcl hpl b4
          refine wpAnyIn_ready (rs := [5, 7]) (by kernel_rfl) (by simp) ?_
          refine AllReadyIn.cons rfl (fun K hK => ?_) (AllReadyIn.cons rfl (fun K hK => ?_) AllReadyIn.nil)
          · go_simp
            refine hK _ _ ?_
            clear hK K
            (try dsimp only); (try simp only [Act.put, List.setIfInBounds_toArray, List.set_cons_zero, List.set_cons_succ])
            refine wpAnyIn_ready (rs := [6, 7]) (by kernel_rfl) (by simp) ?_
            refine AllReadyIn.cons rfl (fun K hK => ?_) (AllReadyIn.cons rfl (fun K hK => ?_) AllReadyIn.nil)
            · go_simp
              refine hK _ _ ?_
              clear hK K
              (try dsimp only); (try simp only [Act.put, List.setIfInBounds_toArray, List.set_cons_zero, List.set_cons_succ])
              refine wpAnyIn_ready (rs := [7]) (by kernel_rfl) (by simp) ?_
              refine AllReadyIn.cons rfl (fun K hK => ?_) AllReadyIn.nil
              · go_simp
                refine hK _ _ ?_
                clear hK K
                (try dsimp only); (try simp only [Act.put, List.setIfInBounds_toArray, List.set_cons_zero, List.set_cons_succ])
                refine wpAnyIn_done (by kernel_rfl) ?_ _
                simp only [Exit.inBlock]
                have hend := ta_end va' vc' HV.out HBl.out HI.out HAx.out.2.2 HAx.out.1 HAx.out.2.1 _ H4.out.1 H4.out.2.1 H4.out.2.2 hg4
                first | exact ⟨hend.1 _, hend.2⟩ | (rw [set_comm _ ⟨w.heap.size, 0, none⟩ _ _ _ hVg, set_comm _ ⟨w.heap.size, 0, none⟩ _ _ _ hVg, set_comm _ ⟨w.heap.size, 0, none⟩ _ _ _ hVg]; exact ⟨hend.1 _, hend.2⟩)
            · go_simp
              refine hK _ _ ?_
              clear hK K
              (try dsimp only); (try simp only [Act.put, List.setIfInBounds_toArray, List.set_cons_zero, List.set_cons_succ])
              refine wpAnyIn_ready (rs := [6]) (by kernel_rfl) (by simp) ?_
              refine AllReadyIn.cons rfl (fun K hK => ?_) AllReadyIn.nil
              · go_simp
                refine hK _ _ ?_
                clear hK K
                (try dsimp only); (try simp only [Act.put, List.setIfInBounds_toArray, List.set_cons_zero, List.set_cons_succ])
                refine wpAnyIn_done (by kernel_rfl) ?_ _
                simp only [Exit.inBlock]
                have hend := ta_end va' vc' HV.out HBl.out HI.out HAx.out.2.2 HAx.out.1 HAx.out.2.1 _ H4.out.1 H4.out.2.1 H4.out.2.2 hg4
                first | exact ⟨hend.1 _, hend.2⟩ | (rw [set_comm _ ⟨w.heap.size, 0, none⟩ _ _ _ hVg, set_comm _ ⟨w.heap.size, 0, none⟩ _ _ _ hVg, set_comm _ ⟨w.heap.size, 0, none⟩ _ _ _ hVg]; exact ⟨hend.1 _, hend.2⟩)
          · go_simp
            refine hK _ _ ?_
            clear hK K
            (try dsimp only); (try simp only [Act.put, List.setIfInBounds_toArray, List.set_cons_zero, List.set_cons_succ])
            refine wpAnyIn_ready (rs := [5]) (by kernel_rfl) (by simp) ?_
            refine AllReadyIn.cons rfl (fun K hK => ?_) AllReadyIn.nil
            · go_simp
              refine hK _ _ ?_
              clear hK K
              (try dsimp only); (try simp only [Act.put, List.setIfInBounds_toArray, List.set_cons_zero, List.set_cons_succ])
              refine wpAnyIn_ready (rs := [6]) (by kernel_rfl) (by simp) ?_
              refine AllReadyIn.cons rfl (fun K hK => ?_) AllReadyIn.nil
              · go_simp
                refine hK _ _ ?_
                clear hK K
                (try dsimp only); (try simp only [Act.put, List.setIfInBounds_toArray, List.set_cons_zero, List.set_cons_succ])
                refine wpAnyIn_done (by kernel_rfl) ?_ _
                simp only [Exit.inBlock]
                have hend := ta_end va' vc' HV.out HBl.out HI.out HAx.out.2.2 HAx.out.1 HAx.out.2.1 _ H4.out.1 H4.out.2.1 H4.out.2.2 hg4
                first | exact ⟨hend.1 _, hend.2⟩ | (rw [set_comm _ ⟨w.heap.size, 0, none⟩ _ _ _ hVg, set_comm _ ⟨w.heap.size, 0, none⟩ _ _ _ hVg, set_comm _ ⟨w.heap.size, 0, none⟩ _ _ _ hVg]; exact ⟨hend.1 _, hend.2⟩)
    · have hne : ((x.e : Int) == 0) = false := by rw [beq_eq_false_iff_ne]; omega
      have f0 := hi.ft.cell 0
      have ff0 := hi.ft.frozen 0
      simp only [List.getElem?_toArray, List.getElem?_cons_zero] at f0
      have HI : Hid (TI w W r pre) := hi
      have lF := hi.ft.lt
      have HE : Hid (¬ x.e = 0) := he
      clear hi he hax
      gi_wp2
      refine ⟨(KeepsOthers.setCell _ _ _).from _, rfl, ⟨HI.out.ft.set 0 _ rfl, HI.out.bel.setCell (p := ⟨w.heap.size + 1, 0, none⟩) (by simp) _⟩, pre, x, rfl, HE.out⟩
  case done =>
    rintro D xs W hD hS hi hK
    obtain ⟨⟨va, vc, bV, hB⟩, bF, hok, hbel, hsz⟩ := hi
    have f0 := bF.cell 0
    have v0 := bV.cell 0
    simp only [List.getElem?_toArray, List.getElem?_cons_zero] at f0 v0
    obtain ⟨q, hg, hq⟩ : ∃ q, Good (tk r) s xs q ∧ s.size ≤ q := by
      rcases hS with h | ⟨_, x, hx, hne⟩
      · exact h
      · exact absurd (hok x hx) hne
    have hall := hg.1.done (tk_prog r) hq
    have hlen := hg.1.len (tk_prog r)
    have hle := hg.1.le (tk_prog r)
    simp only [List.length_map] at hlen
    have hrd := hB.rd (by simp only [pxs, List.length_map]; have := Hs.out; omega)
    have hmap : (pxs xs).map Prod.fst = xs.map PX.it := by simp [pxs]
    rw [hmap] at hrd
    have HR : Hid (tkAll (tk r) s = some (xs.map PX.it) ∧ RdP W (w.heap.size + 4 ≤ ·) (r + 2 + 1) (xs.map PX.it) (.slice va xs.length vc) ∧ Below w.heap.size w W) := ⟨hall, hrd, hbel⟩
    clear hrd hmap hall hg hS hok hB bF bV hbel hlen hle
    gi_wp2
    simp only [Exit.noGoto]
    refine ⟨by simp, .inl ⟨_, _, rfl, run_takeDeferred hK, ?_⟩⟩
    refine ⟨.tuple #[.slice va xs.length vc, .int .i64 0], ?_, .inl ⟨_, va, xs.length, vc, HR.out.1, rfl, ?_⟩, HR.out.2.2.trans (below_put _ _ (by omega))⟩
    · simp [results, Try.f114, go_sem]
    · exact (HR.out.2.1.put hK rfl).weak (fun b hb => by omega)
  case stop =>
    rintro D c pre W hD ⟨ys, z, q, e1, hg, hq, hz1, hz2⟩ ⟨rfl, hx, ys', z', e2, hne⟩ hK
    have f0 := hx.ft.cell 0
    simp only [List.getElem?_toArray, List.getElem?_cons_zero] at f0
    have hzz : z = z' := by
      have := e1.symm.trans e2
      have := congrArg List.getLast? this
      simpa using this
    have hall : tkAll (tk r) s = none := hg.1.fail (tk_prog r) hq (by rw [← hz2, hzz]; exact hne)
    have HR : Hid (tkAll (tk r) s = none ∧ Below w.heap.size w W) := ⟨hall, hx.bel⟩
    clear hall hzz hx hg hz1 hz2 e1 e2 hne
    gi_wp2
    gi_region
    all_goals
      gi_wp2
      simp only [Exit.noGoto]
      refine ⟨by simp, .inl ⟨_, _, rfl, run_takeDeferred hK, ?_⟩⟩
      refine ⟨.tuple #[.slice none 0 0, .int .i64 1], ?_, .inr ⟨HR.out.1, rfl⟩, HR.out.2.drew.trans (below_put W.drew _ (by omega))⟩
      simp [results, Try.f114, go_sem]
end Go.Proofs.Ytapjonmgjccpbaa

import Derived.Test.YtliaegnhnnnojaaEGt0
set_option linter.unusedSimpArgs false
set_option linter.unusedVariables false
set_option maxRecDepth 100000
namespace Go.Proofs.Ytliaegnhnnnojaa
open Go.RowKit Go.Shelf
attribute [local go_sem] Oper.semAt_some

/-! tarnlaw4.gather by contract. -/
theorem run_equalIn_func_nil (w : World) (d : Nat) (fn : Fn) (p q : Array Value) : (Op.equalIn (d + 1) 62 (Value.func fn p q) Value.nilFunc).run Try.prog w = .ok false w := by
  simp [Op.equalIn, run_underlying Try.underlying62]
theorem run_eql_func_nil (w : World) (fn : Fn) (p q : Array Value) : (binOp BinOp.eql 62 (Value.func fn p q) Value.nilFunc).run Try.prog w = .ok (.bool false) w := by
  simp only [binOp]
  simp [Op.equal, Op.maxDepth, run_equalIn_func_nil w 9999 fn p q]
set_option maxHeartbeats 2000000 in
theorem gather4 (n m : Nat) (a : IT) (ad : Option Addr) (l c : Nat) (w : World) (hr : Rd w (n + 1) a.items (.slice ad l c)) (hw : a.wt ≤ 1048576) (hm : m ≤ 1048576) :
    Calls Try.prog 21 #[.agg #[.bool a.list, .string a.text, .slice ad l c], .int .i64 (m : Int)] w fun e w' => (∃ ad' l' c', e = .returned (.slice ad' l' c') ∧ Rd w' (n + 1) ((ysOf a).take m) (.slice ad' l' c')) ∧ Below w.heap.size w w' := by
  have HE : Hid (∀ W, Below w.heap.size w W → Calls Try.prog 37 #[.agg #[.bool a.list, .string a.text, .slice ad l c]] W (EaQ (n + 1) a W)) := fun W hW => each4 (n + 1) a ad l c W (hr.below hW) (by omega)
  have HY : Hid (IT.wts (ysOf a) ≤ 1048576) := by
    show _ ≤ _
    obtain ⟨L, t, xs⟩ := a
    have hw : 1 + t.size + IT.wts xs ≤ 1048576 := hw
    cases L
    · simp [ysOf, IT.list, IT.wts]
    · show IT.wts xs ≤ _; omega
  generalize hys : ysOf a = ys at *
  have HYs : Hid (ysOf a = ys) := hys
  clear hr hw hys
  generalize a.list = La at *
  generalize a.text = Ta at *
  refine (callsIn_wide (n := 6)).1 ?_
  refine callsIn_of_wp_marks Try.func21 rfl trivial ?_ rfl
  simp only [Try.ntmps21, List.size_toArray, List.length_cons, List.length_nil, Nat.reduceAdd, Nat.reduceSub, Array.replicate_succ, Array.replicate_zero, List.push_toArray, List.append_toArray, List.nil_append, List.cons_append]
  have hB3 : Below w.heap.size w (((w.alloc (.cells #[.bool La, .string Ta, .slice ad l c] 26)).alloc (.cells #[.int .i64 (m : Int)] 3)).alloc (.cells #[.slice none 0 0] 24)) := (((Below.refl _ w).alloc (Nat.le_refl _) _).alloc (by simp) _).alloc (by simp; omega) _
  have heq := fun w fn p q => run_eql_func_nil w fn p q
  gi_wp2_with (refine ⟨trivial, ?_⟩; gi_at_call 37; refine (callsIn_wide.2 (HE.out _ hB3)).mono ?_; rintro e w9 ⟨rfl, ⟨ad', l', c', bI, hrI⟩, hb9⟩)
  /- from here on by gen/egt.py -/
  have hz3 : (((w.alloc (.cells #[.bool La, .string Ta, .slice ad l c] 26)).alloc (.cells #[.int .i64 (m : Int)] 3)).alloc (.cells #[.slice none 0 0] 24)).heap.size = w.heap.size + 3 := by simp
  have bN3 : Bk (((w.alloc (.cells #[.bool La, .string Ta, .slice ad l c] 26)).alloc (.cells #[.int .i64 (m : Int)] 3)).alloc (.cells #[.slice none 0 0] 24)) (w.heap.size + 1) #[.int .i64 (m : Int)] 3 := (Bk.new' _ _ _ (by simp)).alloc _
  have bL3 : Bk (((w.alloc (.cells #[.bool La, .string Ta, .slice ad l c] 26)).alloc (.cells #[.int .i64 (m : Int)] 3)).alloc (.cells #[.slice none 0 0] 24)) (w.heap.size + 2) #[.slice none 0 0] 24 := Bk.new' _ _ _ (by simp)
  generalize (((w.alloc (.cells #[.bool La, .string Ta, .slice ad l c] 26)).alloc (.cells #[.int .i64 (m : Int)] 3)).alloc (.cells #[.slice none 0 0] 24)) = w3 at *
  rw [hz3] at bI hrI hb9
  rw [HYs.out] at hrI
  obtain ⟨N, hNe⟩ : ∃ N, N = w9.heap.size := ⟨_, rfl⟩
  have lI := bI.lt
  have bI : Bk w9 (w.heap.size + 1 + 1 + 1 + 1) #[.slice ad' l' c'] 24 := bI
  have hrI : RdP w9 (fun b => w.heap.size + 5 ≤ b ∧ b < N) (n + 1) ys (.slice ad' l' c') := by
    have h1 := hrI.lt
    rw [← hNe] at h1
    exact h1
  have hl' : l' = ys.length := by
    obtain ⟨_, _, _, _, e2, -, -⟩ := hrI.at
    injection e2 with _ e2 _
  subst hl'
  have hll := len_wts ys
  have hy20 : ys.length ≤ 1048576 := Nat.le_trans hll HY.out
  have h0 : GI w w9 N n m [] := ⟨⟨none, 0, bL3.below hb9 (by omega), Bld.nil _ _ _⟩, bN3.below hb9 (by omega), hB3.trans (hb9.mono (by omega)), by omega, by simp⟩
  have HN3 : Hid (w.heap.size + 3 ≤ N) := by show _ ≤ _; omega
  have hN5 : w.heap.size + 5 ≤ N := by omega
  clear bN3 bL3 hB3 hb9 hz3 HE heq lI
  refine wpIn_rangeA rfl (by omega) (gf := 47) (lb := #[.pointer (some ⟨w.heap.size + 1 + 1 + 1 + 1, 0, none⟩)]) rfl trivial (enters_of Try.func47 rfl rfl)
    (each1_seq _ n ys (w.heap.size + 1 + 1 + 1 + 1) (w.heap.size + 5) N (w.heap.size + 2) (w.heap.size + 2) ad' c' (by omega) w9 bI hrI (by omega) (by omega) (by omega) HY.out) KpL.trans (fun W l o o' _ h hc b vs t _ _ _ hb => bk_put hb h hc) (Below.refl _ _) (fun _ => rfl)
    (fun pre W => GI w W N n m pre) (fun c pre W => c = .exit 0 ∧ ∃ (zs : List EX) (z : EX), pre = zs ++ [z] ∧ zs.length = m ∧ GI w W N n m zs) (fun s A B h hb => h.below hb) (fun c s A B h hb => by obtain ⟨h1, zs, z, h2, h3, h4⟩ := h; exact ⟨h1, zs, z, h2, h3, h4.below hb⟩) (fun s A l o o' hl h hc hi => hi.put (by omega) h hc) (fun c s A l o o' hl h hc hi => by obtain ⟨h1, zs, z, h2, h3, h4⟩ := hi; exact ⟨h1, zs, z, h2, h3, h4.put (by omega) h hc⟩) h0
    (fun x a' W => ∃ X B, a' = { tmps := #[.agg #[.bool La, .string Ta, .slice ad l c], .int .i64 (m : Int), .pointer (some ⟨w.heap.size, 0, none⟩), .pointer (some ⟨w.heap.size + 1, 0, none⟩), .slice none 0 0, .pointer (some ⟨w.heap.size + 1 + 1, 0, none⟩), (.func (.func 47) #[] #[.pointer (some ⟨w.heap.size + 1 + 1 + 1 + 1, 0, none⟩)]), .pointer (some ⟨X, 0, none⟩), .agg #[.bool La, .string Ta, .slice ad l c], (.func (.func 47) #[] #[.pointer (some ⟨w.heap.size + 1 + 1 + 1 + 1, 0, none⟩)]), (.func (.func 47) #[] #[.pointer (some ⟨w.heap.size + 1 + 1 + 1 + 1, 0, none⟩)]), .bool false, (.func (.func 47) #[] #[.pointer (some ⟨w.heap.size + 1 + 1 + 1 + 1, 0, none⟩)]), .agg #[.bool x.it.list, .string x.it.text, .slice x.ad x.l x.c], undef, undef, undef, undef, undef, undef, undef, undef, undef, undef, undef], defers := [] } ∧ GAx w W N n x X B)
    (fun x a' A l o o' _ h hc hx => by obtain ⟨X, B, h1, h2⟩ := hx; exact ⟨X, B, h1, h2.put h hc⟩) ?assign ?body ?done ?stop
  case assign =>
    intro l pre x A0 W K hi0 hbA hgd hi hK
    simp only [xenc]
    gi_wp2
    refine hK _ _ (kf_below ((Below.refl _ W).alloc (Nat.le_refl _) _)) (fun b vs t _ _ _ hb => hb.alloc _) (hi.below ((Below.refl _ W).alloc (Nat.le_refl _) _)) ⟨W.heap.size, A0.heap.size, rfl, ?_⟩
    exact GAx.mk' hi0 hbA hgd hy20
  case body =>
    rintro l pre x a' W hi ⟨X, B, rfl, hax⟩
    obtain ⟨⟨va, vc, bV, hBl⟩, bN, hbel, hsz, hle⟩ := id hi
    obtain ⟨va', n', vc', bV', hn40, hkB⟩ := hax.old
    obtain ⟨rfl, rfl, rfl⟩ : va' = va ∧ n' = pre.length ∧ vc' = vc := by
      have e := (show W.heap[w.heap.size + 2]? = _ from bV').symm.trans bV
      simpa using e
    have bV : Bk W (w.heap.size + 1 + 1) #[.slice va' pre.length vc'] 24 := bV
    have v0 := bV.cell 0
    have vf0 := bV.frozen 0
    have n0 := bN.cell 0
    simp only [List.getElem?_toArray, List.getElem?_cons_zero] at v0 n0
    obtain ⟨x0, x1, x2⟩ := box_cells hax.bX
    have HI : Hid (GI w W N n m pre) := hi
    have HBl : Hid (Bld W N n (.slice va' pre.length vc') (pys pre)) := hBl
    have HV : Hid (Bk W (w.heap.size + 1 + 1) #[.slice va' pre.length vc'] 24) := bV
    have HAx : Hid (GAx w W N n x X B ∧ (∀ k, (Value.slice va' pre.length vc').ownBlock = some k → k < B ∧ k ≠ X)) := ⟨hax, hkB⟩
    have lX := hax.bX.lt
    have lV := bV.lt
    have lN := bN.lt
    obtain ⟨j0, hj, hz0, hz1, hz2⟩ := info_of infoI
    have HJ : Hid (Try.prog.info? 26 = some j0 ∧ j0.zero = some (.agg #[.bool false, .string ⟨#[]⟩, .slice none 0 0]) ∧ j0.size = 3 ∧ j0.bytes = 48) := ⟨hj, hz0, hz1, hz2⟩
    clear hj hz0 hz1 hz2 hi hax hBl bV bV' bN hbel hkB hrI bI h0
    by_cases he : pre.length = m
    · have he' : ((pre.length : Int) == (m : Int)) = true := by rw [beq_iff_eq]; omega
      gi_wp2
      exact ⟨KeepsFrom.refl _ _, rfl, pre, x, rfl, he, HI.out⟩
    · have he' : ((pre.length : Int) == (m : Int)) = false := by rw [beq_eq_false_iff_ne]; omega
      have HLm : Hid (pre.length < m) := by show _ < _; omega
      gi_wp2
      refine wpIn_region_any (by kernel_rfl) ?_
      (try (change wpAnyIn _ _ _ _ _ _ _ _ _ (World.drew _)))
      refine (@id (?T → _) (fun key => ?main)) ?pf
      case main =>
        refine wpAnyIn_ready (rs := [0, 1, 3]) (by kernel_rfl) (by simp) ?_
        refine AllReadyIn.cons rfl (fun K hK => ?_) (AllReadyIn.cons rfl (fun K hK => ?_) (AllReadyIn.cons rfl (fun K hK => ?_) AllReadyIn.nil))
        · go_simp
          refine hK _ _ ?_
          clear hK K
          (try dsimp only); (try simp only [Act.put, List.setIfInBounds_toArray, List.set_cons_zero, List.set_cons_succ])
          refine wpAnyIn_ready (rs := [1, 2, 3]) (by kernel_rfl) (by simp) ?_
          refine AllReadyIn.cons rfl (fun K hK => ?_) (AllReadyIn.cons rfl (fun K hK => ?_) (AllReadyIn.cons rfl (fun K hK => ?_) AllReadyIn.nil))
          · go_simp
            refine hK _ _ ?_
            clear hK K
            (try dsimp only); (try simp only [Act.put, List.setIfInBounds_toArray, List.set_cons_zero, List.set_cons_succ])
            refine wpAnyIn_ready (rs := [2, 3]) (by kernel_rfl) (by simp) ?_
            refine AllReadyIn.cons rfl (fun K hK => ?_) (AllReadyIn.cons rfl (fun K hK => ?_) AllReadyIn.nil)
            · go_simp
              refine hK _ _ ?_
              clear hK K
              (try dsimp only); (try simp only [Act.put, List.setIfInBounds_toArray, List.set_cons_zero, List.set_cons_succ])
              refine wpAnyIn_ready (rs := [3]) (by kernel_rfl) (by simp) ?_
              refine AllReadyIn.cons rfl (fun K hK => ?_) AllReadyIn.nil
              · go_simp
                refine hK _ _ ?_
                clear hK K
                (try dsimp only); (try simp only [Act.put, List.setIfInBounds_toArray, List.set_cons_zero, List.set_cons_succ])
                exact key
            · go_simp
              refine hK _ _ ?_
              clear hK K
              (try dsimp only); (try simp only [Act.put, List.setIfInBounds_toArray, List.set_cons_zero, List.set_cons_succ])
              refine wpAnyIn_ready (rs := [2]) (by kernel_rfl) (by simp) ?_
              refine AllReadyIn.cons rfl (fun K hK => ?_) AllReadyIn.nil
              · go_simp
                refine hK _ _ ?_
                clear hK K
                (try dsimp only); (try simp only [Act.put, List.setIfInBounds_toArray, List.set_cons_zero, List.set_cons_succ])
                exact key
          · go_simp
            refine hK _ _ ?_
            clear hK K
            (try dsimp only); (try simp only [Act.put, List.setIfInBounds_toArray, List.set_cons_zero, List.set_cons_succ])
            refine wpAnyIn_ready (rs := [1, 3]) (by kernel_rfl) (by simp) ?_
            refine AllReadyIn.cons rfl (fun K hK => ?_) (AllReadyIn.cons rfl (fun K hK => ?_) AllReadyIn.nil)
            · go_simp
              refine hK _ _ ?_
              clear hK K
              (try dsimp only); (try simp only [Act.put, List.setIfInBounds_toArray, List.set_cons_zero, List.set_cons_succ])
              refine wpAnyIn_ready (rs := [3]) (by kernel_rfl) (by simp) ?_
              refine AllReadyIn.cons rfl (fun K hK => ?_) AllReadyIn.nil
              · go_simp
                refine hK _ _ ?_
                clear hK K
                (try dsimp only); (try simp only [Act.put, List.setIfInBounds_toArray, List.set_cons_zero, List.set_cons_succ])
                exact key
            · go_simp
              refine hK _ _ ?_
              clear hK K
              (try dsimp only); (try simp only [Act.put, List.setIfInBounds_toArray, List.set_cons_zero, List.set_cons_succ])
              refine wpAnyIn_ready (rs := [1]) (by kernel_rfl) (by simp) ?_
              refine AllReadyIn.cons rfl (fun K hK => ?_) AllReadyIn.nil
              · go_simp
                refine hK _ _ ?_
                clear hK K
                (try dsimp only); (try simp only [Act.put, List.setIfInBounds_toArray, List.set_cons_zero, List.set_cons_succ])
                exact key
          · go_simp
            refine hK _ _ ?_
            clear hK K
            (try dsimp only); (try simp only [Act.put, List.setIfInBounds_toArray, List.set_cons_zero, List.set_cons_succ])
            refine wpAnyIn_ready (rs := [1, 2]) (by kernel_rfl) (by simp) ?_
            refine AllReadyIn.cons rfl (fun K hK => ?_) (AllReadyIn.cons rfl (fun K hK => ?_) AllReadyIn.nil)
            · go_simp
              refine hK _ _ ?_
              clear hK K
              (try dsimp only); (try simp only [Act.put, List.setIfInBounds_toArray, List.set_cons_zero, List.set_cons_succ])
              refine wpAnyIn_ready (rs := [2]) (by kernel_rfl) (by simp) ?_
              refine AllReadyIn.cons rfl (fun K hK => ?_) AllReadyIn.nil
              · go_simp
                refine hK _ _ ?_
                clear hK K
                (try dsimp only); (try simp only [Act.put, List.setIfInBounds_toArray, List.set_cons_zero, List.set_cons_succ])
                exact key
            · go_simp
              refine hK _ _ ?_
              clear hK K
              (try dsimp only); (try simp only [Act.put, List.setIfInBounds_toArray, List.set_cons_zero, List.set_cons_succ])
              refine wpAnyIn_ready (rs := [1]) (by kernel_rfl) (by simp) ?_
              refine AllReadyIn.cons rfl (fun K hK => ?_) AllReadyIn.nil
              · go_simp
                refine hK _ _ ?_
                clear hK K
                (try dsimp only); (try simp only [Act.put, List.setIfInBounds_toArray, List.set_cons_zero, List.set_cons_succ])
                exact key
        · go_simp
          refine hK _ _ ?_
          clear hK K
          (try dsimp only); (try simp only [Act.put, List.setIfInBounds_toArray, List.set_cons_zero, List.set_cons_succ])
          refine wpAnyIn_ready (rs := [0, 3]) (by kernel_rfl) (by simp) ?_
          refine AllReadyIn.cons rfl (fun K hK => ?_) (AllReadyIn.cons rfl (fun K hK => ?_) AllReadyIn.nil)
          · go_simp
            refine hK _ _ ?_
            clear hK K
            (try dsimp only); (try simp only [Act.put, List.setIfInBounds_toArray, List.set_cons_zero, List.set_cons_succ])
            refine wpAnyIn_ready (rs := [2, 3]) (by kernel_rfl) (by simp) ?_
            refine AllReadyIn.cons rfl (fun K hK => ?_) (AllReadyIn.cons rfl (fun K hK => ?_) AllReadyIn.nil)
            · go_simp
              refine hK _ _ ?_
              clear hK K
              (try dsimp only); (try simp only [Act.put, List.setIfInBounds_toArray, List.set_cons_zero, List.set_cons_succ])
              refine wpAnyIn_ready (rs := [3]) (by kernel_rfl) (by simp) ?_
              refine AllReadyIn.cons rfl (fun K hK => ?_) AllReadyIn.nil
              · go_simp
                refine hK _ _ ?_
                clear hK K
                (try dsimp only); (try simp only [Act.put, List.setIfInBounds_toArray, List.set_cons_zero, List.set_cons_succ])
                exact key
            · go_simp
              refine hK _ _ ?_
              clear hK K
              (try dsimp only); (try simp only [Act.put, List.setIfInBounds_toArray, List.set_cons_zero, List.set_cons_succ])
              refine wpAnyIn_ready (rs := [2]) (by kernel_rfl) (by simp) ?_
              refine AllReadyIn.cons rfl (fun K hK => ?_) AllReadyIn.nil
              · go_simp
                refine hK _ _ ?_
                clear hK K
                (try dsimp only); (try simp only [Act.put, List.setIfInBounds_toArray, List.set_cons_zero, List.set_cons_succ])
                exact key
          · go_simp
            refine hK _ _ ?_
            clear hK K
            (try dsimp only); (try simp only [Act.put, List.setIfInBounds_toArray, List.set_cons_zero, List.set_cons_succ])
            refine wpAnyIn_ready (rs := [0]) (by kernel_rfl) (by simp) ?_
            refine AllReadyIn.cons rfl (fun K hK => ?_) AllReadyIn.nil
            · go_simp
              refine hK _ _ ?_
              clear hK K
              (try dsimp only); (try simp only [Act.put, List.setIfInBounds_toArray, List.set_cons_zero, List.set_cons_succ])
              refine wpAnyIn_ready (rs := [2]) (by kernel_rfl) (by simp) ?_
              refine AllReadyIn.cons rfl (fun K hK => ?_) AllReadyIn.nil
              · go_simp
                refine hK _ _ ?_
                clear hK K
                (try dsimp only); (try simp only [Act.put, List.setIfInBounds_toArray, List.set_cons_zero, List.set_cons_succ])
                exact key
        · go_simp
          refine hK _ _ ?_
          clear hK K
          (try dsimp only); (try simp only [Act.put, List.setIfInBounds_toArray, List.set_cons_zero, List.set_cons_succ])
          refine wpAnyIn_ready (rs := [0, 1]) (by kernel_rfl) (by simp) ?_
          refine AllReadyIn.cons rfl (fun K hK => ?_) (AllReadyIn.cons rfl (fun K hK => ?_) AllReadyIn.nil)
          · go_simp
            refine hK _ _ ?_
            clear hK K
            (try dsimp only); (try simp only [Act.put, List.setIfInBounds_toArray, List.set_cons_zero, List.set_cons_succ])
            refine wpAnyIn_ready (rs := [1, 2]) (by kernel_rfl) (by simp) ?_
            refine AllReadyIn.cons rfl (fun K hK => ?_) (AllReadyIn.cons rfl (fun K hK => ?_) AllReadyIn.nil)
            · go_simp
              refine hK _ _ ?_
              clear hK K
              (try dsimp only); (try simp only [Act.put, List.setIfInBounds_toArray, List.set_cons_zero, List.set_cons_succ])
              refine wpAnyIn_ready (rs := [2]) (by kernel_rfl) (by simp) ?_
              refine AllReadyIn.cons rfl (fun K hK => ?_) AllReadyIn.nil
              · go_simp
                refine hK _ _ ?_
                clear hK K
                (try dsimp only); (try simp only [Act.put, List.setIfInBounds_toArray, List.set_cons_zero, List.set_cons_succ])
                exact key
            · go_simp
              refine hK _ _ ?_
              clear hK K
              (try dsimp only); (try simp only [Act.put, List.setIfInBounds_toArray, List.set_cons_zero, List.set_cons_succ])
              refine wpAnyIn_ready (rs := [1]) (by kernel_rfl) (by simp) ?_
              refine AllReadyIn.cons rfl (fun K hK => ?_) AllReadyIn.nil
              · go_simp
                refine hK _ _ ?_
                clear hK K
                (try dsimp only); (try simp only [Act.put, List.setIfInBounds_toArray, List.set_cons_zero, List.set_cons_succ])
                exact key
          · go_simp
            refine hK _ _ ?_
            clear hK K
            (try dsimp only); (try simp only [Act.put, List.setIfInBounds_toArray, List.set_cons_zero, List.set_cons_succ])
            refine wpAnyIn_ready (rs := [0]) (by kernel_rfl) (by simp) ?_
            refine AllReadyIn.cons rfl (fun K hK => ?_) AllReadyIn.nil
            · go_simp
              refine hK _ _ ?_
              clear hK K
              (try dsimp only); (try simp only [Act.put, List.setIfInBounds_toArray, List.set_cons_zero, List.set_cons_succ])
              refine wpAnyIn_ready (rs := [2]) (by kernel_rfl) (by simp) ?_
              refine AllReadyIn.cons rfl (fun K hK => ?_) AllReadyIn.nil
              · go_simp
                refine hK _ _ ?_
                clear hK K
                (try dsimp only); (try simp only [Act.put, List.setIfInBounds_toArray, List.set_cons_zero, List.set_cons_succ])
                exact key
      case pf =>
        refine wpAnyIn_ready (rs := [4]) (by kernel_rfl) (by simp) ?_
        refine AllReadyIn.cons rfl (fun K hK => ?_) AllReadyIn.nil
        · (refine stepIn_append_src rfl _ _ 24 24 rfl N 26 j0 (.agg #[.bool false, .string ⟨#[]⟩, .slice none 0 0]) 3 48 Try.underlying24 HJ.out.1 HJ.out.2.1 HJ.out.2.2.1 HJ.out.2.2.2 rfl (.slice va' pre.length vc') (.slice (some ⟨W.heap.size, 0, none⟩) 1 1) pre.length (icells (pys pre)) 1 [.bool false, .string ⟨#[]⟩, .slice none 0 0] rfl rfl (by have h := (HBl.out.below ((Below.refl _ W).drew)).row; rw [show (pys pre).length = pre.length by simp [pys]] at h; exact h.alloc _) (one_src (Bk.new W.drew _ _) rfl rfl rfl) (by unfold maxLen; omega) (by omega) (by have := HI.out.sz; simp; omega) (by omega) (pre.length + 1) rfl ?_; intro g cap w4 hown4 hgr4 hsn4 hlt4 hg4)
          refine hK _ _ ?_
          clear hK K
          (try dsimp only); (try simp only [Act.put, List.setIfInBounds_toArray, List.set_cons_zero, List.set_cons_succ])
          have hpl : (pys pre).length = pre.length := by simp [pys]
          have hcl := icells_length (pys pre)
          rw [hpl] at hcl
          have k0 : w4.cell? ⟨g, pre.length * 3, none⟩ = some (.bool false) := (World.ownsRow.cellAt hown4 (pre.length * 3) (by omega)).trans (by rw [List.getElem?_append_right (by omega), hcl]; simp)
          have k1 : w4.cell? ⟨g, pre.length * 3 + 1, none⟩ = some (.string ⟨#[]⟩) := (World.ownsRow.cellAt hown4 (pre.length * 3 + 1) (by omega)).trans (by rw [List.getElem?_append_right (by omega), hcl]; simp)
          have k2 : w4.cell? ⟨g, pre.length * 3 + 2, none⟩ = some (.slice none 0 0) := (World.ownsRow.cellAt hown4 (pre.length * 3 + 2) (by omega)).trans (by rw [List.getElem?_append_right (by omega), hcl]; simp)
          have q0 := World.ownsRow.frozenAt hown4 (pre.length * 3)
          have q1 := World.ownsRow.frozenAt hown4 (pre.length * 3 + 1)
          have q2 := World.ownsRow.frozenAt hown4 (pre.length * 3 + 2)
          have b4 := bk_grown (HV.out.drew.alloc (.cells #[.bool false, .string ⟨#[]⟩, .slice none 0 0] 26)) hgr4 (fun k hk => by have := (HBl.out.row.lt k hk).1; omega)
          have v4 := b4.cell 0
          have vf4 := b4.frozen 0
          simp only [List.getElem?_toArray, List.getElem?_cons_zero] at v4
          have lV4 := b4.lt
          have hgV : ¬ g = w.heap.size + 1 + 1 := by omega
          have hVg : ¬ w.heap.size + 1 + 1 = g := by omega
          have hidx : (pre.length : Int) < (pre.length : Int) + 1 := by omega
          have H4 : Hid (w4.ownsRow N 26 3 (.slice (some ⟨g, 0, none⟩) (pre.length + 1) cap) (pre.length + 1) (icells (pys pre) ++ [.bool false, .string ⟨#[]⟩, .slice none 0 0]) ∧ (W.drew.alloc (.cells #[.bool false, .string ⟨#[]⟩, .slice none 0 0] 26)).grownBy w4 (Value.slice va' pre.length vc').ownBlock ∧ Sn (W.drew.alloc (.cells #[.bool false, .string ⟨#[]⟩, .slice none 0 0] 26)) (.slice va' pre.length vc') (.slice (some ⟨g, 0, none⟩) (pre.length + 1) cap)) := ⟨hown4, hgr4, hsn4⟩
          clear hown4 hgr4 hsn4 hcl hpl b4
          refine wpAnyIn_ready (rs := [5, 7]) (by kernel_rfl) (by simp) ?_
          refine AllReadyIn.cons rfl (fun K hK => ?_) (AllReadyIn.cons rfl (fun K hK => ?_) AllReadyIn.nil)
          · go_simp
            refine hK _ _ ?_
            clear hK K
            (try dsimp only); (try simp only [Act.put, List.setIfInBounds_toArray, List.set_cons_zero, List.set_cons_succ])
            refine wpAnyIn_ready (rs := [6, 7]) (by kernel_rfl) (by simp) ?_
            refine AllReadyIn.cons rfl (fun K hK => ?_) (AllReadyIn.cons rfl (fun K hK => ?_) AllReadyIn.nil)
            · go_simp
              refine hK _ _ ?_
              clear hK K
              (try dsimp only); (try simp only [Act.put, List.setIfInBounds_toArray, List.set_cons_zero, List.set_cons_succ])
              refine wpAnyIn_ready (rs := [7]) (by kernel_rfl) (by simp) ?_
              refine AllReadyIn.cons rfl (fun K hK => ?_) AllReadyIn.nil
              · go_simp
                refine hK _ _ ?_
                clear hK K
                (try dsimp only); (try simp only [Act.put, List.setIfInBounds_toArray, List.set_cons_zero, List.set_cons_succ])
                refine wpAnyIn_done (by kernel_rfl) ?_ _
                simp only [Exit.inBlock]
                have hend := ga_end HN3.out HLm.out va' vc' HV.out HBl.out HI.out HAx.out.1 HAx.out.2 _ H4.out.1 H4.out.2.1 H4.out.2.2 hg4
                first | exact ⟨hend.1 _, hend.2⟩ | (rw [set_comm _ ⟨w.heap.size + 1 + 1, 0, none⟩ _ _ _ hVg, set_comm _ ⟨w.heap.size + 1 + 1, 0, none⟩ _ _ _ hVg, set_comm _ ⟨w.heap.size + 1 + 1, 0, none⟩ _ _ _ hVg]; exact ⟨hend.1 _, hend.2⟩)
            · go_simp
              refine hK _ _ ?_
              clear hK K
              (try dsimp only); (try simp only [Act.put, List.setIfInBounds_toArray, List.set_cons_zero, List.set_cons_succ])
              refine wpAnyIn_ready (rs := [6]) (by kernel_rfl) (by simp) ?_
              refine AllReadyIn.cons rfl (fun K hK => ?_) AllReadyIn.nil
              · go_simp
                refine hK _ _ ?_
                clear hK K
                (try dsimp only); (try simp only [Act.put, List.setIfInBounds_toArray, List.set_cons_zero, List.set_cons_succ])
                refine wpAnyIn_done (by kernel_rfl) ?_ _
                simp only [Exit.inBlock]
                have hend := ga_end HN3.out HLm.out va' vc' HV.out HBl.out HI.out HAx.out.1 HAx.out.2 _ H4.out.1 H4.out.2.1 H4.out.2.2 hg4
                first | exact ⟨hend.1 _, hend.2⟩ | (rw [set_comm _ ⟨w.heap.size + 1 + 1, 0, none⟩ _ _ _ hVg, set_comm _ ⟨w.heap.size + 1 + 1, 0, none⟩ _ _ _ hVg, set_comm _ ⟨w.heap.size + 1 + 1, 0, none⟩ _ _ _ hVg]; exact ⟨hend.1 _, hend.2⟩)
          · go_simp
            refine hK _ _ ?_
            clear hK K
            (try dsimp only); (try simp only [Act.put, List.setIfInBounds_toArray, List.set_cons_zero, List.set_cons_succ])
            refine wpAnyIn_ready (rs := [5]) (by kernel_rfl) (by simp) ?_
            refine AllReadyIn.cons rfl (fun K hK => ?_) AllReadyIn.nil
            · go_simp
              refine hK _ _ ?_
              clear hK K
              (try dsimp only); (try simp only [Act.put, List.setIfInBounds_toArray, List.set_cons_zero, List.set_cons_succ])
              refine wpAnyIn_ready (rs := [6]) (by kernel_rfl) (by simp) ?_
              refine AllReadyIn.cons rfl (fun K hK => ?_) AllReadyIn.nil
              · go_simp
                refine hK _ _ ?_
                clear hK K
                (try dsimp only); (try simp only [Act.put, List.setIfInBounds_toArray, List.set_cons_zero, List.set_cons_succ])
                refine wpAnyIn_done (by kernel_rfl) ?_ _
                simp only [Exit.inBlock]
                have hend := ga_end HN3.out HLm.out va' vc' HV.out HBl.out HI.out HAx.out.1 HAx.out.2 _ H4.out.1 H4.out.2.1 H4.out.2.2 hg4
                first | exact ⟨hend.1 _, hend.2⟩ | (rw [set_comm _ ⟨w.heap.size + 1 + 1, 0, none⟩ _ _ _ hVg, set_comm _ ⟨w.heap.size + 1 + 1, 0, none⟩ _ _ _ hVg, set_comm _ ⟨w.heap.size + 1 + 1, 0, none⟩ _ _ _ hVg]; exact ⟨hend.1 _, hend.2⟩)
  case done =>
    rintro D xs W hD hS hi hK
    obtain ⟨⟨va, vc, bV, hB⟩, bN, hbel, hsz, hle⟩ := hi
    have bV : Bk W (w.heap.size + 1 + 1) #[.slice va xs.length vc] 24 := bV
    have v0 := bV.cell 0
    simp only [List.getElem?_toArray, List.getElem?_cons_zero] at v0
    have hS : xs.map EX.it = ys := hS
    have hxl : xs.length = ys.length := by rw [← hS]; simp
    have hrd := (hB.rd (by simp only [pys, List.length_map]; omega))
    have hmap : (pys xs).map Prod.fst = ys.take m := by rw [List.take_of_length_le (by omega), ← hS]; simp [pys]
    rw [hmap] at hrd
    have HR : Hid (RdP W (N ≤ ·) (n + 1) (ys.take m) (.slice va xs.length vc) ∧ Below w.heap.size w W) := ⟨hrd, hbel⟩
    clear hrd hmap hS hB bN bV hbel hxl hrI bI h0
    gi_wp2
    refine ⟨by simp, .inl ⟨_, _, rfl, run_takeDeferred hK, ?_⟩⟩
    refine ⟨.slice va xs.length vc, ?_, ⟨va, xs.length, vc, rfl, ?_⟩, HR.out.2.trans (below_put _ _ (by omega))⟩
    · simp [results, Try.f21, go_sem]
    · exact (HR.out.1.put hK rfl).rd
  case stop =>
    rintro D c pre W hD hSp ⟨rfl, zs, z, e1, hzm, hi⟩ hK
    obtain ⟨⟨va, vc, bV, hB⟩, bN, hbel, hsz, hle⟩ := hi
    have bV : Bk W (w.heap.size + 1 + 1) #[.slice va zs.length vc] 24 := bV
    have v0 := bV.cell 0
    simp only [List.getElem?_toArray, List.getElem?_cons_zero] at v0
    obtain ⟨hpl, hpm⟩ := hSp
    have hmap : (pys zs).map Prod.fst = ys.take m := by
      have h1 : zs.map EX.it = ys.take m := by
        have h2 := congrArg (List.take m) hpm
        rw [List.take_take, e1, List.map_append, List.take_append_of_le_length (by simp; omega), List.take_of_length_le (by simp; omega)] at h2
        rw [h2]
        congr 1
        rw [e1] at hpl
        simp at hpl ⊢
        omega
      rw [← h1]; simp [pys]
    have hrd := (hB.rd (by simp only [pys, List.length_map]; omega))
    rw [hmap] at hrd
    have HR : Hid (RdP W (N ≤ ·) (n + 1) (ys.take m) (.slice va zs.length vc) ∧ Below w.heap.size w W) := ⟨hrd, hbel⟩
    clear hrd hmap hB bN bV hbel hpl hpm hrI bI h0
    gi_wp2
    refine ⟨by simp, .inl ⟨_, _, rfl, run_takeDeferred hK, ?_⟩⟩
    refine ⟨.slice va zs.length vc, ?_, ⟨va, zs.length, vc, rfl, ?_⟩, HR.out.2.trans (below_put _ _ (by omega))⟩
    · simp [results, Try.f21, go_sem]
      try exact hzm.symm
    · exact (HR.out.1.put hK rfl).rd
end Go.Proofs.Ytliaegnhnnnojaa

import Derived.Test.YtjbhegakgdcldaaShZ0
set_option linter.unusedSimpArgs false
set_option linter.unusedVariables false
set_option maxRecDepth 100000
namespace Go.Proofs.Ytjbhegakgdcldaa
open Go.RowKit Go.Shelf

/-! tarnlaw10.without. -/
theorem SL.below {w w' : World} {v : Value} {l : List ByteArray} (h : SL w v l) (hb : Below w.heap.size w w') : SL w' v l := Ss.below h hb
/-- All but one of a text. -/
def wo (s : ByteArray) (l : List ByteArray) : List ByteArray := if idxS s l < 0 then l else l.take (idxS s l).toNat ++ l.drop ((idxS s l).toNat + 1)
theorem idxS_in (s : ByteArray) : ∀ l : List ByteArray, idxS s l = -1 ∨ ∃ k, k < l.length ∧ idxS s l = (k : Int)
  | [] => .inl rfl
  | x :: l => by
    unfold idxS
    by_cases h : x = s
    · rw [if_pos h]; exact .inr ⟨0, by simp, rfl⟩
    · rw [if_neg h]
      rcases idxS_in s l with e | ⟨k, hk, e⟩
      · rw [e, if_pos (by omega)]; exact .inl rfl
      · rw [e, if_neg (by omega)]; exact .inr ⟨k + 1, by simp; omega, by omega⟩
/-- A slice of strings whose cap is one. -/
def SC (w : World) (v : Value) (l : List ByteArray) : Prop := SL w v l ∧ ∃ ad cap, v = .slice ad l.length cap ∧ l.length ≤ cap ∧ cap ≤ maxLen
theorem SC.below {w w' : World} {v : Value} {l : List ByteArray} (h : SC w v l) (hb : Below w.heap.size w w') : SC w' v l := ⟨h.1.below hb, h.2⟩
theorem Or.sc {w : World} {base : Nat} {v : Value} {l : List ByteArray} (h : Or 9 cS w base v l) (hs : ∀ x ∈ l, x.size ≤ maxLen) : SC w v l := by
  refine ⟨h.ss hs, ?_⟩
  rcases h.2 with ⟨rfl, hz⟩ | ⟨g, cap, cur, rfl, hb, hh, hc, hm, _⟩
  · exact ⟨none, 0, by rw [hz], by omega, by unfold maxLen; omega⟩
  · exact ⟨_, cap, rfl, hc, hm⟩
theorem after_copy {w1 w2 : World} {u : Value} {l : List ByteArray} {k : Nat} {A : World} (hk : (l.take k).length = k) (hr : Or 9 cS w2 A.heap.size u (l.take k)) (hb : Below A.heap.size A w2) (hA : A = w1 ∨ A = w1.drew) : w2.ownsRow w1.heap.size 9 1 u k ((l.take k).map cS) ∧ Below w1.heap.size w1 w2 := by
  have h7 : w2.ownsRow A.heap.size 9 1 u (l.take k).length ((l.take k).map cS) := hr
  rw [hk] at h7
  rcases hA with rfl | rfl
  · exact ⟨h7, hb⟩
  · exact ⟨h7, ((Below.refl _ w1).drew).trans hb⟩
theorem src_drop {A : World} {l : List ByteArray} {k b off o2 cc : Nat} (ho : l.length - (k + 1) ≠ 0 → o2 = off + (k + 1)) (hr : ∀ i, i < l.length → A.cell? ⟨b, off + i, none⟩ = some (cS (l.getD i ByteArray.empty))) :
    Src Try.prog 1 52 (.slice (some ⟨b, o2, none⟩) (l.length - (k + 1)) cc) (l.length - (k + 1)) ((l.drop (k + 1)).map cS) A := by
  refine Src.ofSlice A Try.underlying52 ⟨b, o2, none⟩ _ cc _ (by simp) (fun j u hj => ?_) (fun u hu => ?_)
  · rw [Addr.add_lit]
    have hj2 : j < l.length - (k + 1) := by
      have := (List.getElem?_eq_some_iff.1 hj).1
      simpa using this
    rw [ho (by omega), Nat.add_assoc]
    rw [hr (k + 1 + j) (by omega)]
    rw [List.getElem?_map, List.getElem?_drop] at hj
    simp [show k + 1 + j < l.length by omega] at hj
    rw [← hj]
    simp [show k + 1 + j < l.length by omega]
  · obtain ⟨x, _, rfl⟩ := List.mem_map.1 hu
    rfl
set_option maxHeartbeats 4000000 in
theorem without10 (v : Value) (l : List ByteArray) (s : ByteArray) (w : World) (hv : SC w v l) (hl : l.length ≤ 1000000) :
    Calls Try.prog 35 #[v, .string s] w fun r w' => ∃ u, r = .returned u ∧ SC w' u (wo s l) ∧ Below w.heap.size w w' := by
  have HV : Hid (SC w v l) := hv
  have HI : Hid (Calls Try.prog 39 #[v, .string s] w fun r w' => r = .returned (.int .i64 (idxS s l)) ∧ Below w.heap.size w w') := inStr10 v l s w hv.1
  obtain ⟨hsl, ad, cp, rfl, hcap, hcm⟩ := hv
  unfold maxLen at hcm
  rcases idxS_in s l with he | ⟨k, hk, he⟩
  · have HK : Hid (wo s l = l) := by show _ = _; unfold wo; rw [if_pos (by omega)]
    rw [he] at HI
    clear he hsl
    go_enter Try.func35, Try.ntmps35
    go_wp2_with (go_at_call 39; refine Calls.mono HI.out ?_; rintro e w1 ⟨rfl, hb1⟩)
    go_ret
    exact ⟨_, rfl, by rw [HK.out]; exact HV.out.below hb1, hb1⟩
  · have HK : Hid (wo s l = l.take k ++ l.drop (k + 1)) := by show _ = _; unfold wo; rw [if_neg (by omega), he]; rfl
    rw [he] at HI
    have HC : Hid (∀ A, Below w.heap.size w A → Calls Try.prog 36 #[.slice ad k cp] A fun r w' => (∃ u, r = .returned u ∧ Or 9 cS w' A.heap.size u (l.take k)) ∧ Below A.heap.size A w') := by
      intro A hA
      obtain ⟨h1, h2, ad', cp', e, h3⟩ := hsl.below hA
      simp at e
      obtain ⟨rfl, rfl⟩ := e
      have := copyStrings (.slice ad k cp) (fun i => l.getD i ByteArray.empty) k A ⟨by omega, fun i hi => h2 i (by omega), ad, cp, rfl, fun i hi => h3 i (by omega)⟩ (by omega)
      have e : (List.range k).map (fun i => l.getD i ByteArray.empty) = l.take k := by
        apply List.ext_getElem
        · simp; omega
        · intro i h1 h2
          simp at h1
          simp [show i < l.length by omega]
      rw [e] at this
      exact this
    have HSz : Hid (∀ x ∈ l, x.size ≤ maxLen) := by
      intro x hx
      obtain ⟨i, hi, e⟩ := List.mem_iff_getElem.1 hx
      have := hsl.2.1 i hi
      rw [← e]
      simpa [hi] using this
    obtain ⟨b, off, rfl, hrow⟩ : ∃ b off, ad = some ⟨b, off, none⟩ ∧ ∀ A, Below w.heap.size w A → ∀ i, i < l.length → A.cell? ⟨b, off + i, none⟩ = some (cS (l.getD i ByteArray.empty)) := by
      obtain ⟨h1, h2, ad', cp', e, h3⟩ := hsl
      simp at e
      obtain ⟨rfl, rfl⟩ := e
      obtain ⟨b, off, e, _⟩ := h3 k hk
      refine ⟨b, off, e, fun A hA i hi => ?_⟩
      obtain ⟨b', off', e', hc⟩ := h3 i hi
      rw [e] at e'
      simp at e'
      obtain ⟨rfl, rfl⟩ := e'
      exact (hA.cell (cell_lt' hc)).trans hc
    have HRow : Hid (∀ A, Below w.heap.size w A → ∀ i, i < l.length → A.cell? ⟨b, off + i, none⟩ = some (cS (l.getD i ByteArray.empty))) := hrow
    have hk1 : k + 1 ≤ l.length := hk
    have hkc : k ≤ cp := by omega
    have hwr : IntKind.i64.wrap ((k : Int) + 1) = (k : Int) + 1 := by rw [IntKind.wrap_i64]; omega
    have hw0 : (0 : Int) ≤ (k : Int) + 1 := by omega
    have hw1 : (k : Int) + 1 ≤ (l.length : Int) := by omega
    have htn : ((k : Int) + 1).toNat = k + 1 := by omega
    obtain ⟨o2, hAD, ho2⟩ : ∃ o2, (if cp = k + 1 then some (⟨b, off, none⟩ : Addr) else some ⟨b, off + (k + 1), none⟩) = some ⟨b, o2, none⟩ ∧ (l.length - (k + 1) ≠ 0 → o2 = off + (k + 1)) := by
      by_cases h : cp = k + 1
      · exact ⟨off, by rw [if_pos h], fun h2 => by omega⟩
      · exact ⟨off + (k + 1), by rw [if_neg h], fun _ => rfl⟩
    have HO2 : Hid (l.length - (k + 1) ≠ 0 → o2 = off + (k + 1)) := ho2
    clear ho2
    clear he hsl hrow
    obtain ⟨i0, hi, hz0, hz1, hz2⟩ := info_of infoS
    have HIn : Hid (Try.prog.info? 9 = some i0 ∧ i0.zero = some (.string ⟨#[]⟩) ∧ i0.size = 1 ∧ i0.bytes = 16) := ⟨hi, hz0, hz1, hz2⟩
    clear hi hz0 hz1 hz2
    go_enter Try.func35, Try.ntmps35
    go_wp2_with (go_at_call 39; refine Calls.mono HI.out ?_; rintro e w1 ⟨rfl, hb1⟩)
    have HB1 : Hid (Below w.heap.size w w1) := hb1
    have HLk : Hid ((l.take k).length = k) := by show _ = _; simp; omega
    clear hb1
    refine wp_region_noPanic ?_
    refine wp_region_held_drew (S := fun _ => True) (by kernel_rfl) ?_ (fun hHeld => ?_)
    · ((try dsimp only); try trivial)
    (try dsimp only at hHeld)
    refine wpAnyH_take (i := 0) (oi := ⟨some 12, _, _, _, _, _⟩) (v := ?_) rfl (by kernel_rfl) (by kernel_rfl) (by kernel_rfl) (fun _ _ _ h => h) (Or.inl ⟨by rfl, ?_⟩) (by assumption) ?_
    rotate_left
    · (intro w hSw; (try dsimp only at hSw); go_simp; try (with_reducible rfl))
    (try dsimp only); (try simp only [Act.put, List.setIfInBounds_toArray, List.set_cons_zero, List.set_cons_succ])
    refine wpAnyH_take (i := 1) (oi := ⟨some 13, _, _, _, _, _⟩) (v := ?_) rfl (by kernel_rfl) (by kernel_rfl) (by kernel_rfl) (fun _ _ _ h => h) (Or.inl ⟨by rfl, ?_⟩) (by assumption) ?_
    rotate_left
    · (intro w hSw; (try dsimp only at hSw); go_simp; try (with_reducible rfl))
    (try dsimp only); (try simp only [Act.put, List.setIfInBounds_toArray, List.set_cons_zero, List.set_cons_succ])
    refine wpAnyH_take (i := 2) (oi := ⟨some 14, _, _, _, _, _⟩) (v := ?_) rfl (by kernel_rfl) (by kernel_rfl) (by kernel_rfl) (fun _ _ _ h => h) (Or.inl ⟨by rfl, ?_⟩) (by assumption) ?_
    rotate_left
    · (intro w hSw; (try dsimp only at hSw); go_simp; try (with_reducible rfl))
    (try dsimp only); (try simp only [Act.put, List.setIfInBounds_toArray, List.set_cons_zero, List.set_cons_succ])
    refine wpAnyH_take (i := 4) (oi := ⟨some 16, _, _, _, _, _⟩) (v := ?_) rfl (by kernel_rfl) (by kernel_rfl) (by kernel_rfl) (fun _ _ _ h => h) (Or.inl ⟨by rfl, ?_⟩) (by assumption) ?_
    rotate_left
    · (intro w hSw; (try dsimp only at hSw); go_simp; try (with_reducible rfl))
    (try dsimp only); (try simp only [Act.put, List.setIfInBounds_toArray, List.set_cons_zero, List.set_cons_succ])
    refine wpAnyH_take (i := 5) (oi := ⟨some 17, _, _, _, _, _⟩) (v := ?_) rfl (by kernel_rfl) (by kernel_rfl) (by kernel_rfl) (fun _ _ _ h => h) (Or.inl ⟨by rfl, ?_⟩) (by assumption) ?_
    rotate_left
    · (intro w hSw; (try dsimp only at hSw); go_simp; try (with_reducible rfl))
    (try dsimp only); (try simp only [Act.put, List.setIfInBounds_toArray, List.set_cons_zero, List.set_cons_succ])
    refine wpAnyH_take (i := 6) (oi := ⟨some 18, _, _, _, _, _⟩) (v := ?_) rfl (by kernel_rfl) (by kernel_rfl) (by kernel_rfl) (fun _ _ _ h => h) (Or.inl ⟨by rfl, ?_⟩) (by assumption) ?_
    rotate_left
    · (intro w hSw; (try dsimp only at hSw); go_simp; try (with_reducible rfl))
    (try dsimp only); (try simp only [Act.put, List.setIfInBounds_toArray, List.set_cons_zero, List.set_cons_succ])
    refine wpAnyH_take (i := 7) (oi := ⟨some 19, _, _, _, _, _⟩) (v := ?_) rfl (by kernel_rfl) (by kernel_rfl) (by kernel_rfl) (fun _ _ _ h => h) (Or.inl ⟨by rfl, ?_⟩) (by assumption) ?_
    rotate_left
    · (intro w hSw; (try dsimp only at hSw); go_simp; try (with_reducible rfl))
    (try dsimp only); (try simp only [Act.put, List.setIfInBounds_toArray, List.set_cons_zero, List.set_cons_succ])
    refine wpAnyH_ready (rs := [3]) (by kernel_rfl) (by simp) ?_
    refine AllReadyH.cons (o := ⟨some 15, _, _, _, _, _⟩) rfl (fun K hK => ?_) AllReadyH.nil
    go_simp
    refine Calls.mono (HC.out _ HB1.out.drew) ?_
    rintro e w2 ⟨⟨u2, rfl, hr2⟩, hb2⟩
    obtain ⟨ga, gc, rfl, -⟩ := hr2.shape
    rw [HLk.out] at hr2 ⊢
    have H2 : Hid (w2.ownsRow w1.heap.size 9 1 (.slice ga k gc) k ((l.take k).map cS) ∧ Below w1.heap.size w1 w2) := after_copy HLk.out hr2 hb2 (.inr rfl)
    clear hr2 hb2
    have HSrc : Hid (Src Try.prog 1 52 (.slice (some ⟨b, o2, none⟩) (l.length - (k + 1)) (cp - (k + 1))) (l.length - (k + 1)) ((l.drop (k + 1)).map cS) w2) := src_drop HO2.out (HRow.out w2 (HB1.out.trans (H2.out.2.mono HB1.out.size)))
    refine hK.out _ _ trivial (fun hHeld => ?_)
    clear hK K
    (try dsimp only); (try simp only [Act.put, List.setIfInBounds_toArray, List.set_cons_zero, List.set_cons_succ])
    refine wpAnyH_ready (rs := [8]) (by kernel_rfl) (by simp) ?_
    refine AllReadyH.cons (o := ⟨some 20, _, _, _, _, _⟩) rfl (fun K hK => ?_) AllReadyH.nil
    refine step_append_own9 rfl _ _ 52 52 rfl w1.heap.size 9 i0 (.string ⟨#[]⟩) 1 16 Try.underlying52 HIn.out.1 HIn.out.2.1 HIn.out.2.2.1 HIn.out.2.2.2 rfl (.slice ga k gc) (.slice (some ⟨b, o2, none⟩) (l.length - (k + 1)) (cp - (k + 1))) k ((l.take k).map cS) (l.length - (k + 1)) ((l.drop (k + 1)).map cS) rfl rfl H2.out.1 HSrc.out (by unfold maxLen; omega) (by omega) H2.out.2.size ?_
    intro v5 w5 ho5 hg5 hs5
    have H5 : Hid (w5.ownsRow w1.heap.size 9 1 v5 (k + (l.length - (k + 1))) ((l.take k).map cS ++ (l.drop (k + 1)).map cS) ∧ Below w.heap.size w w5) := ⟨ho5, HB1.out.trans ((H2.out.2.grown hg5 H2.out.2.size (fun q hq => (World.ownsRow.lt H2.out.1 q hq).1)).mono HB1.out.size)⟩
    refine hK.out _ _ trivial (fun hHeld => ?_)
    clear hK K ho5 hg5 hs5
    (try dsimp only); (try simp only [Act.put, List.setIfInBounds_toArray, List.set_cons_zero, List.set_cons_succ])
    refine wpAnyH_take (i := 9) (oi := ⟨some 4, _, _, _, _, _⟩) (v := ?_) rfl (by kernel_rfl) (by kernel_rfl) (by kernel_rfl) (fun _ _ _ h => h) (Or.inl ⟨by rfl, ?_⟩) (by assumption) ?_
    rotate_left
    · (intro w hSw; (try dsimp only at hSw); go_simp; try (with_reducible rfl))
    (try dsimp only); (try simp only [Act.put, List.setIfInBounds_toArray, List.set_cons_zero, List.set_cons_succ])
    refine wpAnyH_done (by kernel_rfl) ?_ _
    refine NoPanic.normal ?_
    go_wp2_with fail
    go_ret
    refine ⟨v5, rfl, ?_, H5.out.2⟩
    rw [HK.out]
    have h8 : Or 9 cS w5 w1.heap.size v5 (l.take k ++ l.drop (k + 1)) := by
      show World.ownsRow _ _ _ _ _ _ _
      rw [List.map_append, List.length_append, HLk.out, List.length_drop]
      exact H5.out.1
    exact h8.sc fun x hx => HSz.out x (by
      rcases List.mem_append.1 hx with h | h
      · exact List.mem_of_mem_take h
      · exact List.mem_of_mem_drop h)
end Go.Proofs.Ytjbhegakgdcldaa

import Derived.Test.YtljhhdpeakencaaJ6
set_option linter.unusedSimpArgs false
set_option linter.unusedVariables false
namespace Go.Proofs.Ytljhhdpeakencaa
open Go.RowKit

/-! The page's Write. -/
/-- What a write makes of the page's disk. -/
def pwD (D : Ds) (i a : Nat) (bs : List UInt8) (pre : List (Nat × Nat)) : Ds := { D with now := upd D.now i (splice (pad (D.now i) (a + bs.length)) a bs), chs := upd D.chs i (D.chs i ++ pre.map (pch a bs)) }
theorem pwD_snoc (D : Ds) (i a : Nat) (bs : List UInt8) (pre : List (Nat × Nat)) (x : Nat × Nat) : ({ pwD D i a bs pre with chs := upd (pwD D i a bs pre).chs i ((pwD D i a bs pre).chs i ++ [pch a bs x]) } : Ds) = pwD D i a bs (pre ++ [x]) := by
  unfold pwD
  simp only [upd_same, upd_upd, List.map_append, List.map_cons, List.map_nil, List.append_assoc]
theorem pwD_nil (D : Ds) (i a : Nat) (bs : List UInt8) : ({ D with now := upd D.now i (splice (pad (D.now i) (a + bs.length)) a bs) } : Ds) = pwD D i a bs [] := by
  unfold pwD
  simp only [List.map_nil, List.append_nil]
  congr 1
  funext j
  unfold upd
  split
  · next e => rw [e]
  · rfl
structure PWI (w : World) (O : Nat → Nat) (d : Nat) (D : Ds) (i a : Nat) (bs : List UInt8) (gl gs gn cl cs cn : Nat) (sv : Nat → Value) (l1 b1 : Int) (a1 o1 u1 : Bool) (k : Nat) (W : World) : Prop where
  ex : ∃ O' lv cv pre, PK W O' d (pwD D i a bs pre) gl gs gn cl cs cn lv sv cv l1 b1 a1 o1 u1 ∧ Fp O w O' W ∧ pre ++ pcs a bs.length k = pcs a bs.length 0 ∧ pre.length ≤ k
theorem PWI.drew {w : World} {O : Nat → Nat} {d : Nat} {D : Ds} {i a : Nat} {bs : List UInt8} {gl gs gn cl cs cn : Nat} {sv : Nat → Value} {l1 b1 : Int} {a1 o1 u1 : Bool} {k : Nat} {W : World} (h : PWI w O d D i a bs gl gs gn cl cs cn sv l1 b1 a1 o1 u1 k W) : PWI w O d D i a bs gl gs gn cl cs cn sv l1 b1 a1 o1 u1 k W.drew := by
  obtain ⟨O', lv, cv, pre, h1, h2, h3, h4⟩ := h.ex
  exact ⟨O', lv, cv, pre, h1.frame (w' := W.drew) (fun _ _ => rfl), h2.trans (Fp.of_below O' (Below.refl _ _).drew), h3, h4⟩
/-- What is left of the bytes. -/
structure PWB (w : World) (O : Nat → Nat) (bs : List UInt8) (k : Nat) (ad : Option Addr) (r cap : Nat) : Prop where
  rb : Rb w (.slice ad r cap) (bs.drop k)
  out : r ≠ 0 → ∀ b n, ad = some ⟨b, n, none⟩ → O b = 0
theorem rb_fp9 {w w' : World} {O O' : Nat → Nat} {ad : Option Addr} {r cap : Nat} {l : List UInt8} (h : Rb w (.slice ad r cap) l) (hf : Fp O w O' w') (ho : r ≠ 0 → ∀ b n, ad = some ⟨b, n, none⟩ → O b = 0) : Rb w' (.slice ad r cap) l := by
  obtain ⟨ad', cap', e, h1, h2, h3⟩ := h
  simp at e
  obtain ⟨rfl, rfl, rfl⟩ := e
  refine ⟨ad, cap, rfl, h1, h2, fun i hi => ?_⟩
  obtain ⟨b, off, e2, h4⟩ := h3 i hi
  exact ⟨b, off, e2, hf.cell h4 (ho (by omega) b off e2)⟩
theorem rb_take9 {w : World} {ad : Option Addr} {r cap n : Nat} {l : List UInt8} (h : Rb w (.slice ad r cap) l) (hn : n ≤ l.length) : Rb w (.slice ad n cap) (l.take n) := by
  obtain ⟨ad', cap', e, h1, h2, h3⟩ := h
  simp at e
  obtain ⟨rfl, rfl, rfl⟩ := e
  have e3 : (l.take n).length = n := by simp; omega
  refine ⟨ad, cap, by rw [e3], by omega, by omega, fun i hi => ?_⟩
  obtain ⟨b, off, e2, h4⟩ := h3 i (by omega)
  exact ⟨b, off, e2, by rw [h4]; simp⟩
theorem PWB.step {w : World} {O : Nat → Nat} {bs : List UInt8} {k n r cap : Nat} {ad : Option Addr} (h : PWB w O bs k ad r cap) (hr : r = bs.length - k) (hn : n ≤ r) (hp : 0 < r) : PWB w O bs (k + n) (Option.map (fun x => x.add n) ad) (r - n) (cap - n) := by
  obtain ⟨ad', cap', e, h1, h2, h3⟩ := h.rb
  simp at e
  obtain ⟨rfl, e2, rfl⟩ := e
  have e0 : (bs.drop k).length = bs.length - k := by simp
  have e3 : (bs.drop (k + n)).length = r - n := by simp; omega
  refine ⟨⟨_, cap - n, by rw [e3], by omega, by omega, fun j hj => ?_⟩, fun _ b m e => ?_⟩
  · obtain ⟨b, off, rfl, hx⟩ := h3 (n + j) (by rw [e3] at hj; omega)
    refine ⟨b, off + n, by rw [Option.map_some, Addr.add_mid], ?_⟩
    rw [Nat.add_assoc, hx]
    simp [Nat.add_assoc]
  · obtain ⟨b', off, rfl, _⟩ := h3 0 (by omega)
    rw [Option.map_some, Addr.add_mid] at e
    simp at e
    exact h.out (by omega) b off (by rw [e.1])
theorem PWB.stop {w : World} {O : Nat → Nat} {bs : List UInt8} {k n r cap : Nat} {ad : Option Addr} (h : PWB w O bs k ad r cap) (hr : r = bs.length - k) (hn : n = r) (hk : k ≤ bs.length) (ad2 : Option Addr) (c2 : Nat) (ha : ad2 = ad ∨ ad2 = none) : PWB w O bs (k + n) ad2 0 c2 := by
  have e : bs.drop (k + n) = [] := List.drop_eq_nil_of_le (by omega)
  exact ⟨by rw [e]; exact Rb.none _ _ _ 0 _ rfl rfl, fun h0 => absurd rfl h0⟩
section
variable {w : World} {O : Nat → Nat} {d : Nat} {D : Ds} {gl gs gn cl cs cn : Nat} {lv sv cv : Nat → Value} {left bad : Int} {armed off hurt : Bool}
set_option maxRecDepth 100000 in
set_option maxHeartbeats 1000000 in
theorem pwrite_ok (h : PK w O d D gl gs gn cl cs cn lv sv cv left bad armed off hurt) (i a : Nat) (ad : Option Addr) (bs : List UInt8) (bc : Nat) (bO : D.tO ≤ 9223372036854775807) (bF : D.tF ≤ 9223372036854775807) (hi : i < 8) (h0 : cntE D (i : Int) = 0) (ha : a ≤ (D.now i).length) (hab : a + bs.length ≤ 131072) (hl : (D.now i).length ≤ 131072) (hm : (D.chs i).length ≤ 1099511496704)
    (hb : Rb w (.slice ad bs.length bc) bs) (hO : bs.length ≠ 0 → ∀ b n, ad = some ⟨b, n, none⟩ → O b = 0) :
    Calls Try.prog 51 #[.pointer (some ⟨d, 0, none⟩), .int .i64 (i : Int), .int .i64 (a : Int), .slice ad bs.length bc] w fun e w' => e = .returned (.int .i64 0) ∧ ∃ O', PKw w' O' d (pwD (cnt D) i a bs (pcs a bs.length 0)) ∧ Fp O w O' w' := by
  have HF : Hid _ := pcount h (i : Int) bO bF
  rw [h0] at HF
  have hi8 : (i : Int) < 8 := by omega
  have HBs : Hid (PWB w O bs 0 ad bs.length bc) := ⟨hb, hO⟩
  have hbc : bs.length ≤ bc := by
    obtain ⟨ad', cap', e, h1, _⟩ := hb
    simp at e
    omega
  obtain ⟨an, cap, env, _⟩ := (h.now i hi).1.shape
  have Henv : Hid (lv i = .slice an (D.now i).length cap) := env
  have Hl : Hid ((D.now i).length ≤ 131072 ∧ a + bs.length ≤ 131072 ∧ (D.chs i).length ≤ 1099511496704) := ⟨hl, hab, hm⟩
  have hx : ¬ (a : Int) < 0 := by omega
  have hy : ¬ ((D.now i).length : Int) < (a : Int) := by omega
  have hz : ¬ (131072 : Int) - (a : Int) < (bs.length : Int) := by omega
  have hdif : IntKind.i64.wrap (131072 - (a : Int)) = 131072 - (a : Int) := IntWalk.i64_in _ (by omega)
  obtain ⟨len, hlen⟩ : ∃ len, len = bs.length := ⟨_, rfl⟩
  have Hlen : Hid (len = bs.length) := hlen
  clear h h0 env hb hO bO bF hm hl ha
  rw [← hlen] at hbc hz hab HBs ⊢
  clear hlen
  go_enter Try.func51, Try.ntmps51
  go_upto_region 8 with (go_at_call 79; refine Calls.mono HF.out ?_; rintro e w8 ⟨rfl, l1, b1, a1, o1, u1, h8, hF8⟩; have H8 : Hid (PK w8 O d (cnt D) gl gs gn cl cs cn lv sv cv l1 b1 a1 o1 u1 ∧ Fp O w O w8) := ⟨h8, hF8⟩; clear h8 hF8 HF; have hd := H8.out.1.blk.lt; have c0 := H8.out.1.blk.cell 0; simp only [List.getElem?_toArray, List.getElem?_cons_zero, List.getElem?_cons_succ] at c0; have cl1 := H8.out.1.live.cell hi; rw [Henv.out] at cl1; have HC : Hid (Calls Try.prog 83 #[lv i, .int .i64 (a : Int), .slice ad len bc] w8.drew fun e w' => ∃ v', e = .returned v' ∧ Ow w' w8.drew.heap.size v' (splice (pad (D.now i) (a + bs.length)) a bs) ∧ Below w8.drew.heap.size w8.drew w') := pover _ _ _ _ _ _ ((H8.out.1.now i hi).1.rb (by have := Hl.out.1; show (D.now i).length ≤ _; omega)) (rb_fp9 HBs.out.rb (H8.out.2.trans (Fp.of_below O (Below.refl _ _).drew)) HBs.out.out) (by have := Hl.out.1; omega) (by have := Hl.out.2; omega); rw [Henv.out] at HC; generalize (D.now i).length = ln at *)
  refine wp_region_noPanic ?_
  refine wp_region_held_drew (S := fun W' => W'.cell? ⟨d, 0, none⟩ = some (.slice (some ⟨gl, 0, none⟩) 8 cl)) (by kernel_rfl) ?_ (fun hHeld => ?_)
  · ((try dsimp only); exact c0)
  (try dsimp only at hHeld)
  refine wpAnyH_take (i := 0) (oi := ⟨some 36, _, _, _, _, _⟩) (v := ?_) rfl (by kernel_rfl) (by kernel_rfl) (by kernel_rfl) (fun _ _ _ h => h) (Or.inl ⟨by rfl, ?_⟩) (by assumption) ?_
  rotate_left
  · (intro w hSw; (try dsimp only at hSw); go_simp; try (with_reducible rfl))
  (try dsimp only); (try simp only [Act.put, List.setIfInBounds_toArray, List.set_cons_zero, List.set_cons_succ])
  refine wpAnyH_take (i := 1) (oi := ⟨some 37, _, _, _, _, _⟩) (v := ?_) rfl (by kernel_rfl) (by kernel_rfl) (by kernel_rfl) (fun _ _ _ h => h) (Or.inl ⟨by rfl, ?_⟩) (by assumption) ?_
  rotate_left
  · (intro w hSw; (try dsimp only at hSw); go_simp; try (with_reducible rfl))
  (try dsimp only); (try simp only [Act.put, List.setIfInBounds_toArray, List.set_cons_zero, List.set_cons_succ])
  refine wpAnyH_take (i := 2) (oi := ⟨some 38, _, _, _, _, _⟩) (v := ?_) rfl (by kernel_rfl) (by kernel_rfl) (by kernel_rfl) (fun _ _ _ h => h) (Or.inl ⟨by rfl, ?_⟩) (by assumption) ?_
  rotate_left
  · (intro w hSw; (try dsimp only at hSw); go_simp; try (with_reducible rfl))
  (try dsimp only); (try simp only [Act.put, List.setIfInBounds_toArray, List.set_cons_zero, List.set_cons_succ])
  refine wpAnyH_take (i := 3) (oi := ⟨some 39, _, _, _, _, _⟩) (v := ?_) rfl (by kernel_rfl) (by kernel_rfl) (by kernel_rfl) (fun _ _ _ h => h) (Or.inl ⟨by rfl, ?_⟩) (by assumption) ?_
  rotate_left
  · (intro w hSw; (try dsimp only at hSw); go_simp; try (with_reducible rfl))
  (try dsimp only); (try simp only [Act.put, List.setIfInBounds_toArray, List.set_cons_zero, List.set_cons_succ])
  refine wpAnyH_take (i := 4) (oi := ⟨some 40, _, _, _, _, _⟩) (v := ?_) rfl (by kernel_rfl) (by kernel_rfl) (by kernel_rfl) (fun _ _ _ h => h) (Or.inl ⟨by rfl, ?_⟩) (by assumption) ?_
  rotate_left
  · (intro w hSw; (try dsimp only at hSw); go_simp; try (with_reducible rfl))
  (try dsimp only); (try simp only [Act.put, List.setIfInBounds_toArray, List.set_cons_zero, List.set_cons_succ])
  refine wpAnyH_take (i := 5) (oi := ⟨some 41, _, _, _, _, _⟩) (v := ?_) rfl (by kernel_rfl) (by kernel_rfl) (by kernel_rfl) (fun _ _ _ h => h) (Or.inl ⟨by rfl, ?_⟩) (by assumption) ?_
  rotate_left
  · (intro w hSw; (try dsimp only at hSw); go_simp; try (with_reducible rfl))
  (try dsimp only); (try simp only [Act.put, List.setIfInBounds_toArray, List.set_cons_zero, List.set_cons_succ])
  refine wpAnyH_take (i := 6) (oi := ⟨some 42, _, _, _, _, _⟩) (v := ?_) rfl (by kernel_rfl) (by kernel_rfl) (by kernel_rfl) (fun _ _ _ h => h) (Or.inl ⟨by rfl, ?_⟩) (by assumption) ?_
  rotate_left
  · (intro w hSw; (try dsimp only at hSw); go_simp; try (with_reducible rfl))
  (try dsimp only); (try simp only [Act.put, List.setIfInBounds_toArray, List.set_cons_zero, List.set_cons_succ])
  refine wpAnyH_take (i := 7) (oi := ⟨some 43, _, _, _, _, _⟩) (v := ?_) rfl (by kernel_rfl) (by kernel_rfl) (by kernel_rfl) (fun _ _ _ h => h) (Or.inl ⟨by rfl, ?_⟩) (by assumption) ?_
  rotate_left
  · (intro w hSw; (try dsimp only at hSw); go_simp; try (with_reducible rfl))
  (try dsimp only); (try simp only [Act.put, List.setIfInBounds_toArray, List.set_cons_zero, List.set_cons_succ])
  refine wpAnyH_take (i := 8) (oi := ⟨some 44, _, _, _, _, _⟩) (v := ?_) rfl (by kernel_rfl) (by kernel_rfl) (by kernel_rfl) (fun _ _ _ h => h) (Or.inl ⟨by rfl, ?_⟩) (by assumption) ?_
  rotate_left
  · (intro w hSw; (try dsimp only at hSw); go_simp; try (with_reducible rfl))
  (try dsimp only); (try simp only [Act.put, List.setIfInBounds_toArray, List.set_cons_zero, List.set_cons_succ])
  refine wpAnyH_take (i := 9) (oi := ⟨some 45, _, _, _, _, _⟩) (v := ?_) rfl (by kernel_rfl) (by kernel_rfl) (by kernel_rfl) (fun _ _ _ h => h) (Or.inl ⟨by rfl, ?_⟩) (by assumption) ?_
  rotate_left
  · (intro w hSw; (try dsimp only at hSw); go_simp; try (with_reducible rfl))
  (try dsimp only); (try simp only [Act.put, List.setIfInBounds_toArray, List.set_cons_zero, List.set_cons_succ])
  refine wpAnyH_take (i := 10) (oi := ⟨some 46, _, _, _, _, _⟩) (v := ?_) rfl (by kernel_rfl) (by kernel_rfl) (by kernel_rfl) (fun _ _ _ h => h) (Or.inl ⟨by rfl, ?_⟩) (by assumption) ?_
  rotate_left
  · (intro w hSw; (try dsimp only at hSw); go_simp; try (with_reducible rfl))
  (try dsimp only); (try simp only [Act.put, List.setIfInBounds_toArray, List.set_cons_zero, List.set_cons_succ])
  refine wpAnyH_take (i := 12) (oi := ⟨some 48, _, _, _, _, _⟩) (v := ?_) rfl (by kernel_rfl) (by kernel_rfl) (by kernel_rfl) (fun _ _ _ h => h) (Or.inl ⟨by rfl, ?_⟩) (by assumption) ?_
  rotate_left
  · (intro w hSw; (try dsimp only at hSw); go_simp; try (with_reducible rfl))
  (try dsimp only); (try simp only [Act.put, List.setIfInBounds_toArray, List.set_cons_zero, List.set_cons_succ])
  refine wpAnyH_take (i := 13) (oi := ⟨some 49, _, _, _, _, _⟩) (v := ?_) rfl (by kernel_rfl) (by kernel_rfl) (by kernel_rfl) (fun _ _ _ h => h) (Or.inl ⟨by rfl, ?_⟩) (by assumption) ?_
  rotate_left
  · (intro w hSw; (try dsimp only at hSw); go_simp; try (with_reducible rfl))
  (try dsimp only); (try simp only [Act.put, List.setIfInBounds_toArray, List.set_cons_zero, List.set_cons_succ])
  refine wpAnyH_ready (rs := [11]) (by kernel_rfl) (by simp) ?_
  refine AllReadyH.cons (o := ⟨some 47, _, _, _, _, _⟩) rfl (fun K hK => ?_) AllReadyH.nil
  go_simp
  refine hK.out _ _ hHeld (fun hHeld => ?_)
  clear hK K
  (try dsimp only); (try simp only [Act.put, List.setIfInBounds_toArray, List.set_cons_zero, List.set_cons_succ])
  refine wpAnyH_ready (rs := [14]) (by kernel_rfl) (by simp) ?_
  refine AllReadyH.cons (o := ⟨some 50, _, _, _, _, _⟩) rfl (fun K hK => ?_) AllReadyH.nil
  go_simp
  refine Calls.mono HC.out ?_
  rintro e w2 ⟨u2, rfl, ho2, hb2⟩
  obtain ⟨O2, h2, hF2, ht2, hO2⟩ := (H8.out.1.frame (w' := w8.drew) (fun _ _ => rfl)).adopt hb2 ho2
  obtain ⟨ad2, n2, cap2, rfl⟩ := ownsRow_sl ho2
  obtain ⟨h3, hF3⟩ := h2.setLive hi ho2.base0 ht2
  have HS3 : Hid (PWI w O d (cnt D) i a bs gl gs gn cl cs cn sv l1 b1 a1 o1 u1 0 (w2.setCell ⟨gl, i, none⟩ (.slice ad2 n2 cap2))) := ⟨O2, _, cv, [], by rw [← pwD_nil]; exact h3, H8.out.2.trans (((Fp.of_below O (Below.refl _ _).drew).trans hF2).trans hF3), rfl, Nat.le_refl _⟩
  have HC3 : Hid ((w2.setCell ⟨gl, i, none⟩ (.slice ad2 n2 cap2)).cell? ⟨d, 0, none⟩ = some (.slice (some ⟨gl, 0, none⟩) 8 cl)) := h3.blk.cell 0
  have p0 := h2.live.cell hi
  have pf0 := h2.live.frozen i
  have pl0 := h2.live.lt
  refine hK.out _ _ ((hb2.cell hd).trans c0) (fun hHeld => ?_)
  clear hK K ho2 hb2 h2 hF2 ht2 hO2 h3 hF3
  (try dsimp only); (try simp only [Act.put, List.setIfInBounds_toArray, List.set_cons_zero, List.set_cons_succ])
  refine wpAnyH_take (i := 15) (oi := ⟨some 51, _, _, _, _, _⟩) (v := ?_) rfl (by kernel_rfl) (by kernel_rfl) (by kernel_rfl) (fun _ _ _ h => h) (Or.inl ⟨by rfl, ?_⟩) (by assumption) ?_
  rotate_left
  · (intro w hSw; (try dsimp only at hSw); go_simp; try (with_reducible rfl))
  (try dsimp only); (try simp only [Act.put, List.setIfInBounds_toArray, List.set_cons_zero, List.set_cons_succ])
  refine wpAnyH_ready (rs := [16]) (by kernel_rfl) (by simp) ?_
  refine AllReadyH.cons (o := ⟨none, _, _, _, _, _⟩) rfl (fun K hK => ?_) AllReadyH.nil
  go_simp
  refine hK.out _ _ HC3.out (fun hHeld => ?_)
  clear hK K p0 pf0 pl0 hHeld
  (try dsimp only); (try simp only [Act.put, List.setIfInBounds_toArray, List.set_cons_zero, List.set_cons_succ])
  refine wpAnyH_done (by kernel_rfl) ?_ _
  refine NoPanic.normal ?_
  have hHeld : True := trivial
  clear H8 HC c0 cl1 HC3
  generalize (w2.setCell ⟨gl, i, none⟩ (.slice ad2 n2 cap2)) = W7 at *
  go_wp2_with fail
  go_loopw [2, 3, 10] (fun x y z wr => ∃ (k : Nat) (ad' : Option Addr) (r cap' : Nat), k ≤ len ∧ r = len - k ∧ x = .int .i64 ((a + k : Nat) : Int) ∧ y = .slice ad' r cap' ∧ r ≤ cap' ∧ PWB w O bs k ad' r cap' ∧ PWI w O d (cnt D) i a bs gl gs gn cl cs cn sv l1 b1 a1 o1 u1 k wr) (fun x y z _ => lenV y)
  case atStart => exact ⟨0, ad, len, bc, by omega, by omega, rfl, rfl, hbc, HBs.out, HS3.out⟩
  case round =>
    clear HS3 HBs
    obtain ⟨k, ad', r, cap', hk, hr, rfl, rfl, hrc, hB, hI⟩ := hrel
    have Hr : Hid (r = len - k) := hr
    obtain ⟨q, hq⟩ : ∃ q, q = a + k := ⟨_, rfl⟩
    have Hq : Hid (q = a + k) := hq
    have hqb : q + r ≤ 131072 := by omega
    rw [← hq]
    have HB : Hid (PWB w O bs k ad' r cap') := hB
    have HI : Hid (PWI w O d (cnt D) i a bs gl gs gn cl cs cn sv l1 b1 a1 o1 u1 k wr) := hI
    clear hB hI hq
    by_cases hlt : 0 < r
    · have hlt' : (0 : Int) < (r : Int) := by omega
      obtain ⟨O1, lv1, cv1, pre, hP1, hF1, hpre, hpl⟩ := HI.out.ex
      have HP1 : Hid (PK wr O1 d (pwD (cnt D) i a bs pre) gl gs gn cl cs cn lv1 sv cv1 l1 b1 a1 o1 u1 ∧ Fp O w O1 wr) := ⟨hP1, hF1⟩
      have HPl : Hid (pre.length ≤ k ∧ k ≤ 131072) := ⟨hpl, by have := Hl.out.2.1; have := Hlen.out; omega⟩
      obtain ⟨n, hnE⟩ : ∃ n : Nat, n = pcn a len k := ⟨_, rfl⟩
      have HNE : Hid ((pre ++ [(k, n)]) ++ pcs a bs.length (k + n) = pcs a bs.length 0 ∧ 0 < n ∧ n ≤ r) := by
        have h1 := pcn_pos (a := a) (len := len) (k := k) (by omega)
        have h2 := pcn_le (a := a) (len := len) (k := k) (by omega)
        rw [← hnE] at h1 h2
        refine ⟨?_, h1, by omega⟩
        rw [← Hlen.out] at hpre ⊢
        rw [pcs_cons (by omega), ← hnE] at hpre
        rw [← hpre]
        simp
      have hn0 : 0 < n := HNE.out.2.1
      have hn1 : n ≤ r := HNE.out.2.2
      have hnc : n ≤ cap' := by omega
      have e4 : IntKind.i64.wrap ((q : Int) + (n : Int)) = (q : Int) + (n : Int) := IntWalk.i64_in _ (by omega)
      have HC : Hid (Calls Try.prog 49 #[.slice ad' n cap'] wr.drew fun e w' => ∃ u, e = .returned u ∧ Ow w' wr.drew.heap.size u ((bs.drop k).take n) ∧ Below wr.drew.heap.size wr.drew w') := copyBytes _ _ _ (rb_take9 (rb_fp9 HB.out.rb (hF1.trans (Fp.of_below O1 (Below.refl _ _).drew)) HB.out.out) (by have := Hlen.out; simp; omega)) (by simp; omega)
      have c2 : wr.drew.cell? ⟨d, 2, none⟩ = some (.slice (some ⟨gn, 0, none⟩) 8 cn) := hP1.blk.cell 2
      have hd2 : d < wr.heap.size := hP1.blk.lt
      have p3 : wr.drew.cell? ⟨gn, i, none⟩ = some (cv1 i) := hP1.new.cell hi
      have hcv1 : (cv1 i).oneCell' = true := by obtain ⟨ps, _, hps2, _⟩ := hP1.chs i hi; obtain ⟨a9, n9, c9, e9⟩ := ownsRow_sl hps2; rw [e9]; rfl
      obtain ⟨j0, hj, hz0, hz1, hz2⟩ := info_of infoPc'
      have HJ : Hid (Try.prog.info? 112 = some j0 ∧ j0.zero = some (.agg #[.bool false, .int .i64 0, .slice none 0 0]) ∧ j0.size = 3 ∧ j0.bytes = 40) := ⟨hj, hz0, hz1, hz2⟩
      have e6 : (if 64 - (q : Int) % 64 < (r : Int) then 64 - (q : Int) % 64 else (r : Int)) = (n : Int) := by unfold pcn at hnE; have h1 := Hq.out; have h2 := Hr.out; rw [← h1, ← h2] at hnE; split <;> omega
      clear hj hz0 hz1 hz2 hP1 hF1 hpre hpl hnE HI hr
      go_upto_region 11 with fail
      refine wp_region_noPanic ?_
      refine wp_region_held_drew (S := fun W' => W'.cell? ⟨d, 2, none⟩ = some (.slice (some ⟨gn, 0, none⟩) 8 cn)) (by kernel_rfl) ?_ (fun hHeld => ?_)
      · ((try dsimp only); exact c2)
      (try dsimp only at hHeld)
      refine wpAnyH_take (i := 0) (oi := ⟨some 61, _, _, _, _, _⟩) (v := ?_) rfl (by kernel_rfl) (by kernel_rfl) (by kernel_rfl) (fun _ _ _ h => h) (Or.inl ⟨by rfl, ?_⟩) (by assumption) ?_
      rotate_left
      · (intro w hSw; (try dsimp only at hSw); go_simp; try (with_reducible rfl))
      (try dsimp only); (try simp only [Act.put, List.setIfInBounds_toArray, List.set_cons_zero, List.set_cons_succ])
      refine wpAnyH_take (i := 1) (oi := ⟨some 62, _, _, _, _, _⟩) (v := ?_) rfl (by kernel_rfl) (by kernel_rfl) (by kernel_rfl) (fun _ _ _ h => h) (Or.inl ⟨by rfl, ?_⟩) (by assumption) ?_
      rotate_left
      · (intro w hSw; (try dsimp only at hSw); go_simp; try (with_reducible rfl))
      (try dsimp only); (try simp only [Act.put, List.setIfInBounds_toArray, List.set_cons_zero, List.set_cons_succ])
      refine wpAnyH_take (i := 2) (oi := ⟨some 63, _, _, _, _, _⟩) (v := ?_) rfl (by kernel_rfl) (by kernel_rfl) (by kernel_rfl) (fun _ _ _ h => h) (Or.inl ⟨by rfl, ?_⟩) (by assumption) ?_
      rotate_left
      · (intro w hSw; (try dsimp only at hSw); go_simp; try (with_reducible rfl))
      (try dsimp only); (try simp only [Act.put, List.setIfInBounds_toArray, List.set_cons_zero, List.set_cons_succ])
      refine wpAnyH_take (i := 3) (oi := ⟨some 64, _, _, _, _, _⟩) (v := ?_) rfl (by kernel_rfl) (by kernel_rfl) (by kernel_rfl) (fun _ _ _ h => h) (Or.inl ⟨by rfl, ?_⟩) (by assumption) ?_
      rotate_left
      · (intro w hSw; (try dsimp only at hSw); go_simp; try (with_reducible rfl))
      (try dsimp only); (try simp only [Act.put, List.setIfInBounds_toArray, List.set_cons_zero, List.set_cons_succ])
      refine wpAnyH_take (i := 4) (oi := ⟨some 65, _, _, _, _, _⟩) (v := ?_) rfl (by kernel_rfl) (by kernel_rfl) (by kernel_rfl) (fun _ _ _ h => h) (Or.inl ⟨by rfl, ?_⟩) (by assumption) ?_
      rotate_left
      · (intro w hSw; (try dsimp only at hSw); go_simp; try (with_reducible rfl))
      (try dsimp only); (try simp only [Act.put, List.setIfInBounds_toArray, List.set_cons_zero, List.set_cons_succ])
      refine wpAnyH_take (i := 5) (oi := ⟨some 66, _, _, _, _, _⟩) (v := ?_) rfl (by kernel_rfl) (by kernel_rfl) (by kernel_rfl) (fun _ _ _ h => h) (Or.inl ⟨by rfl, ?_⟩) (by assumption) ?_
      rotate_left
      · (intro w hSw; (try dsimp only at hSw); go_simp; try (with_reducible rfl))
      (try dsimp only); (try simp only [Act.put, List.setIfInBounds_toArray, List.set_cons_zero, List.set_cons_succ])
      refine wpAnyH_take (i := 6) (oi := ⟨some 67, _, _, _, _, _⟩) (v := ?_) rfl (by kernel_rfl) (by kernel_rfl) (by kernel_rfl) (fun _ _ _ h => h) (Or.inl ⟨by rfl, ?_⟩) (by assumption) ?_
      rotate_left
      · (intro w hSw; (try dsimp only at hSw); go_simp; try (with_reducible rfl))
      (try dsimp only); (try simp only [Act.put, List.setIfInBounds_toArray, List.set_cons_zero, List.set_cons_succ])
      refine wpAnyH_take (i := 7) (oi := ⟨some 68, _, _, _, _, _⟩) (v := ?_) rfl (by kernel_rfl) (by kernel_rfl) (by kernel_rfl) (fun _ _ _ h => h) (Or.inl ⟨by rfl, ?_⟩) (by assumption) ?_
      rotate_left
      · (intro w hSw; (try dsimp only at hSw); go_simp; try (with_reducible rfl))
      (try dsimp only); (try simp only [Act.put, List.setIfInBounds_toArray, List.set_cons_zero, List.set_cons_succ])
      refine wpAnyH_take (i := 8) (oi := ⟨some 69, _, _, _, _, _⟩) (v := ?_) rfl (by kernel_rfl) (by kernel_rfl) (by kernel_rfl) (fun _ _ _ h => h) (Or.inl ⟨by rfl, ?_⟩) (by assumption) ?_
      rotate_left
      · (intro w hSw; (try dsimp only at hSw); go_simp; try (with_reducible rfl))
      (try dsimp only); (try simp only [Act.put, List.setIfInBounds_toArray, List.set_cons_zero, List.set_cons_succ])
      refine wpAnyH_take (i := 9) (oi := ⟨some 70, _, _, _, _, _⟩) (v := ?_) rfl (by kernel_rfl) (by kernel_rfl) (by kernel_rfl) (fun _ _ _ h => h) (Or.inl ⟨by rfl, ?_⟩) (by assumption) ?_
      rotate_left
      · (intro w hSw; (try dsimp only at hSw); go_simp; try (with_reducible rfl))
      (try dsimp only); (try simp only [Act.put, List.setIfInBounds_toArray, List.set_cons_zero, List.set_cons_succ])
      refine wpAnyH_take (i := 10) (oi := ⟨some 71, _, _, _, _, _⟩) (v := ?_) rfl (by kernel_rfl) (by kernel_rfl) (by kernel_rfl) (fun _ _ _ h => h) (Or.inl ⟨by rfl, ?_⟩) (by assumption) ?_
      rotate_left
      · (intro w hSw; (try dsimp only at hSw); go_simp; try (with_reducible rfl))
      (try dsimp only); (try simp only [Act.put, List.setIfInBounds_toArray, List.set_cons_zero, List.set_cons_succ])
      refine wpAnyH_take (i := 12) (oi := ⟨some 73, _, _, _, _, _⟩) (v := ?_) rfl (by kernel_rfl) (by kernel_rfl) (by kernel_rfl) (fun _ _ _ h => h) (Or.inl ⟨by rfl, ?_⟩) (by assumption) ?_
      rotate_left
      · (intro w hSw; (try dsimp only at hSw); go_simp; try (with_reducible rfl))
      (try dsimp only); (try simp only [Act.put, List.setIfInBounds_toArray, List.set_cons_zero, List.set_cons_succ])
      refine wpAnyH_take (i := 13) (oi := ⟨some 74, _, _, _, _, _⟩) (v := ?_) rfl (by kernel_rfl) (by kernel_rfl) (by kernel_rfl) (fun _ _ _ h => h) (Or.inl ⟨by rfl, ?_⟩) (by assumption) ?_
      rotate_left
      · (intro w hSw; (try dsimp only at hSw); go_simp; try (with_reducible rfl))
      (try dsimp only); (try simp only [Act.put, List.setIfInBounds_toArray, List.set_cons_zero, List.set_cons_succ])
      refine wpAnyH_take (i := 14) (oi := ⟨some 75, _, _, _, _, _⟩) (v := ?_) rfl (by kernel_rfl) (by kernel_rfl) (by kernel_rfl) (fun _ _ _ h => h) (Or.inl ⟨by rfl, ?_⟩) (by assumption) ?_
      rotate_left
      · (intro w hSw; (try dsimp only at hSw); go_simp; try (with_reducible rfl))
      (try dsimp only); (try simp only [Act.put, List.setIfInBounds_toArray, List.set_cons_zero, List.set_cons_succ])
      refine wpAnyH_take (i := 15) (oi := ⟨some 76, _, _, _, _, _⟩) (v := ?_) rfl (by kernel_rfl) (by kernel_rfl) (by kernel_rfl) (fun _ _ _ h => h) (Or.inl ⟨by rfl, ?_⟩) (by assumption) ?_
      rotate_left
      · (intro w hSw; (try dsimp only at hSw); go_simp; try (with_reducible rfl))
      (try dsimp only); (try simp only [Act.put, List.setIfInBounds_toArray, List.set_cons_zero, List.set_cons_succ])
      refine wpAnyH_ready (rs := [11, 16]) (by kernel_rfl) (by simp) ?_
      refine AllReadyH.cons (o := ⟨some 72, _, _, _, _, _⟩) rfl (fun K hK => ?_) (AllReadyH.cons (o := ⟨some 77, _, _, _, _, _⟩) rfl (fun K hK => ?_) AllReadyH.nil)
      · go_simp
        refine hK.out _ _ hHeld (fun hHeld => ?_)
        clear hK K
        (try dsimp only); (try simp only [Act.put, List.setIfInBounds_toArray, List.set_cons_zero, List.set_cons_succ])
        refine wpAnyH_ready (rs := [16]) (by kernel_rfl) (by simp) ?_
        refine AllReadyH.cons (o := ⟨some 77, _, _, _, _, _⟩) rfl (fun K hK => ?_) AllReadyH.nil
        go_simp
        refine Calls.mono HC.out ?_
        rintro e w2 ⟨u2, rfl, ho2, hb2⟩
        obtain ⟨O2, h2, hF2, ht2, hO2⟩ := (HP1.out.1.frame (w' := wr.drew) (fun _ _ => rfl)).adopt hb2 ho2
        obtain ⟨ad2, n2, cap2, rfl⟩ := ownsRow_sl ho2
        have hA : PK (w2.alloc (.cells (chc ⟨false, q, (bs.drop k).take n⟩ (.slice ad2 n2 cap2)) 112)) O2 d (pwD (cnt D) i a bs pre) gl gs gn cl cs cn lv1 sv cv1 l1 b1 a1 o1 u1 := h2.below ((Below.refl _ _).alloc (Nat.le_refl _) _)
        have HA : Hid (PK (w2.alloc (.cells (chc ⟨false, q, (bs.drop k).take n⟩ (.slice ad2 n2 cap2)) 112)) O2 d (pwD (cnt D) i a bs pre) gl gs gn cl cs cn lv1 sv cv1 l1 b1 a1 o1 u1) := hA
        have HF7 : Hid (Fp O w O2 (w2.alloc (.cells (chc ⟨false, q, (bs.drop k).take n⟩ (.slice ad2 n2 cap2)) 112))) := (HP1.out.2.trans ((Fp.of_below O1 (Below.refl _ _).drew).trans hF2)).trans (Fp.of_below O2 ((Below.refl _ _).alloc (Nat.le_refl _) _))
        have HBv : Hid (Ow (w2.alloc (.cells (chc ⟨false, q, (bs.drop k).take n⟩ (.slice ad2 n2 cap2)) 112)) 0 (.slice ad2 n2 cap2) ((bs.drop k).take n) ∧ ∀ b, (Value.slice ad2 n2 cap2).ownBlock = some b → O2 b = 5) := ⟨ho2.base0.alloc _, ht2⟩
        obtain ⟨ps, hps1, hps2, hps3⟩ := hA.chs i hi
        have HPs : Hid (ps.map Prod.fst = (pwD (cnt D) i a bs pre).chs i ∧ ∀ p ∈ ps, Ow (w2.alloc (.cells (chc ⟨false, q, (bs.drop k).take n⟩ (.slice ad2 n2 cap2)) 112)) 0 p.2 p.1.bs ∧ ∀ b, p.2.ownBlock = some b → O2 b = 5) := ⟨hps1, hps3⟩
        have HL : Hid (ps.length ≤ 1099511627776) := by have e1 : ps.length = ((pwD (cnt D) i a bs pre).chs i).length := (by rw [← hps1, List.length_map]); have e2 : ((pwD (cnt D) i a bs pre).chs i).length = (D.chs i).length + pre.length := (by show (upd D.chs i _ i).length = _; rw [upd_same, List.length_append, List.length_map]; rfl); have e3 := Hl.out.2.2; have e4 := HPl.out; show ps.length ≤ _; omega
        have HRow : Hid ((w2.alloc (.cells (chc ⟨false, q, (bs.drop k).take n⟩ (.slice ad2 n2 cap2)) 112)).ownsRow 0 112 3 (cv1 i) ps.length (ps.flatMap ccells)) := hps2
        have HSrc : Hid (Src Try.prog 3 110 (.slice (some ⟨w2.heap.size, 0, none⟩) 1 1) 1 (ccells (⟨false, q, (bs.drop k).take n⟩, (.slice ad2 n2 cap2))) (w2.alloc (.cells (chc ⟨false, q, (bs.drop k).take n⟩ (.slice ad2 n2 cap2)) 112))) := one_pc (Bk.new w2 _ _) rfl
        have HA2 : Hid ((w2.alloc (.cells (chc ⟨false, q, (bs.drop k).take n⟩ (.slice ad2 n2 cap2)) 112)).cell? ⟨d, 2, none⟩ = some (.slice (some ⟨gn, 0, none⟩) 8 cn)) := hA.blk.cell 2
        have p4 : w2.cell? ⟨gn, i, none⟩ = some (cv1 i) := h2.new.cell hi
        have p4' : (w2.alloc (.cells (chc ⟨false, q, (bs.drop k).take n⟩ (.slice ad2 n2 cap2)) 112)).cell? ⟨gn, i, none⟩ = some (cv1 i) := hA.new.cell hi
        refine hK.out _ _ (h2.blk.cell 2) (fun hHeld => ?_)
        clear hK K ho2 hb2 h2 hF2 ht2 hO2 hA hps1 hps2 hps3
        (try dsimp only); (try simp only [Act.put, List.setIfInBounds_toArray, List.set_cons_zero, List.set_cons_succ])
        refine wpAnyH_take (i := 17) (oi := ⟨some 78, _, _, _, _, _⟩) (v := ?_) rfl (by kernel_rfl) (by kernel_rfl) (by kernel_rfl) (fun _ _ _ h => h) (Or.inl ⟨by rfl, ?_⟩) (by assumption) ?_
        rotate_left
        · (intro w hSw; (try dsimp only at hSw); go_simp; try (with_reducible rfl))
        (try dsimp only); (try simp only [Act.put, List.setIfInBounds_toArray, List.set_cons_zero, List.set_cons_succ])
        refine wpAnyH_ready (rs := [18]) (by kernel_rfl) (by simp) ?_
        refine AllReadyH.cons (o := ⟨some 79, _, _, _, _, _⟩) rfl (fun K hK => ?_) AllReadyH.nil
        go_simp
        refine hK.out _ _ HA2.out (fun hHeld => ?_)
        clear hK K
        (try dsimp only); (try simp only [Act.put, List.setIfInBounds_toArray, List.set_cons_zero, List.set_cons_succ])
        refine wpAnyH_ready (rs := [19]) (by kernel_rfl) (by simp) ?_
        refine AllReadyH.cons (o := ⟨some 80, _, _, _, _, _⟩) rfl (fun K hK => ?_) AllReadyH.nil
        refine step_append_own9 rfl _ _ 110 110 rfl 0 112 j0 (.agg #[.bool false, .int .i64 0, .slice none 0 0]) 3 40 Try.underlying110 HJ.out.1 HJ.out.2.1 HJ.out.2.2.1 HJ.out.2.2.2 rfl (cv1 i) (.slice (some ⟨w2.heap.size, 0, none⟩) 1 1) ps.length (ps.flatMap ccells) 1 (ccells (⟨false, q, (bs.drop k).take n⟩, (.slice ad2 n2 cap2))) rfl rfl HRow.out HSrc.out (by have := HL.out; unfold maxLen; omega) (by have := HL.out; omega) (Nat.zero_le _) ?_
        intro v5 w5 ho5 hg5 hs5
        obtain ⟨hr5, hd5⟩ := HA.out.newAt hi hg5
        obtain ⟨O5, h5, hF5⟩ := HA.out.addCh hi HPs.out HBv.out.1 HBv.out.2 ho5 hg5 hs5
        obtain ⟨ad5, n5, cap5, rfl⟩ := ownsRow_sl ho5
        have p5 := hr5.cell hi
        have pf5 := hr5.frozen i
        have pl5 := hr5.lt
        have H5 : Hid (PWI w O d (cnt D) i a bs gl gs gn cl cs cn sv l1 b1 a1 o1 u1 (k + n) (w5.setCell ⟨gn, i, none⟩ (.slice ad5 n5 cap5))) := ⟨O5, _, _, pre ++ [(k, n)], by have e := h5; rw [show (⟨false, q, (bs.drop k).take n⟩ : Ch) = pch a bs (k, n) from by unfold pch; rw [← Hq.out], pwD_snoc] at e; exact e, HF7.out.trans hF5, HNE.out.1, by have e1 := HPl.out; have e2 := HNE.out.2.1; simp; omega⟩
        have HD5 : Hid ((w5.setCell ⟨gn, i, none⟩ (.slice ad5 n5 cap5)).cell? ⟨d, 2, none⟩ = some (.slice (some ⟨gn, 0, none⟩) 8 cn)) := h5.blk.cell 2
        refine hK.out _ _ (hd5.cell 2) (fun hHeld => ?_)
        clear hK K ho5 hg5 hs5 h5 hF5 hd5 hr5 p3 p4 p4'
        (try dsimp only); (try simp only [Act.put, List.setIfInBounds_toArray, List.set_cons_zero, List.set_cons_succ])
        refine wpAnyH_take (i := 20) (oi := ⟨some 81, _, _, _, _, _⟩) (v := ?_) rfl (by kernel_rfl) (by kernel_rfl) (by kernel_rfl) (fun _ _ _ h => h) (Or.inl ⟨by rfl, ?_⟩) (by assumption) ?_
        rotate_left
        · (intro w hSw; (try dsimp only at hSw); go_simp; try (with_reducible rfl))
        (try dsimp only); (try simp only [Act.put, List.setIfInBounds_toArray, List.set_cons_zero, List.set_cons_succ])
        refine wpAnyH_ready (rs := [21]) (by kernel_rfl) (by simp) ?_
        refine AllReadyH.cons (o := ⟨none, _, _, _, _, _⟩) rfl (fun K hK => ?_) AllReadyH.nil
        go_simp
        refine hK.out _ _ HD5.out (fun hHeld => ?_)
        clear hK K p5 pf5 pl5 HD5
        (try dsimp only); (try simp only [Act.put, List.setIfInBounds_toArray, List.set_cons_zero, List.set_cons_succ])
        refine wpAnyH_done (by kernel_rfl) ?_ _
        refine NoPanic.normal ?_
        generalize (w5.setCell ⟨gn, i, none⟩ (.slice ad5 n5 cap5)) = W9 at *
        clear HA HF7 HBv HPs HL HRow HSrc HA2 HC c2 HP1 HJ
        by_cases g2 : cap' = n
        · have hrn : r = n := by omega
          go_upto_region 12 with fail
          refine wp_region_noPanic ?_
          refine wp_region_held_drew (S := fun _ => True) (by kernel_rfl) ?_ (fun hHeld => ?_)
          · ((try dsimp only); all_goals trivial)
          (try dsimp only at hHeld)
          refine wpAnyH_take (i := 0) (oi := ⟨some 82, _, _, _, _, _⟩) (v := ?_) rfl (by kernel_rfl) (by kernel_rfl) (by kernel_rfl) (fun _ _ _ h => h) (Or.inl ⟨by rfl, ?_⟩) (by assumption) ?_
          rotate_left
          · (intro w hSw; (try dsimp only at hSw); go_simp; try (with_reducible rfl))
          (try dsimp only); (try simp only [Act.put, List.setIfInBounds_toArray, List.set_cons_zero, List.set_cons_succ])
          refine wpAnyH_take (i := 1) (oi := ⟨some 83, _, _, _, _, _⟩) (v := ?_) rfl (by kernel_rfl) (by kernel_rfl) (by kernel_rfl) (fun _ _ _ h => h) (Or.inl ⟨by rfl, ?_⟩) (by assumption) ?_
          rotate_left
          · (intro w hSw; (try dsimp only at hSw); go_simp; try (with_reducible rfl))
          (try dsimp only); (try simp only [Act.put, List.setIfInBounds_toArray, List.set_cons_zero, List.set_cons_succ])
          refine wpAnyH_take (i := 2) (oi := ⟨some 84, _, _, _, _, _⟩) (v := ?_) rfl (by kernel_rfl) (by kernel_rfl) (by kernel_rfl) (fun _ _ _ h => h) (Or.inl ⟨by rfl, ?_⟩) (by assumption) ?_
          rotate_left
          · (intro w hSw; (try dsimp only at hSw); go_simp; try (with_reducible rfl))
          (try dsimp only); (try simp only [Act.put, List.setIfInBounds_toArray, List.set_cons_zero, List.set_cons_succ])
          refine wpAnyH_take (i := 3) (oi := ⟨some 85, _, _, _, _, _⟩) (v := ?_) rfl (by kernel_rfl) (by kernel_rfl) (by kernel_rfl) (fun _ _ _ h => h) (Or.inl ⟨by rfl, ?_⟩) (by assumption) ?_
          rotate_left
          · (intro w hSw; (try dsimp only at hSw); go_simp; try (with_reducible rfl))
          (try dsimp only); (try simp only [Act.put, List.setIfInBounds_toArray, List.set_cons_zero, List.set_cons_succ])
          refine wpAnyH_take (i := 4) (oi := ⟨some 86, _, _, _, _, _⟩) (v := ?_) rfl (by kernel_rfl) (by kernel_rfl) (by kernel_rfl) (fun _ _ _ h => h) (Or.inl ⟨by rfl, ?_⟩) (by assumption) ?_
          rotate_left
          · (intro w hSw; (try dsimp only at hSw); go_simp; try (with_reducible rfl))
          (try dsimp only); (try simp only [Act.put, List.setIfInBounds_toArray, List.set_cons_zero, List.set_cons_succ])
          refine wpAnyH_take (i := 5) (oi := ⟨some 87, _, _, _, _, _⟩) (v := ?_) rfl (by kernel_rfl) (by kernel_rfl) (by kernel_rfl) (fun _ _ _ h => h) (Or.inl ⟨by rfl, ?_⟩) (by assumption) ?_
          rotate_left
          · (intro w hSw; (try dsimp only at hSw); go_simp; try (with_reducible rfl))
          (try dsimp only); (try simp only [Act.put, List.setIfInBounds_toArray, List.set_cons_zero, List.set_cons_succ])
          refine wpAnyH_take (i := 6) (oi := ⟨some 2, _, _, _, _, _⟩) (v := ?_) rfl (by kernel_rfl) (by kernel_rfl) (by kernel_rfl) (fun _ _ _ h => h) (Or.inl ⟨by rfl, ?_⟩) (by assumption) ?_
          rotate_left
          · (intro w hSw; (try dsimp only at hSw); go_simp; try (with_reducible rfl))
          (try dsimp only); (try simp only [Act.put, List.setIfInBounds_toArray, List.set_cons_zero, List.set_cons_succ])
          refine wpAnyH_take (i := 7) (oi := ⟨some 3, _, _, _, _, _⟩) (v := ?_) rfl (by kernel_rfl) (by kernel_rfl) (by kernel_rfl) (fun _ _ _ h => h) (Or.inl ⟨by rfl, ?_⟩) (by assumption) ?_
          rotate_left
          · (intro w hSw; (try dsimp only at hSw); go_simp; try (with_reducible rfl))
          (try dsimp only); (try simp only [Act.put, List.setIfInBounds_toArray, List.set_cons_zero, List.set_cons_succ])
          refine wpAnyH_done (by kernel_rfl) ?_ _
          refine NoPanic.normal ?_
          go_wp2
          go_roundw
          case rel =>
            exact ⟨k + n, _, 0, _, by have := Hr.out; omega, by have := Hr.out; omega, by rw [Hq.out]; go_num, rfl, Nat.zero_le _, HB.out.stop (by rw [← Hlen.out]; exact Hr.out) (by omega) (by rw [← Hlen.out]; exact hk) _ _ (by first | exact .inl rfl | exact .inr rfl), H5.out.drew⟩
          case measure => simp only [lenV]; omega
        · go_upto_region 12 with fail
          refine wp_region_noPanic ?_
          refine wp_region_held_drew (S := fun _ => True) (by kernel_rfl) ?_ (fun hHeld => ?_)
          · ((try dsimp only); all_goals trivial)
          (try dsimp only at hHeld)
          refine wpAnyH_take (i := 0) (oi := ⟨some 82, _, _, _, _, _⟩) (v := ?_) rfl (by kernel_rfl) (by kernel_rfl) (by kernel_rfl) (fun _ _ _ h => h) (Or.inl ⟨by rfl, ?_⟩) (by assumption) ?_
          rotate_left
          · (intro w hSw; (try dsimp only at hSw); go_simp; try (with_reducible rfl))
          (try dsimp only); (try simp only [Act.put, List.setIfInBounds_toArray, List.set_cons_zero, List.set_cons_succ])
          refine wpAnyH_take (i := 1) (oi := ⟨some 83, _, _, _, _, _⟩) (v := ?_) rfl (by kernel_rfl) (by kernel_rfl) (by kernel_rfl) (fun _ _ _ h => h) (Or.inl ⟨by rfl, ?_⟩) (by assumption) ?_
          rotate_left
          · (intro w hSw; (try dsimp only at hSw); go_simp; try (with_reducible rfl))
          (try dsimp only); (try simp only [Act.put, List.setIfInBounds_toArray, List.set_cons_zero, List.set_cons_succ])
          refine wpAnyH_take (i := 2) (oi := ⟨some 84, _, _, _, _, _⟩) (v := ?_) rfl (by kernel_rfl) (by kernel_rfl) (by kernel_rfl) (fun _ _ _ h => h) (Or.inl ⟨by rfl, ?_⟩) (by assumption) ?_
          rotate_left
          · (intro w hSw; (try dsimp only at hSw); go_simp; try (with_reducible rfl))
          (try dsimp only); (try simp only [Act.put, List.setIfInBounds_toArray, List.set_cons_zero, List.set_cons_succ])
          refine wpAnyH_take (i := 3) (oi := ⟨some 85, _, _, _, _, _⟩) (v := ?_) rfl (by kernel_rfl) (by kernel_rfl) (by kernel_rfl) (fun _ _ _ h => h) (Or.inl ⟨by rfl, ?_⟩) (by assumption) ?_
          rotate_left
          · (intro w hSw; (try dsimp only at hSw); go_simp; try (with_reducible rfl))
          (try dsimp only); (try simp only [Act.put, List.setIfInBounds_toArray, List.set_cons_zero, List.set_cons_succ])
          refine wpAnyH_take (i := 4) (oi := ⟨some 86, _, _, _, _, _⟩) (v := ?_) rfl (by kernel_rfl) (by kernel_rfl) (by kernel_rfl) (fun _ _ _ h => h) (Or.inl ⟨by rfl, ?_⟩) (by assumption) ?_
          rotate_left
          · (intro w hSw; (try dsimp only at hSw); go_simp; try (with_reducible rfl))
          (try dsimp only); (try simp only [Act.put, List.setIfInBounds_toArray, List.set_cons_zero, List.set_cons_succ])
          refine wpAnyH_take (i := 5) (oi := ⟨some 87, _, _, _, _, _⟩) (v := ?_) rfl (by kernel_rfl) (by kernel_rfl) (by kernel_rfl) (fun _ _ _ h => h) (Or.inl ⟨by rfl, ?_⟩) (by assumption) ?_
          rotate_left
          · (intro w hSw; (try dsimp only at hSw); go_simp; try (with_reducible rfl))
          (try dsimp only); (try simp only [Act.put, List.setIfInBounds_toArray, List.set_cons_zero, List.set_cons_succ])
          refine wpAnyH_take (i := 6) (oi := ⟨some 2, _, _, _, _, _⟩) (v := ?_) rfl (by kernel_rfl) (by kernel_rfl) (by kernel_rfl) (fun _ _ _ h => h) (Or.inl ⟨by rfl, ?_⟩) (by assumption) ?_
          rotate_left
          · (intro w hSw; (try dsimp only at hSw); go_simp; try (with_reducible rfl))
          (try dsimp only); (try simp only [Act.put, List.setIfInBounds_toArray, List.set_cons_zero, List.set_cons_succ])
          refine wpAnyH_take (i := 7) (oi := ⟨some 3, _, _, _, _, _⟩) (v := ?_) rfl (by kernel_rfl) (by kernel_rfl) (by kernel_rfl) (fun _ _ _ h => h) (Or.inl ⟨by rfl, ?_⟩) (by assumption) ?_
          rotate_left
          · (intro w hSw; (try dsimp only at hSw); go_simp; try (with_reducible rfl))
          (try dsimp only); (try simp only [Act.put, List.setIfInBounds_toArray, List.set_cons_zero, List.set_cons_succ])
          refine wpAnyH_done (by kernel_rfl) ?_ _
          refine NoPanic.normal ?_
          go_wp2
          go_roundw
          case rel =>
            exact ⟨k + n, _, r - n, cap' - n, by have := Hr.out; omega, by have := Hr.out; omega, by rw [Hq.out]; go_num, rfl, by omega, HB.out.step (by rw [← Hlen.out]; exact Hr.out) hn1 hlt, H5.out.drew⟩
          case measure => simp only [lenV]; omega
      · go_simp
        refine Calls.mono HC.out ?_
        rintro e w2 ⟨u2, rfl, ho2, hb2⟩
        obtain ⟨O2, h2, hF2, ht2, hO2⟩ := (HP1.out.1.frame (w' := wr.drew) (fun _ _ => rfl)).adopt hb2 ho2
        obtain ⟨ad2, n2, cap2, rfl⟩ := ownsRow_sl ho2
        have hA : PK (w2.alloc (.cells (chc ⟨false, q, (bs.drop k).take n⟩ (.slice ad2 n2 cap2)) 112)) O2 d (pwD (cnt D) i a bs pre) gl gs gn cl cs cn lv1 sv cv1 l1 b1 a1 o1 u1 := h2.below ((Below.refl _ _).alloc (Nat.le_refl _) _)
        have HA : Hid (PK (w2.alloc (.cells (chc ⟨false, q, (bs.drop k).take n⟩ (.slice ad2 n2 cap2)) 112)) O2 d (pwD (cnt D) i a bs pre) gl gs gn cl cs cn lv1 sv cv1 l1 b1 a1 o1 u1) := hA
        have HF7 : Hid (Fp O w O2 (w2.alloc (.cells (chc ⟨false, q, (bs.drop k).take n⟩ (.slice ad2 n2 cap2)) 112))) := (HP1.out.2.trans ((Fp.of_below O1 (Below.refl _ _).drew).trans hF2)).trans (Fp.of_below O2 ((Below.refl _ _).alloc (Nat.le_refl _) _))
        have HBv : Hid (Ow (w2.alloc (.cells (chc ⟨false, q, (bs.drop k).take n⟩ (.slice ad2 n2 cap2)) 112)) 0 (.slice ad2 n2 cap2) ((bs.drop k).take n) ∧ ∀ b, (Value.slice ad2 n2 cap2).ownBlock = some b → O2 b = 5) := ⟨ho2.base0.alloc _, ht2⟩
        obtain ⟨ps, hps1, hps2, hps3⟩ := hA.chs i hi
        have HPs : Hid (ps.map Prod.fst = (pwD (cnt D) i a bs pre).chs i ∧ ∀ p ∈ ps, Ow (w2.alloc (.cells (chc ⟨false, q, (bs.drop k).take n⟩ (.slice ad2 n2 cap2)) 112)) 0 p.2 p.1.bs ∧ ∀ b, p.2.ownBlock = some b → O2 b = 5) := ⟨hps1, hps3⟩
        have HL : Hid (ps.length ≤ 1099511627776) := by have e1 : ps.length = ((pwD (cnt D) i a bs pre).chs i).length := (by rw [← hps1, List.length_map]); have e2 : ((pwD (cnt D) i a bs pre).chs i).length = (D.chs i).length + pre.length := (by show (upd D.chs i _ i).length = _; rw [upd_same, List.length_append, List.length_map]; rfl); have e3 := Hl.out.2.2; have e4 := HPl.out; show ps.length ≤ _; omega
        have HRow : Hid ((w2.alloc (.cells (chc ⟨false, q, (bs.drop k).take n⟩ (.slice ad2 n2 cap2)) 112)).ownsRow 0 112 3 (cv1 i) ps.length (ps.flatMap ccells)) := hps2
        have HSrc : Hid (Src Try.prog 3 110 (.slice (some ⟨w2.heap.size, 0, none⟩) 1 1) 1 (ccells (⟨false, q, (bs.drop k).take n⟩, (.slice ad2 n2 cap2))) (w2.alloc (.cells (chc ⟨false, q, (bs.drop k).take n⟩ (.slice ad2 n2 cap2)) 112))) := one_pc (Bk.new w2 _ _) rfl
        have HA2 : Hid ((w2.alloc (.cells (chc ⟨false, q, (bs.drop k).take n⟩ (.slice ad2 n2 cap2)) 112)).cell? ⟨d, 2, none⟩ = some (.slice (some ⟨gn, 0, none⟩) 8 cn)) := hA.blk.cell 2
        have p4 : w2.cell? ⟨gn, i, none⟩ = some (cv1 i) := h2.new.cell hi
        have p4' : (w2.alloc (.cells (chc ⟨false, q, (bs.drop k).take n⟩ (.slice ad2 n2 cap2)) 112)).cell? ⟨gn, i, none⟩ = some (cv1 i) := hA.new.cell hi
        refine hK.out _ _ (h2.blk.cell 2) (fun hHeld => ?_)
        clear hK K ho2 hb2 h2 hF2 ht2 hO2 hA hps1 hps2 hps3
        (try dsimp only); (try simp only [Act.put, List.setIfInBounds_toArray, List.set_cons_zero, List.set_cons_succ])
        refine wpAnyH_take (i := 17) (oi := ⟨some 78, _, _, _, _, _⟩) (v := ?_) rfl (by kernel_rfl) (by kernel_rfl) (by kernel_rfl) (fun _ _ _ h => h) (Or.inl ⟨by rfl, ?_⟩) (by assumption) ?_
        rotate_left
        · (intro w hSw; (try dsimp only at hSw); go_simp; try (with_reducible rfl))
        (try dsimp only); (try simp only [Act.put, List.setIfInBounds_toArray, List.set_cons_zero, List.set_cons_succ])
        refine wpAnyH_ready (rs := [11, 18]) (by kernel_rfl) (by simp) ?_
        refine AllReadyH.cons (o := ⟨some 72, _, _, _, _, _⟩) rfl (fun K hK => ?_) (AllReadyH.cons (o := ⟨some 79, _, _, _, _, _⟩) rfl (fun K hK => ?_) AllReadyH.nil)
        · go_simp
          refine hK.out _ _ hHeld (fun hHeld => ?_)
          clear hK K
          (try dsimp only); (try simp only [Act.put, List.setIfInBounds_toArray, List.set_cons_zero, List.set_cons_succ])
          refine wpAnyH_ready (rs := [18]) (by kernel_rfl) (by simp) ?_
          refine AllReadyH.cons (o := ⟨some 79, _, _, _, _, _⟩) rfl (fun K hK => ?_) AllReadyH.nil
          go_simp
          refine hK.out _ _ HA2.out (fun hHeld => ?_)
          clear hK K
          (try dsimp only); (try simp only [Act.put, List.setIfInBounds_toArray, List.set_cons_zero, List.set_cons_succ])
          refine wpAnyH_ready (rs := [19]) (by kernel_rfl) (by simp) ?_
          refine AllReadyH.cons (o := ⟨some 80, _, _, _, _, _⟩) rfl (fun K hK => ?_) AllReadyH.nil
          refine step_append_own9 rfl _ _ 110 110 rfl 0 112 j0 (.agg #[.bool false, .int .i64 0, .slice none 0 0]) 3 40 Try.underlying110 HJ.out.1 HJ.out.2.1 HJ.out.2.2.1 HJ.out.2.2.2 rfl (cv1 i) (.slice (some ⟨w2.heap.size, 0, none⟩) 1 1) ps.length (ps.flatMap ccells) 1 (ccells (⟨false, q, (bs.drop k).take n⟩, (.slice ad2 n2 cap2))) rfl rfl HRow.out HSrc.out (by have := HL.out; unfold maxLen; omega) (by have := HL.out; omega) (Nat.zero_le _) ?_
          intro v5 w5 ho5 hg5 hs5
          obtain ⟨hr5, hd5⟩ := HA.out.newAt hi hg5
          obtain ⟨O5, h5, hF5⟩ := HA.out.addCh hi HPs.out HBv.out.1 HBv.out.2 ho5 hg5 hs5
          obtain ⟨ad5, n5, cap5, rfl⟩ := ownsRow_sl ho5
          have p5 := hr5.cell hi
          have pf5 := hr5.frozen i
          have pl5 := hr5.lt
          have H5 : Hid (PWI w O d (cnt D) i a bs gl gs gn cl cs cn sv l1 b1 a1 o1 u1 (k + n) (w5.setCell ⟨gn, i, none⟩ (.slice ad5 n5 cap5))) := ⟨O5, _, _, pre ++ [(k, n)], by have e := h5; rw [show (⟨false, q, (bs.drop k).take n⟩ : Ch) = pch a bs (k, n) from by unfold pch; rw [← Hq.out], pwD_snoc] at e; exact e, HF7.out.trans hF5, HNE.out.1, by have e1 := HPl.out; have e2 := HNE.out.2.1; simp; omega⟩
          have HD5 : Hid ((w5.setCell ⟨gn, i, none⟩ (.slice ad5 n5 cap5)).cell? ⟨d, 2, none⟩ = some (.slice (some ⟨gn, 0, none⟩) 8 cn)) := h5.blk.cell 2
          refine hK.out _ _ (hd5.cell 2) (fun hHeld => ?_)
          clear hK K ho5 hg5 hs5 h5 hF5 hd5 hr5 p3 p4 p4'
          (try dsimp only); (try simp only [Act.put, List.setIfInBounds_toArray, List.set_cons_zero, List.set_cons_succ])
          refine wpAnyH_take (i := 20) (oi := ⟨some 81, _, _, _, _, _⟩) (v := ?_) rfl (by kernel_rfl) (by kernel_rfl) (by kernel_rfl) (fun _ _ _ h => h) (Or.inl ⟨by rfl, ?_⟩) (by assumption) ?_
          rotate_left
          · (intro w hSw; (try dsimp only at hSw); go_simp; try (with_reducible rfl))
          (try dsimp only); (try simp only [Act.put, List.setIfInBounds_toArray, List.set_cons_zero, List.set_cons_succ])
          refine wpAnyH_ready (rs := [21]) (by kernel_rfl) (by simp) ?_
          refine AllReadyH.cons (o := ⟨none, _, _, _, _, _⟩) rfl (fun K hK => ?_) AllReadyH.nil
          go_simp
          refine hK.out _ _ HD5.out (fun hHeld => ?_)
          clear hK K p5 pf5 pl5 HD5
          (try dsimp only); (try simp only [Act.put, List.setIfInBounds_toArray, List.set_cons_zero, List.set_cons_succ])
          refine wpAnyH_done (by kernel_rfl) ?_ _
          refine NoPanic.normal ?_
          generalize (w5.setCell ⟨gn, i, none⟩ (.slice ad5 n5 cap5)) = W9 at *
          clear HA HF7 HBv HPs HL HRow HSrc HA2 HC c2 HP1 HJ
          by_cases g2 : cap' = n
          · have hrn : r = n := by omega
            go_upto_region 12 with fail
            refine wp_region_noPanic ?_
            refine wp_region_held_drew (S := fun _ => True) (by kernel_rfl) ?_ (fun hHeld => ?_)
            · ((try dsimp only); all_goals trivial)
            (try dsimp only at hHeld)
            refine wpAnyH_take (i := 0) (oi := ⟨some 82, _, _, _, _, _⟩) (v := ?_) rfl (by kernel_rfl) (by kernel_rfl) (by kernel_rfl) (fun _ _ _ h => h) (Or.inl ⟨by rfl, ?_⟩) (by assumption) ?_
            rotate_left
            · (intro w hSw; (try dsimp only at hSw); go_simp; try (with_reducible rfl))
            (try dsimp only); (try simp only [Act.put, List.setIfInBounds_toArray, List.set_cons_zero, List.set_cons_succ])
            refine wpAnyH_take (i := 1) (oi := ⟨some 83, _, _, _, _, _⟩) (v := ?_) rfl (by kernel_rfl) (by kernel_rfl) (by kernel_rfl) (fun _ _ _ h => h) (Or.inl ⟨by rfl, ?_⟩) (by assumption) ?_
            rotate_left
            · (intro w hSw; (try dsimp only at hSw); go_simp; try (with_reducible rfl))
            (try dsimp only); (try simp only [Act.put, List.setIfInBounds_toArray, List.set_cons_zero, List.set_cons_succ])
            refine wpAnyH_take (i := 2) (oi := ⟨some 84, _, _, _, _, _⟩) (v := ?_) rfl (by kernel_rfl) (by kernel_rfl) (by kernel_rfl) (fun _ _ _ h => h) (Or.inl ⟨by rfl, ?_⟩) (by assumption) ?_
            rotate_left
            · (intro w hSw; (try dsimp only at hSw); go_simp; try (with_reducible rfl))
            (try dsimp only); (try simp only [Act.put, List.setIfInBounds_toArray, List.set_cons_zero, List.set_cons_succ])
            refine wpAnyH_take (i := 3) (oi := ⟨some 85, _, _, _, _, _⟩) (v := ?_) rfl (by kernel_rfl) (by kernel_rfl) (by kernel_rfl) (fun _ _ _ h => h) (Or.inl ⟨by rfl, ?_⟩) (by assumption) ?_
            rotate_left
            · (intro w hSw; (try dsimp only at hSw); go_simp; try (with_reducible rfl))
            (try dsimp only); (try simp only [Act.put, List.setIfInBounds_toArray, List.set_cons_zero, List.set_cons_succ])
            refine wpAnyH_take (i := 4) (oi := ⟨some 86, _, _, _, _, _⟩) (v := ?_) rfl (by kernel_rfl) (by kernel_rfl) (by kernel_rfl) (fun _ _ _ h => h) (Or.inl ⟨by rfl, ?_⟩) (by assumption) ?_
            rotate_left
            · (intro w hSw; (try dsimp only at hSw); go_simp; try (with_reducible rfl))
            (try dsimp only); (try simp only [Act.put, List.setIfInBounds_toArray, List.set_cons_zero, List.set_cons_succ])
            refine wpAnyH_take (i := 5) (oi := ⟨some 87, _, _, _, _, _⟩) (v := ?_) rfl (by kernel_rfl) (by kernel_rfl) (by kernel_rfl) (fun _ _ _ h => h) (Or.inl ⟨by rfl, ?_⟩) (by assumption) ?_
            rotate_left
            · (intro w hSw; (try dsimp only at hSw); go_simp; try (with_reducible rfl))
            (try dsimp only); (try simp only [Act.put, List.setIfInBounds_toArray, List.set_cons_zero, List.set_cons_succ])
            refine wpAnyH_take (i := 6) (oi := ⟨some 2, _, _, _, _, _⟩) (v := ?_) rfl (by kernel_rfl) (by kernel_rfl) (by kernel_rfl) (fun _ _ _ h => h) (Or.inl ⟨by rfl, ?_⟩) (by assumption) ?_
            rotate_left
            · (intro w hSw; (try dsimp only at hSw); go_simp; try (with_reducible rfl))
            (try dsimp only); (try simp only [Act.put, List.setIfInBounds_toArray, List.set_cons_zero, List.set_cons_succ])
            refine wpAnyH_take (i := 7) (oi := ⟨some 3, _, _, _, _, _⟩) (v := ?_) rfl (by kernel_rfl) (by kernel_rfl) (by kernel_rfl) (fun _ _ _ h => h) (Or.inl ⟨by rfl, ?_⟩) (by assumption) ?_
            rotate_left
            · (intro w hSw; (try dsimp only at hSw); go_simp; try (with_reducible rfl))
            (try dsimp only); (try simp only [Act.put, List.setIfInBounds_toArray, List.set_cons_zero, List.set_cons_succ])
            refine wpAnyH_done (by kernel_rfl) ?_ _
            refine NoPanic.normal ?_
            go_wp2
            go_roundw
            case rel =>
              exact ⟨k + n, _, 0, _, by have := Hr.out; omega, by have := Hr.out; omega, by rw [Hq.out]; go_num, rfl, Nat.zero_le _, HB.out.stop (by rw [← Hlen.out]; exact Hr.out) (by omega) (by rw [← Hlen.out]; exact hk) _ _ (by first | exact .inl rfl | exact .inr rfl), H5.out.drew⟩
            case measure => simp only [lenV]; omega
          · go_upto_region 12 with fail
            refine wp_region_noPanic ?_
            refine wp_region_held_drew (S := fun _ => True) (by kernel_rfl) ?_ (fun hHeld => ?_)
            · ((try dsimp only); all_goals trivial)
            (try dsimp only at hHeld)
            refine wpAnyH_take (i := 0) (oi := ⟨some 82, _, _, _, _, _⟩) (v := ?_) rfl (by kernel_rfl) (by kernel_rfl) (by kernel_rfl) (fun _ _ _ h => h) (Or.inl ⟨by rfl, ?_⟩) (by assumption) ?_
            rotate_left
            · (intro w hSw; (try dsimp only at hSw); go_simp; try (with_reducible rfl))
            (try dsimp only); (try simp only [Act.put, List.setIfInBounds_toArray, List.set_cons_zero, List.set_cons_succ])
            refine wpAnyH_take (i := 1) (oi := ⟨some 83, _, _, _, _, _⟩) (v := ?_) rfl (by kernel_rfl) (by kernel_rfl) (by kernel_rfl) (fun _ _ _ h => h) (Or.inl ⟨by rfl, ?_⟩) (by assumption) ?_
            rotate_left
            · (intro w hSw; (try dsimp only at hSw); go_simp; try (with_reducible rfl))
            (try dsimp only); (try simp only [Act.put, List.setIfInBounds_toArray, List.set_cons_zero, List.set_cons_succ])
            refine wpAnyH_take (i := 2) (oi := ⟨some 84, _, _, _, _, _⟩) (v := ?_) rfl (by kernel_rfl) (by kernel_rfl) (by kernel_rfl) (fun _ _ _ h => h) (Or.inl ⟨by rfl, ?_⟩) (by assumption) ?_
            rotate_left
            · (intro w hSw; (try dsimp only at hSw); go_simp; try (with_reducible rfl))
            (try dsimp only); (try simp only [Act.put, List.setIfInBounds_toArray, List.set_cons_zero, List.set_cons_succ])
            refine wpAnyH_take (i := 3) (oi := ⟨some 85, _, _, _, _, _⟩) (v := ?_) rfl (by kernel_rfl) (by kernel_rfl) (by kernel_rfl) (fun _ _ _ h => h) (Or.inl ⟨by rfl, ?_⟩) (by assumption) ?_
            rotate_left
            · (intro w hSw; (try dsimp only at hSw); go_simp; try (with_reducible rfl))
            (try dsimp only); (try simp only [Act.put, List.setIfInBounds_toArray, List.set_cons_zero, List.set_cons_succ])
            refine wpAnyH_take (i := 4) (oi := ⟨some 86, _, _, _, _, _⟩) (v := ?_) rfl (by kernel_rfl) (by kernel_rfl) (by kernel_rfl) (fun _ _ _ h => h) (Or.inl ⟨by rfl, ?_⟩) (by assumption) ?_
            rotate_left
            · (intro w hSw; (try dsimp only at hSw); go_simp; try (with_reducible rfl))
            (try dsimp only); (try simp only [Act.put, List.setIfInBounds_toArray, List.set_cons_zero, List.set_cons_succ])
            refine wpAnyH_take (i := 5) (oi := ⟨some 87, _, _, _, _, _⟩) (v := ?_) rfl (by kernel_rfl) (by kernel_rfl) (by kernel_rfl) (fun _ _ _ h => h) (Or.inl ⟨by rfl, ?_⟩) (by assumption) ?_
            rotate_left
            · (intro w hSw; (try dsimp only at hSw); go_simp; try (with_reducible rfl))
            (try dsimp only); (try simp only [Act.put, List.setIfInBounds_toArray, List.set_cons_zero, List.set_cons_succ])
            refine wpAnyH_take (i := 6) (oi := ⟨some 2, _, _, _, _, _⟩) (v := ?_) rfl (by kernel_rfl) (by kernel_rfl) (by kernel_rfl) (fun _ _ _ h => h) (Or.inl ⟨by rfl, ?_⟩) (by assumption) ?_
            rotate_left
            · (intro w hSw; (try dsimp only at hSw); go_simp; try (with_reducible rfl))
            (try dsimp only); (try simp only [Act.put, List.setIfInBounds_toArray, List.set_cons_zero, List.set_cons_succ])
            refine wpAnyH_take (i := 7) (oi := ⟨some 3, _, _, _, _, _⟩) (v := ?_) rfl (by kernel_rfl) (by kernel_rfl) (by kernel_rfl) (fun _ _ _ h => h) (Or.inl ⟨by rfl, ?_⟩) (by assumption) ?_
            rotate_left
            · (intro w hSw; (try dsimp only at hSw); go_simp; try (with_reducible rfl))
            (try dsimp only); (try simp only [Act.put, List.setIfInBounds_toArray, List.set_cons_zero, List.set_cons_succ])
            refine wpAnyH_done (by kernel_rfl) ?_ _
            refine NoPanic.normal ?_
            go_wp2
            go_roundw
            case rel =>
              exact ⟨k + n, _, r - n, cap' - n, by have := Hr.out; omega, by have := Hr.out; omega, by rw [Hq.out]; go_num, rfl, by omega, HB.out.step (by rw [← Hlen.out]; exact Hr.out) hn1 hlt, H5.out.drew⟩
            case measure => simp only [lenV]; omega
        · go_simp
          refine hK.out _ _ HA2.out (fun hHeld => ?_)
          clear hK K
          (try dsimp only); (try simp only [Act.put, List.setIfInBounds_toArray, List.set_cons_zero, List.set_cons_succ])
          refine wpAnyH_ready (rs := [11]) (by kernel_rfl) (by simp) ?_
          refine AllReadyH.cons (o := ⟨some 72, _, _, _, _, _⟩) rfl (fun K hK => ?_) AllReadyH.nil
          go_simp
          refine hK.out _ _ hHeld (fun hHeld => ?_)
          clear hK K
          (try dsimp only); (try simp only [Act.put, List.setIfInBounds_toArray, List.set_cons_zero, List.set_cons_succ])
          refine wpAnyH_ready (rs := [19]) (by kernel_rfl) (by simp) ?_
          refine AllReadyH.cons (o := ⟨some 80, _, _, _, _, _⟩) rfl (fun K hK => ?_) AllReadyH.nil
          refine step_append_own9 rfl _ _ 110 110 rfl 0 112 j0 (.agg #[.bool false, .int .i64 0, .slice none 0 0]) 3 40 Try.underlying110 HJ.out.1 HJ.out.2.1 HJ.out.2.2.1 HJ.out.2.2.2 rfl (cv1 i) (.slice (some ⟨w2.heap.size, 0, none⟩) 1 1) ps.length (ps.flatMap ccells) 1 (ccells (⟨false, q, (bs.drop k).take n⟩, (.slice ad2 n2 cap2))) rfl rfl HRow.out HSrc.out (by have := HL.out; unfold maxLen; omega) (by have := HL.out; omega) (Nat.zero_le _) ?_
          intro v5 w5 ho5 hg5 hs5
          obtain ⟨hr5, hd5⟩ := HA.out.newAt hi hg5
          obtain ⟨O5, h5, hF5⟩ := HA.out.addCh hi HPs.out HBv.out.1 HBv.out.2 ho5 hg5 hs5
          obtain ⟨ad5, n5, cap5, rfl⟩ := ownsRow_sl ho5
          have p5 := hr5.cell hi
          have pf5 := hr5.frozen i
          have pl5 := hr5.lt
          have H5 : Hid (PWI w O d (cnt D) i a bs gl gs gn cl cs cn sv l1 b1 a1 o1 u1 (k + n) (w5.setCell ⟨gn, i, none⟩ (.slice ad5 n5 cap5))) := ⟨O5, _, _, pre ++ [(k, n)], by have e := h5; rw [show (⟨false, q, (bs.drop k).take n⟩ : Ch) = pch a bs (k, n) from by unfold pch; rw [← Hq.out], pwD_snoc] at e; exact e, HF7.out.trans hF5, HNE.out.1, by have e1 := HPl.out; have e2 := HNE.out.2.1; simp; omega⟩
          have HD5 : Hid ((w5.setCell ⟨gn, i, none⟩ (.slice ad5 n5 cap5)).cell? ⟨d, 2, none⟩ = some (.slice (some ⟨gn, 0, none⟩) 8 cn)) := h5.blk.cell 2
          refine hK.out _ _ (hd5.cell 2) (fun hHeld => ?_)
          clear hK K ho5 hg5 hs5 h5 hF5 hd5 hr5 p3 p4 p4'
          (try dsimp only); (try simp only [Act.put, List.setIfInBounds_toArray, List.set_cons_zero, List.set_cons_succ])
          refine wpAnyH_take (i := 20) (oi := ⟨some 81, _, _, _, _, _⟩) (v := ?_) rfl (by kernel_rfl) (by kernel_rfl) (by kernel_rfl) (fun _ _ _ h => h) (Or.inl ⟨by rfl, ?_⟩) (by assumption) ?_
          rotate_left
          · (intro w hSw; (try dsimp only at hSw); go_simp; try (with_reducible rfl))
          (try dsimp only); (try simp only [Act.put, List.setIfInBounds_toArray, List.set_cons_zero, List.set_cons_succ])
          refine wpAnyH_ready (rs := [21]) (by kernel_rfl) (by simp) ?_
          refine AllReadyH.cons (o := ⟨none, _, _, _, _, _⟩) rfl (fun K hK => ?_) AllReadyH.nil
          go_simp
          refine hK.out _ _ HD5.out (fun hHeld => ?_)
          clear hK K p5 pf5 pl5 HD5
          (try dsimp only); (try simp only [Act.put, List.setIfInBounds_toArray, List.set_cons_zero, List.set_cons_succ])
          refine wpAnyH_done (by kernel_rfl) ?_ _
          refine NoPanic.normal ?_
          generalize (w5.setCell ⟨gn, i, none⟩ (.slice ad5 n5 cap5)) = W9 at *
          clear HA HF7 HBv HPs HL HRow HSrc HA2 HC c2 HP1 HJ
          by_cases g2 : cap' = n
          · have hrn : r = n := by omega
            go_upto_region 12 with fail
            refine wp_region_noPanic ?_
            refine wp_region_held_drew (S := fun _ => True) (by kernel_rfl) ?_ (fun hHeld => ?_)
            · ((try dsimp only); all_goals trivial)
            (try dsimp only at hHeld)
            refine wpAnyH_take (i := 0) (oi := ⟨some 82, _, _, _, _, _⟩) (v := ?_) rfl (by kernel_rfl) (by kernel_rfl) (by kernel_rfl) (fun _ _ _ h => h) (Or.inl ⟨by rfl, ?_⟩) (by assumption) ?_
            rotate_left
            · (intro w hSw; (try dsimp only at hSw); go_simp; try (with_reducible rfl))
            (try dsimp only); (try simp only [Act.put, List.setIfInBounds_toArray, List.set_cons_zero, List.set_cons_succ])
            refine wpAnyH_take (i := 1) (oi := ⟨some 83, _, _, _, _, _⟩) (v := ?_) rfl (by kernel_rfl) (by kernel_rfl) (by kernel_rfl) (fun _ _ _ h => h) (Or.inl ⟨by rfl, ?_⟩) (by assumption) ?_
            rotate_left
            · (intro w hSw; (try dsimp only at hSw); go_simp; try (with_reducible rfl))
            (try dsimp only); (try simp only [Act.put, List.setIfInBounds_toArray, List.set_cons_zero, List.set_cons_succ])
            refine wpAnyH_take (i := 2) (oi := ⟨some 84, _, _, _, _, _⟩) (v := ?_) rfl (by kernel_rfl) (by kernel_rfl) (by kernel_rfl) (fun _ _ _ h => h) (Or.inl ⟨by rfl, ?_⟩) (by assumption) ?_
            rotate_left
            · (intro w hSw; (try dsimp only at hSw); go_simp; try (with_reducible rfl))
            (try dsimp only); (try simp only [Act.put, List.setIfInBounds_toArray, List.set_cons_zero, List.set_cons_succ])
            refine wpAnyH_take (i := 3) (oi := ⟨some 85, _, _, _, _, _⟩) (v := ?_) rfl (by kernel_rfl) (by kernel_rfl) (by kernel_rfl) (fun _ _ _ h => h) (Or.inl ⟨by rfl, ?_⟩) (by assumption) ?_
            rotate_left
            · (intro w hSw; (try dsimp only at hSw); go_simp; try (with_reducible rfl))
            (try dsimp only); (try simp only [Act.put, List.setIfInBounds_toArray, List.set_cons_zero, List.set_cons_succ])
            refine wpAnyH_take (i := 4) (oi := ⟨some 86, _, _, _, _, _⟩) (v := ?_) rfl (by kernel_rfl) (by kernel_rfl) (by kernel_rfl) (fun _ _ _ h => h) (Or.inl ⟨by rfl, ?_⟩) (by assumption) ?_
            rotate_left
            · (intro w hSw; (try dsimp only at hSw); go_simp; try (with_reducible rfl))
            (try dsimp only); (try simp only [Act.put, List.setIfInBounds_toArray, List.set_cons_zero, List.set_cons_succ])
            refine wpAnyH_take (i := 5) (oi := ⟨some 87, _, _, _, _, _⟩) (v := ?_) rfl (by kernel_rfl) (by kernel_rfl) (by kernel_rfl) (fun _ _ _ h => h) (Or.inl ⟨by rfl, ?_⟩) (by assumption) ?_
            rotate_left
            · (intro w hSw; (try dsimp only at hSw); go_simp; try (with_reducible rfl))
            (try dsimp only); (try simp only [Act.put, List.setIfInBounds_toArray, List.set_cons_zero, List.set_cons_succ])
            refine wpAnyH_take (i := 6) (oi := ⟨some 2, _, _, _, _, _⟩) (v := ?_) rfl (by kernel_rfl) (by kernel_rfl) (by kernel_rfl) (fun _ _ _ h => h) (Or.inl ⟨by rfl, ?_⟩) (by assumption) ?_
            rotate_left
            · (intro w hSw; (try dsimp only at hSw); go_simp; try (with_reducible rfl))
            (try dsimp only); (try simp only [Act.put, List.setIfInBounds_toArray, List.set_cons_zero, List.set_cons_succ])
            refine wpAnyH_take (i := 7) (oi := ⟨some 3, _, _, _, _, _⟩) (v := ?_) rfl (by kernel_rfl) (by kernel_rfl) (by kernel_rfl) (fun _ _ _ h => h) (Or.inl ⟨by rfl, ?_⟩) (by assumption) ?_
            rotate_left
            · (intro w hSw; (try dsimp only at hSw); go_simp; try (with_reducible rfl))
            (try dsimp only); (try simp only [Act.put, List.setIfInBounds_toArray, List.set_cons_zero, List.set_cons_succ])
            refine wpAnyH_done (by kernel_rfl) ?_ _
            refine NoPanic.normal ?_
            go_wp2
            go_roundw
            case rel =>
              exact ⟨k + n, _, 0, _, by have := Hr.out; omega, by have := Hr.out; omega, by rw [Hq.out]; go_num, rfl, Nat.zero_le _, HB.out.stop (by rw [← Hlen.out]; exact Hr.out) (by omega) (by rw [← Hlen.out]; exact hk) _ _ (by first | exact .inl rfl | exact .inr rfl), H5.out.drew⟩
            case measure => simp only [lenV]; omega
          · go_upto_region 12 with fail
            refine wp_region_noPanic ?_
            refine wp_region_held_drew (S := fun _ => True) (by kernel_rfl) ?_ (fun hHeld => ?_)
            · ((try dsimp only); all_goals trivial)
            (try dsimp only at hHeld)
            refine wpAnyH_take (i := 0) (oi := ⟨some 82, _, _, _, _, _⟩) (v := ?_) rfl (by kernel_rfl) (by kernel_rfl) (by kernel_rfl) (fun _ _ _ h => h) (Or.inl ⟨by rfl, ?_⟩) (by assumption) ?_
            rotate_left
            · (intro w hSw; (try dsimp only at hSw); go_simp; try (with_reducible rfl))
            (try dsimp only); (try simp only [Act.put, List.setIfInBounds_toArray, List.set_cons_zero, List.set_cons_succ])
            refine wpAnyH_take (i := 1) (oi := ⟨some 83, _, _, _, _, _⟩) (v := ?_) rfl (by kernel_rfl) (by kernel_rfl) (by kernel_rfl) (fun _ _ _ h => h) (Or.inl ⟨by rfl, ?_⟩) (by assumption) ?_
            rotate_left
            · (intro w hSw; (try dsimp only at hSw); go_simp; try (with_reducible rfl))
            (try dsimp only); (try simp only [Act.put, List.setIfInBounds_toArray, List.set_cons_zero, List.set_cons_succ])
            refine wpAnyH_take (i := 2) (oi := ⟨some 84, _, _, _, _, _⟩) (v := ?_) rfl (by kernel_rfl) (by kernel_rfl) (by kernel_rfl) (fun _ _ _ h => h) (Or.inl ⟨by rfl, ?_⟩) (by assumption) ?_
            rotate_left
            · (intro w hSw; (try dsimp only at hSw); go_simp; try (with_reducible rfl))
            (try dsimp only); (try simp only [Act.put, List.setIfInBounds_toArray, List.set_cons_zero, List.set_cons_succ])
            refine wpAnyH_take (i := 3) (oi := ⟨some 85, _, _, _, _, _⟩) (v := ?_) rfl (by kernel_rfl) (by kernel_rfl) (by kernel_rfl) (fun _ _ _ h => h) (Or.inl ⟨by rfl, ?_⟩) (by assumption) ?_
            rotate_left
            · (intro w hSw; (try dsimp only at hSw); go_simp; try (with_reducible rfl))
            (try dsimp only); (try simp only [Act.put, List.setIfInBounds_toArray, List.set_cons_zero, List.set_cons_succ])
            refine wpAnyH_take (i := 4) (oi := ⟨some 86, _, _, _, _, _⟩) (v := ?_) rfl (by kernel_rfl) (by kernel_rfl) (by kernel_rfl) (fun _ _ _ h => h) (Or.inl ⟨by rfl, ?_⟩) (by assumption) ?_
            rotate_left
            · (intro w hSw; (try dsimp only at hSw); go_simp; try (with_reducible rfl))
            (try dsimp only); (try simp only [Act.put, List.setIfInBounds_toArray, List.set_cons_zero, List.set_cons_succ])
            refine wpAnyH_take (i := 5) (oi := ⟨some 87, _, _, _, _, _⟩) (v := ?_) rfl (by kernel_rfl) (by kernel_rfl) (by kernel_rfl) (fun _ _ _ h => h) (Or.inl ⟨by rfl, ?_⟩) (by assumption) ?_
            rotate_left
            · (intro w hSw; (try dsimp only at hSw); go_simp; try (with_reducible rfl))
            (try dsimp only); (try simp only [Act.put, List.setIfInBounds_toArray, List.set_cons_zero, List.set_cons_succ])
            refine wpAnyH_take (i := 6) (oi := ⟨some 2, _, _, _, _, _⟩) (v := ?_) rfl (by kernel_rfl) (by kernel_rfl) (by kernel_rfl) (fun _ _ _ h => h) (Or.inl ⟨by rfl, ?_⟩) (by assumption) ?_
            rotate_left
            · (intro w hSw; (try dsimp only at hSw); go_simp; try (with_reducible rfl))
            (try dsimp only); (try simp only [Act.put, List.setIfInBounds_toArray, List.set_cons_zero, List.set_cons_succ])
            refine wpAnyH_take (i := 7) (oi := ⟨some 3, _, _, _, _, _⟩) (v := ?_) rfl (by kernel_rfl) (by kernel_rfl) (by kernel_rfl) (fun _ _ _ h => h) (Or.inl ⟨by rfl, ?_⟩) (by assumption) ?_
            rotate_left
            · (intro w hSw; (try dsimp only at hSw); go_simp; try (with_reducible rfl))
            (try dsimp only); (try simp only [Act.put, List.setIfInBounds_toArray, List.set_cons_zero, List.set_cons_succ])
            refine wpAnyH_done (by kernel_rfl) ?_ _
            refine NoPanic.normal ?_
            go_wp2
            go_roundw
            case rel =>
              exact ⟨k + n, _, r - n, cap' - n, by have := Hr.out; omega, by have := Hr.out; omega, by rw [Hq.out]; go_num, rfl, by omega, HB.out.step (by rw [← Hlen.out]; exact Hr.out) hn1 hlt, H5.out.drew⟩
            case measure => simp only [lenV]; omega
    · have hlt' : ¬ (0 : Int) < (r : Int) := by omega
      have HE : Hid (∃ O', PKw wr O' d (pwD (cnt D) i a bs (pcs a len 0)) ∧ Fp O w O' wr) := by
        show ∃ O', PKw wr O' d (pwD (cnt D) i a bs (pcs a len 0)) ∧ Fp O w O' wr
        rw [Hlen.out]
        obtain ⟨O', lv', cv', pre, r1, r2, r3, r4⟩ := HI.out.ex
        have e : k = bs.length := by have := Hlen.out; omega
        rw [e, pcs_nil (by omega), List.append_nil] at r3
        rw [← r3]
        exact ⟨O', r1.w, r2⟩
      go_wp2_with fail
      go_ret
      exact ⟨rfl, HE.out⟩
end
end Go.Proofs.Ytljhhdpeakencaa

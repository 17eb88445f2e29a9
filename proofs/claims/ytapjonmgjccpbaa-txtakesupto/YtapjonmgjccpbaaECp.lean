import Derived.Test.YtapjonmgjccpbaaJ5
import Derived.Deep.RegionWith
set_option linter.unusedSimpArgs false
set_option linter.unusedVariables false
set_option maxRecDepth 100000
namespace Go.Proofs.Ytapjonmgjccpbaa
open Go.RowKit

/-! slices.Clone of items; item.copied, item.copies: a copy of one's own. -/
theorem icells_get (ps : List (IT × Value)) (j : Nat) (u : Value) (h : (icells ps)[j]? = some u) : ∃ i, ∃ hi : i < ps.length, (j = i * 3 ∧ u = .bool ps[i].1.list) ∨ (j = i * 3 + 1 ∧ u = .string ps[i].1.text) ∨ (j = i * 3 + 2 ∧ u = ps[i].2) := by
  have hl := icells_length ps
  have hj : j < ps.length * 3 := by rw [← hl]; exact (List.getElem?_eq_some_iff.1 h).1
  have hi : j / 3 < ps.length := by omega
  obtain ⟨c0, c1, c2⟩ := icells_at ps (j / 3) hi
  refine ⟨j / 3, hi, ?_⟩
  have hr : j = j / 3 * 3 ∨ j = j / 3 * 3 + 1 ∨ j = j / 3 * 3 + 2 := by omega
  rcases hr with e | e | e
  · left; refine ⟨e, ?_⟩; rw [e, c0] at h; injection h with h; exact h.symm
  · right; left; refine ⟨e, ?_⟩; rw [e, c1] at h; injection h with h; exact h.symm
  · right; right; refine ⟨e, ?_⟩; rw [e, c2] at h; injection h with h; exact h.symm
theorem icells_one (ps : List (IT × Value)) (h : ∀ p ∈ ps, ∃ a l c, p.2 = .slice a l c) : ∀ u ∈ icells ps, u.oneCell' = true := by
  intro u hu
  obtain ⟨j, hj⟩ := List.getElem?_of_mem hu
  obtain ⟨i, hi, (⟨_, rfl⟩ | ⟨_, rfl⟩ | ⟨_, rfl⟩)⟩ := icells_get ps j u hj
  · rfl
  · rfl
  · obtain ⟨a, l, c, e⟩ := h ps[i] (List.getElem_mem hi)
    rw [e]; rfl
theorem icells_set (ps : List (IT × Value)) (k : Nat) (hk : k < ps.length) (x : IT) (sv : Value) :
    ((((icells ps).set (k * 3) (.bool x.list)).set (k * 3 + 1) (.string x.text)).set (k * 3 + 2) sv) = icells (ps.set k (x, sv)) := by
  induction ps generalizing k with
  | nil => simp at hk
  | cons p ps ih =>
    have e : icells (p :: ps) = icell p ++ icells ps := by simp [icells]
    have l3 : (icell p).length = 3 := rfl
    cases k with
    | zero => simp [icells, icell]
    | succ j =>
      have ih := ih j (by simpa using hk)
      have e2 : icells ((p :: ps).set (j + 1) (x, sv)) = icell p ++ icells (ps.set j (x, sv)) := by simp [icells]
      rw [e, e2, ← ih, List.set_append_right _ _ (by rw [l3]; omega), List.set_append_right _ _ (by rw [l3]; omega), List.set_append_right _ _ (by rw [l3]; omega), l3, show (j + 1) * 3 - 3 = j * 3 by omega, show (j + 1) * 3 + 1 - 3 = j * 3 + 1 by omega, show (j + 1) * 3 + 2 - 3 = j * 3 + 2 by omega]
/-- A slice of items as pairs: each item, and the slice of its own items. -/
theorem rd_pairs {w : World} {n : Nat} {xs : List IT} {ad : Option Addr} {cap : Nat} (hr : Rd w (n + 1) xs (.slice ad xs.length cap)) : ∃ ps : List (IT × Value), ps.map Prod.fst = xs ∧ ps.length = xs.length ∧ (∀ p ∈ ps, (∃ a l c, p.2 = .slice a l c) ∧ Rd w n p.1.items p.2) ∧ ∀ b off sp, ad = some ⟨b, off, sp⟩ → ∀ j u, (icells ps)[j]? = some u → w.cell? ((⟨b, off, sp⟩ : Addr).add j) = some u := by
  obtain ⟨_, e1, _, _, e2, hxl, hat⟩ := hr.at
  obtain rfl : n = _ := by simpa using e1
  simp at e2
  obtain ⟨rfl, rfl⟩ := e2
  have hch : ∀ i : Fin xs.length, ∃ sv : Value, (∃ a l c, sv = .slice a l c) ∧ Rd w n xs[i].items sv ∧ ∃ b off, ad = some ⟨b, off, none⟩ ∧ w.cell? ⟨b, off + i * 3, none⟩ = some (.bool xs[i].list) ∧ w.cell? ⟨b, off + i * 3 + 1, none⟩ = some (.string xs[i].text) ∧ w.cell? ⟨b, off + i * 3 + 2, none⟩ = some sv := fun i => by
    obtain ⟨b, off, ha, a, l, c, h0, h1, h2, h3⟩ := hat i i.2
    exact ⟨_, ⟨a, l, c, rfl⟩, h3, b, off, ha, h0, h1, h2⟩
  obtain ⟨f, hf⟩ := Classical.axiomOfChoice hch
  refine ⟨List.ofFn fun i : Fin xs.length => (xs[i], f i), ?_, by simp, ?_, ?_⟩
  · apply List.ext_getElem
    · simp
    · intro i h1 h2; simp
  · intro p hp
    obtain ⟨i, rfl⟩ := List.mem_ofFn.1 hp
    exact ⟨(hf i).1, (hf i).2.1⟩
  · intro b off sp ha j u hj
    obtain ⟨i, hi, hu⟩ := icells_get _ j u hj
    have hi' : i < xs.length := by simpa using hi
    obtain ⟨_, _, b', off', ha', h0, h1, h2⟩ := hf ⟨i, hi'⟩
    rw [ha] at ha'
    injection ha' with ha'
    injection ha' with e1 e2 e3
    subst e1 e2 e3
    rw [Addr.add_lit]
    simp only [List.getElem_ofFn] at hu
    rcases hu with ⟨rfl, rfl⟩ | ⟨rfl, rfl⟩ | ⟨rfl, rfl⟩
    · exact h0
    · rw [← Nat.add_assoc]; exact h1
    · rw [← Nat.add_assoc]; exact h2
def ClQ (n : Nat) (xs : List IT) (w : World) (e : Ending) (w' : World) : Prop :=
  ∃ (ps : List (IT × Value)) (v' : Value), e = .returned v' ∧ ps.map Prod.fst = xs ∧ (∀ p ∈ ps, (∃ a l c, p.2 = .slice a l c) ∧ Rd w n p.1.items p.2) ∧ w'.ownsRow w.heap.size 70 3 v' ps.length (icells ps) ∧ Below w.heap.size w w'
theorem cloneI (n : Nat) (xs : List IT) (ad : Option Addr) (cap : Nat) (w : World) (hr : Rd w (n + 1) xs (.slice ad xs.length cap)) (hl : xs.length ≤ 1099511627776) :
    Calls Try.prog 115 #[.slice ad xs.length cap] w (ClQ n xs w) := by
  obtain ⟨ps, hp1, hp2, hp3, hp4⟩ := rd_pairs hr
  have hno : ad = none → xs.length = 0 := fun h => by
    obtain ⟨_, _, _, _, e2, _, hat⟩ := hr.at
    simp at e2
    rcases Nat.eq_zero_or_pos xs.length with h0 | h0
    · exact h0
    · obtain ⟨b, off, ha, _⟩ := hat 0 h0
      rw [← e2.1, h] at ha
      cases ha
  have HP : Hid (ps.map Prod.fst = xs ∧ ∀ p ∈ ps, (∃ a l c, p.2 = .slice a l c) ∧ Rd w n p.1.items p.2) := ⟨hp1, hp3⟩
  have hone := icells_one ps fun p hp => (hp3 p hp).1
  obtain ⟨j0, hj0, hj1, hj2, hj3⟩ := info_of infoI
  have HJ : Hid (Try.prog.info? 70 = some j0 ∧ j0.zero = some (.agg #[.bool false, .string ⟨#[]⟩, .slice none 0 0]) ∧ j0.size = 3 ∧ j0.bytes = 48) := ⟨hj0, hj1, hj2, hj3⟩
  clear hj0 hj1 hj2 hj3 hp1 hp3 hr
  have HN : Hid (ad = none → xs.length = 0) := hno
  clear hno
  cases ad with
  | none =>
    have hn : xs.length = 0 := HN.out rfl
    have hps : ps = [] := List.length_eq_zero_iff.1 (by omega)
    have heq := fun w => Lib.run_eql_slice_nil (P := Try.prog) w 68 70 none xs.length cap 0 0 Try.underlying68
    rw [hn] at heq ⊢
    go_enter Try.func115, Try.ntmps115
    go_wp2_with fail
    go_ret
    exact ⟨ps, _, rfl, HP.out.1, HP.out.2, by rw [hps]; exact ⟨rfl, .inl ⟨rfl, rfl⟩⟩, Below.refl _ _⟩
  | some a =>
    have hsrc : ∀ W, Below w.heap.size w W → Src Try.prog 3 68 (.slice (some a) xs.length cap) ps.length (icells ps) W := fun W hW => by
      rw [← hp2]
      exact Src.ofSlice W Try.underlying68 a ps.length cap (icells ps) (icells_length ps) (fun j u hj => by
        have h1 := hp4 a.block a.off a.spot rfl j u hj
        have := (hW.cell (cell_lt' h1)).trans h1
        exact this) hone
    have heq := fun w => Lib.run_eql_slice_nil (P := Try.prog) w 68 70 (some a) xs.length cap 0 0 Try.underlying68
    go_enter Try.func115, Try.ntmps115
    have HRow : Hid ((w.alloc (.cells #[] 70)).ownsRow w.heap.size 70 3 (.slice (some ⟨w.heap.size, 0, none⟩) 0 0) 0 []) := ⟨rfl, .inr ⟨w.heap.size, 0, #[], rfl, Nat.le_refl _, Bk.new w #[] 70, Nat.le_refl _, by unfold maxLen; omega, rfl, rfl⟩⟩
    have HSrc : Hid (Src Try.prog 3 68 (.slice (some a) xs.length cap) ps.length (icells ps) (w.alloc (.cells #[] 70))) := hsrc _ ((Below.refl _ w).alloc (Nat.le_refl _) _)
    clear hsrc hp4 hone
    go_wp2_with (at_builtin; refine wpList_append_src rfl _ _ 68 68 rfl w.heap.size 70 j0 (.agg #[.bool false, .string ⟨#[]⟩, .slice none 0 0]) 3 48 Try.underlying68 HJ.out.1 HJ.out.2.1 HJ.out.2.2.1 HJ.out.2.2.2 rfl _ _ 0 [] ps.length (icells ps) rfl rfl HRow.out HSrc.out (by unfold maxLen; omega) (by omega) (by simp) ?_; intro v3 w3 hown3 hgr3 hsn3)
    go_ret
    rw [Nat.zero_add, List.nil_append] at hown3
    refine ⟨ps, v3, rfl, HP.out.1, HP.out.2, hown3, ?_⟩
    exact ((Below.refl _ w).alloc (Nat.le_refl _) _).trans (grown_below hgr3 (by simp) (fun k hk => by have h1 : some w.heap.size = some k := hk; injection h1 with h1; omega))
def CsS (n : Nat) : Prop := ∀ (xs : List IT) (ad : Option Addr) (cap : Nat) (w : World), Rd w n xs (.slice ad xs.length cap) → IT.wts xs ≤ 1099511627776 →
  Calls Try.prog 95 #[.slice ad xs.length cap] w fun e w' => (∃ ad' l' c', e = .returned (.slice ad' l' c') ∧ RdP w' (w.heap.size ≤ ·) n xs (.slice ad' l' c')) ∧ Below w.heap.size w w'
def CdS (n : Nat) : Prop := ∀ (a : IT) (ad : Option Addr) (l c : Nat) (w : World), Rd w n a.items (.slice ad l c) → a.wt ≤ 1099511627776 →
  Calls Try.prog 97 #[.agg #[.bool a.list, .string a.text, .slice ad l c]] w fun e w' => (∃ ad' l' c', e = .returned (.agg #[.bool a.list, .string a.text, .slice ad' l' c']) ∧ RdP w' (w.heap.size ≤ ·) n a.items (.slice ad' l' c')) ∧ Below w.heap.size w w'
theorem set3_BkE {W : World} {b : Nat} {t : TypeId} {x y z : Value} (h : Bk W b #[x, y, z] t) (u0 u1 u2 : Value) : Bk (((W.setCell ⟨b, 0, none⟩ u0).setCell ⟨b, 1, none⟩ u1).setCell ⟨b, 2, none⟩ u2) b #[u0, u1, u2] t := ((h.set 0 _ rfl).set 1 _ rfl).set 2 _ rfl
theorem set3_belowE {B : Nat} {W0 W : World} {b : Nat} (h : Below B W0 W) (hb : B ≤ b) (u0 u1 u2 : Value) : Below B W0 (((W.setCell ⟨b, 0, none⟩ u0).setCell ⟨b, 1, none⟩ u1).setCell ⟨b, 2, none⟩ u2) :=
  ((h.setCell (p := ⟨b, 0, none⟩) hb _).setCell (p := ⟨b, 1, none⟩) hb _).setCell (p := ⟨b, 2, none⟩) hb _
theorem set3_keepE {W : World} {b : Nat} {P : Nat → Prop} {n : Nat} {xs : List IT} {v : Value} (h : RdP W P n xs v) (hb : ∀ k, P k → k ≠ b) (u0 u1 u2 : Value) : RdP (((W.setCell ⟨b, 0, none⟩ u0).setCell ⟨b, 1, none⟩ u1).setCell ⟨b, 2, none⟩ u2) P n xs v :=
  h.same fun k hk => (Below.heap_setCell _ _ _ k (hb k hk)).trans ((Below.heap_setCell _ _ _ k (hb k hk)).trans (Below.heap_setCell _ _ _ k (hb k hk)))
structure C2 (w0 : World) (G : Nat) (L : Bool) (t : ByteArray) (v : Value) (w' : World) : Prop where
  box : Bk w' G #[.bool L, .string t, v] 70
  res : Bk w' (G + 1) #[.bool false, .string ⟨#[]⟩, .slice none 0 0] 70
  bel : Below w0.heap.size w0 w'
theorem C2.below {w0 : World} {G : Nat} {L : Bool} {t : ByteArray} {v : Value} {A B : World} (h : C2 w0 G L t v A) (hb : Below A.heap.size A B) : C2 w0 G L t v B := ⟨h.box.below hb h.box.lt, h.res.below hb h.res.lt, h.bel.trans (hb.mono h.bel.size)⟩
theorem C2.drew {w0 : World} {G : Nat} {L : Bool} {t : ByteArray} {v : Value} {A : World} (h : C2 w0 G L t v A) : C2 w0 G L t v A.drew := ⟨h.box.drew, h.res.drew, h.bel.drew⟩
set_option maxHeartbeats 2000000 in
theorem copied_of (n : Nat) (h : CsS n) : CdS n := by
  intro a ad l c w hr hw
  obtain ⟨L, t, xs⟩ := a
  have hr : Rd w n xs (.slice ad l c) := hr
  obtain ⟨_, _, ad0, cap0, e2, _, _⟩ := hr.at
  injection e2 with e2 e3 e4
  subst e2 e3 e4
  have hw : 1 + t.size + IT.wts xs ≤ 1099511627776 := hw
  have HC : Hid (∀ W, Below w.heap.size w W → Calls Try.prog 95 #[.slice ad xs.length c] W fun e w' => (∃ ad' l' c', e = .returned (.slice ad' l' c') ∧ RdP w' (W.heap.size ≤ ·) n xs (.slice ad' l' c')) ∧ Below W.heap.size W w') := fun W hW => h xs ad c W (hr.below hW) (by omega)
  have HS : Hid (∀ W, Calls Try.prog 113 #[.string t] W fun e w' => e = .returned (.string t) ∧ Below W.heap.size W w') := fun W => sclone t W (by omega)
  clear h hr hw
  show Calls Try.prog 97 #[.agg #[.bool L, .string t, .slice ad xs.length c]] w fun e w' => (∃ ad' l' c', e = .returned (.agg #[.bool L, .string t, .slice ad' l' c']) ∧ RdP w' (w.heap.size ≤ ·) n xs (.slice ad' l' c')) ∧ Below w.heap.size w w'
  go_enter Try.func97, Try.ntmps97
  go_upto_region 1 with fail
  have hT : C2 w w.heap.size L t (.slice ad xs.length c) ((w.alloc (.cells #[.bool L, .string t, .slice ad xs.length c] 70)).alloc (.cells #[.bool false, .string ⟨#[]⟩, .slice none 0 0] 70)) := ⟨(Bk.new _ _ _).alloc _, Bk.new' _ _ _ (by simp), ((Below.refl _ w).alloc (Nat.le_refl _) _).alloc (by simp) _⟩
  generalize ((w.alloc (.cells #[.bool L, .string t, .slice ad xs.length c] 70)).alloc (.cells #[.bool false, .string ⟨#[]⟩, .slice none 0 0] 70)) = V at hT ⊢
  obtain ⟨p0, p1, p2⟩ := box_cells hT.box
  obtain ⟨q0, q1, q2⟩ := box_cells hT.res
  have f0 := hT.res.frozen 0
  have f1 := hT.res.frozen 1
  have f2 := hT.res.frozen 2
  have l1 := hT.res.lt
  go_region_with (first
    | (go_at_call 113; refine (HS.out _).mono ?_; rintro e w3 ⟨rfl, hb3⟩; (first | have hT := hT.below hb3 | have hT := hT.drew.below hb3); obtain ⟨p0, p1, p2⟩ := box_cells hT.box; obtain ⟨q0, q1, q2⟩ := box_cells hT.res; have f0 := hT.res.frozen 0; have f1 := hT.res.frozen 1; have f2 := hT.res.frozen 2; have l1 := hT.res.lt; clear hb3)
    | (go_at_call 95; refine (HC.out _ (by first | exact hT.bel | exact hT.drew.bel)).mono ?_; rintro e w4 ⟨⟨ad', l', c', rfl, hrd⟩, hb4⟩; have l0 := hT.res.lt; (first | have hT := hT.below hb4 | have hT := hT.drew.below hb4); obtain ⟨p0, p1, p2⟩ := box_cells hT.box; obtain ⟨q0, q1, q2⟩ := box_cells hT.res; have f0 := hT.res.frozen 0; have f1 := hT.res.frozen 1; have f2 := hT.res.frozen 2; have l1 := hT.res.lt; have HR : Hid _ := hrd; clear hrd hb4))
  all_goals
    have b9 := set3_BkE hT.res (.bool L) (.string t) (.slice ad' l' c')
    have hbel := set3_belowE hT.bel (Nat.le_succ _) (.bool L) (.string t) (.slice ad' l' c')
    have hrk := set3_keepE (b := w.heap.size + 1) HR.out (fun q hq => by first | (have h1 : w3.heap.size ≤ q := hq; omega) | (have h1 : w3.drew.heap.size ≤ q := hq; simp only [World.size_drew] at h1; omega)) (.bool L) (.string t) (.slice ad' l' c')
    have hrk := hrk.weak (Q := (w.heap.size ≤ ·)) (fun q hq => by first | (have h1 : w3.heap.size ≤ q := hq; show w.heap.size ≤ q; omega) | (have h1 : w3.drew.heap.size ≤ q := hq; simp only [World.size_drew] at h1; show w.heap.size ≤ q; omega))
    generalize ((w4.setCell ⟨w.heap.size + 1, 0, none⟩ (.bool L)).setCell ⟨w.heap.size + 1, 1, none⟩ (.string t)).setCell ⟨w.heap.size + 1, 2, none⟩ (.slice ad' l' c') = U at *
    go_wp2_with fail
    refine bodyPost_ret (v := .agg #[.bool L, .string t, .slice ad' l' c']) ?_ rfl ⟨⟨ad', l', c', rfl, hrk⟩, hbel⟩
    obtain ⟨g0, g1, g2⟩ := box_cells b9
    simp [results, Try.results97, go_sem, g0, g1, g2]
end Go.Proofs.Ytapjonmgjccpbaa

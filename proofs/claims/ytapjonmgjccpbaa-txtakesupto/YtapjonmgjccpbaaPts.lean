import Derived.Test.YtapjonmgjccpbaaJ7
import Derived.Test.YtapjonmgjccpbaaJ4
import Derived.Test.YtapjonmgjccpbaaJ2
import Derived.Test.YtapjonmgjccpbaaJ5
set_option linter.unusedSimpArgs false
set_option linter.unusedVariables false
namespace Go.Proofs.Ytapjonmgjccpbaa
open Go.RowKit Go.Shelf
attribute [local go_sem] Oper.semAt_some

/-! item.parts: the items that lie in some bytes one behind the other. -/
def TkQ (r : Nat) (s : ByteArray) (w : World) (e : Ending) (w' : World) : Prop :=
  (∃ ad l c, e = .returned (.tuple #[.agg #[.bool (tk r s).1.list, .string (tk r s).1.text, .slice ad l c], .int .i64 ((tk r s).2.1 : Int), .int .i64 ((tk r s).2.2 : Int)]) ∧ RdP w' (w.heap.size ≤ ·) (r + 2) (tk r s).1.items (.slice ad l c)) ∧ Below w.heap.size w w'
def TkS (r : Nat) : Prop := ∀ (s : ByteArray) (w : World) (d : Nat), d + r = 16 → s.size ≤ 1099511627776 → Calls Try.prog 94 #[.string s, .int .i64 d] w (TkQ r s w)
structure PX where
  it : IT
  ad : Option Addr
  l : Nat
  c : Nat
  e : Nat
def penc (x : PX) : Array Value := #[.agg #[.bool x.it.list, .string x.it.text, .slice x.ad x.l x.c], .int .i64 (x.e : Int)]
def Good (f : ByteArray → TR) (s : ByteArray) (xs : List PX) (p : Nat) : Prop := Rn f s (xs.map PX.it) p ∧ ∀ x ∈ xs, x.e = 0
def Last (f : ByteArray → TR) (s : ByteArray) (xs : List PX) : Prop := ∃ ys z p, xs = ys ++ [z] ∧ Good f s ys p ∧ p < s.size ∧ z.it = (f (s.extract p s.size)).1 ∧ z.e = (f (s.extract p s.size)).2.2
def pgd (r : Nat) (s : ByteArray) (B : Nat) (pre : List PX) (x : PX) (A : World) : Prop := RdP A (B ≤ ·) (r + 2) x.it.items (.slice x.ad x.l x.c) ∧ Last (tk r) s (pre ++ [x])
def PS (f : ByteArray → TR) (s : ByteArray) (xs : List PX) : Prop := (∃ p, Good f s xs p ∧ s.size ≤ p) ∨ (Last f s xs ∧ ∃ x ∈ xs, x.e ≠ 0)
theorem Good.snoc {f : ByteArray → TR} {s : ByteArray} {xs : List PX} {p : Nat} {z : PX} (h : Good f s xs p) (hp : p < s.size) (h1 : z.it = (f (s.extract p s.size)).1) (h2 : z.e = (f (s.extract p s.size)).2.2) (h0 : z.e = 0) : Good f s (xs ++ [z]) (p + (f (s.extract p s.size)).2.1) := by
  refine ⟨?_, fun x hx => ?_⟩
  · rw [List.map_append, List.map_cons, List.map_nil, h1]
    exact Rn.snoc h.1 hp (by rw [← h2]; exact h0)
  · rcases List.mem_append.1 hx with hx | hx
    · exact h.2 x hx
    · simp at hx; subst hx; exact h0
/-- What a round keeps of what lies below N: all blocks of cells but two. -/
def KpL (N o p : Nat) (A B : World) : Prop := ∀ b vs t, b < N → b ≠ o → b ≠ p → Bk A b vs t → Bk B b vs t
theorem KpL.trans {N o p : Nat} (A B C : World) (h : KpL N o p A B) (k : KpL N o p B C) : KpL N o p A C := fun b vs t h0 h1 h2 h3 => k b vs t h0 h1 h2 (h b vs t h0 h1 h2 h3)
theorem meetA3 {wr w2 : World} {n : Nat} {l : Bool} {t : ByteArray} {xs : List IT} {ad : Option Addr} {ln c : Nat} {x y : Value} (hsz2 : wr.heap.size ≤ w2.heap.size) (hb2 : Below wr.heap.size wr.drew w2) (hr : RdP w2 (wr.heap.size ≤ ·) n xs (.slice ad ln c)) :
    ∃ X ad' l' c', Value.pointer (some ⟨w2.heap.size, 0, none⟩) = .pointer (some ⟨X, 0, none⟩) ∧ wr.heap.size ≤ X ∧ Bk (w2.alloc (.cells #[.bool l, .string t, .slice ad ln c] 70)) X #[.bool l, .string t, .slice ad' l' c'] 70 ∧ x = x ∧ y = y ∧ RdP (w2.alloc (.cells #[.bool l, .string t, .slice ad ln c] 70)) (wr.heap.size ≤ ·) n xs (.slice ad' l' c') ∧ Below wr.heap.size wr (w2.alloc (.cells #[.bool l, .string t, .slice ad ln c] 70)) :=
  ⟨w2.heap.size, ad, ln, c, rfl, hsz2, Bk.new _ _ _, rfl, rfl, hr.keep (fun b _ hl => Below.heap_alloc w2 _ b hl), Below.alloc ((Below.refl _ wr).drew.trans hb2) hsz2 _⟩
theorem meetB3 {wr w2 : World} {o : Obj} {n : Nat} {z0 z1 z2 : Value} {l : Bool} {t : ByteArray} {xs : List IT} {ad : Option Addr} {ln c : Nat} {x y : Value} (hz : Bk w2 wr.heap.size #[z0, z1, z2] 70) (hb2 : Below (wr.heap.size + 1) (wr.alloc o).drew w2) (hr : RdP w2 (wr.heap.size + 1 ≤ ·) n xs (.slice ad ln c)) :
    ∃ X ad' l' c', Value.pointer (some ⟨wr.heap.size, 0, none⟩) = .pointer (some ⟨X, 0, none⟩) ∧ wr.heap.size ≤ X ∧ Bk (((w2.setCell ⟨wr.heap.size, 0, none⟩ (.bool l)).setCell ⟨wr.heap.size, 1, none⟩ (.string t)).setCell ⟨wr.heap.size, 2, none⟩ (.slice ad ln c)) X #[.bool l, .string t, .slice ad' l' c'] 70 ∧ x = x ∧ y = y ∧ RdP (((w2.setCell ⟨wr.heap.size, 0, none⟩ (.bool l)).setCell ⟨wr.heap.size, 1, none⟩ (.string t)).setCell ⟨wr.heap.size, 2, none⟩ (.slice ad ln c)) (wr.heap.size ≤ ·) n xs (.slice ad' l' c') ∧ Below wr.heap.size wr (((w2.setCell ⟨wr.heap.size, 0, none⟩ (.bool l)).setCell ⟨wr.heap.size, 1, none⟩ (.string t)).setCell ⟨wr.heap.size, 2, none⟩ (.slice ad ln c)) := by
  refine ⟨wr.heap.size, ad, ln, c, rfl, Nat.le_refl _, ((hz.set 0 _ rfl).set 1 _ rfl).set 2 _ rfl, rfl, rfl, ?_, ?_⟩
  · have hne : ∀ b : Nat, wr.heap.size + 1 ≤ b → b ≠ wr.heap.size := fun b h => by omega
    exact (hr.keep fun b hb _ => (Below.heap_setCell _ _ _ b (hne b hb)).trans ((Below.heap_setCell _ _ _ b (hne b hb)).trans (Below.heap_setCell _ _ _ b (hne b hb)))).weak fun b hb => by omega
  · exact Below.setCell (Below.setCell (Below.setCell ((((Below.refl _ wr).alloc (Nat.le_refl _) o).drew).trans (hb2.mono (Nat.le_succ _))) (Nat.le_refl _) _) (Nat.le_refl _) _) (Nat.le_refl _) _
theorem parts_any (s : ByteArray) (d : Nat) (w : World) : Calls Try.prog 125 #[.string s, .int .i64 (d : Int)] w fun e w' => e = .returned (.func (.func 130) #[] #[.pointer (some ⟨w.heap.size, 0, none⟩), .pointer (some ⟨w.heap.size + 1, 0, none⟩)]) ∧ w' = ((w.alloc (.cells #[.string s] 9)).alloc (.cells #[.int .i64 (d : Int)] 3)) := by
  go_enter Try.func125, Try.ntmps125
  go_wp2
  go_ret
  exact ⟨rfl, rfl⟩
set_option maxRecDepth 100000 in
set_option maxHeartbeats 2000000 in
theorem parts_seq (m r d : Nat) (IH : TkS r) (hd : d + r = 16) (s : ByteArray) (hs : s.size ≤ 1099511627776) (N Bs Bd o p : Nat) (hm : 1 ≤ m) (w : World)
    (bS : Bk w Bs #[.string s] 9) (bD : Bk w Bd #[.int .i64 (d : Int)] 3) (nS : Bs < N ∧ Bs ≠ o ∧ Bs ≠ p) (nD : Bd < N ∧ Bd ≠ o ∧ Bd ≠ p) :
    SeqA Fence.wide m Try.prog 130 #[.pointer (some ⟨Bs, 0, none⟩), .pointer (some ⟨Bd, 0, none⟩)] penc (KpL N o p) (pgd r s) (PS (tk r) s) (Last (tk r) s) w := by
  intro l J Jx W hbW hJ hJx hY h0
  have bS := bS.below hbW bS.lt
  have bD := bD.below hbW bD.lt
  have HY : Hid (∀ pre x A0 A, J pre A0 → Below A0.heap.size A0 A → pgd r s A0.heap.size pre x A → YieldAt Fence.wide (m - 1) Try.prog l (penc x) A fun e B => (e = .returned (.bool true) ∧ J (pre ++ [x]) B ∧ KpL N o p A B) ∨ (e = .returned (.bool false) ∧ Jx (pre ++ [x]) B)) := hY
  have HJ : Hid (∀ s A B, J s A → Below A.heap.size A B → J s B) := hJ
  have HT : Hid (∀ (t : ByteArray) (w : World), t.size ≤ 1099511627776 → Calls Try.prog 94 #[.string t, .int .i64 (d : Int)] w (TkQ r t w)) := fun t w ht => IH t w d hd ht
  clear hY hJ hJx hbW IH
  show CallsIn Fence.wide m Try.prog 130 #[.func (.yield l) #[] #[], .pointer (some ⟨Bs, 0, none⟩), .pointer (some ⟨Bd, 0, none⟩)] W _
  refine callsIn_of_wp Try.func130 rfl trivial ?_ rfl
  simp only [Try.ntmps130, List.size_toArray, List.length_cons, List.length_nil, Nat.reduceAdd, Nat.reduceSub, Array.replicate_succ, Array.replicate_zero, List.push_toArray, List.append_toArray, List.nil_append, List.cons_append]
  gi_wp2
  gi_loopw [4] (fun i wr => ∃ (q : Nat) (ys : List PX), i = .int .i64 (q : Int) ∧ q ≤ s.size ∧ Hid (Good (tk r) s ys q) ∧ Bk wr Bs #[.string s] 9 ∧ Bk wr Bd #[.int .i64 (d : Int)] 3 ∧ J ys wr) (fun i _ => s.size - (intOf i).toNat)
  case atStart => exact ⟨0, [], rfl, by omega, ⟨Rn.nil, fun x hx => by cases hx⟩, bS, bD, h0⟩
  case round =>
    clear bS bD h0
    obtain ⟨q, ys, rfl, hq, hgood, bS, bD, hJk⟩ := hrel
    have s0 := bS.cell 0
    have d0 := bD.cell 0
    simp only [List.getElem?_toArray, List.getElem?_cons_zero] at s0 d0
    have lS := bS.lt
    have lD := bD.lt
    by_cases hlt : q < s.size
    · have hlt' : (q : Int) < (s.size : Int) := by omega
      have HBk : Hid (Bk wr Bs #[.string s] 9 ∧ Bk wr Bd #[.int .i64 (d : Int)] 3) := ⟨bS, bD⟩
      clear bS bD
      have hxs : (s.extract q s.size).size ≤ 1099511627776 := by rw [ByteArray.size_extract]; omega
      have hcall : ∀ w, Calls Try.prog 94 #[.string (s.extract q s.size), .int .i64 (d : Int)] w fun e w' => (∃ ad l c, e = .returned (.tuple #[.agg #[.bool (tk r (s.extract q s.size)).1.list, .string (tk r (s.extract q s.size)).1.text, .slice ad l c], .int .i64 ((tk r (s.extract q s.size)).2.1 : Int), .int .i64 ((tk r (s.extract q s.size)).2.2 : Int)]) ∧ RdP w' (w.heap.size ≤ ·) (r + 2) (tk r (s.extract q s.size)).1.items (.slice ad l c)) ∧ Below w.heap.size w w' := fun w => HT.out (s.extract q s.size) w hxs
      have hpr := tk_prog r (s.extract q s.size)
      have hxe : (s.extract q s.size).size = s.size - q := by rw [ByteArray.size_extract]; omega
      obtain ⟨T, hT⟩ : ∃ T, T = tk r (s.extract q s.size) := ⟨_, rfl⟩
      have HTe : Hid (T = tk r (s.extract q s.size)) := hT
      rw [← hT] at hcall hpr
      obtain ⟨t1, k1, e1⟩ := T
      try simp only at hcall hpr
      have HC : Hid (∀ w, Calls Try.prog 94 #[.string (s.extract q s.size), .int .i64 (d : Int)] w fun e w' => (∃ ad l c, e = .returned (.tuple #[.agg #[.bool t1.list, .string t1.text, .slice ad l c], .int .i64 (k1 : Int), .int .i64 (e1 : Int)]) ∧ RdP w' (w.heap.size ≤ ·) (r + 2) t1.items (.slice ad l c)) ∧ Below w.heap.size w w') := hcall
      have HPr : Hid (e1 = 0 → 1 ≤ k1 ∧ q + k1 ≤ s.size) := fun h => by have := hpr h; rw [hxe] at this; omega
      clear hcall hpr hT hxe hxs
      refine wpIn_wide.2 ?_
      go_upto_region 2 with fail
      go_cut [5, 6, 7] (fun pt k e wx => ∃ X ad' l' c', pt = .pointer (some ⟨X, 0, none⟩) ∧ wr.heap.size ≤ X ∧ Bk wx X #[.bool t1.list, .string t1.text, .slice ad' l' c'] 70 ∧ k = .int .i64 (k1 : Int) ∧ e = .int .i64 (e1 : Int) ∧ RdP wx (wr.heap.size ≤ ·) (r + 2) t1.items (.slice ad' l' c') ∧ Below wr.heap.size wr wx)
      case first =>
        go_region_with (go_at_call 94; refine (HC.out _).mono ?_; rintro e w2 ⟨⟨ad', l', c', rfl, hrd⟩, hb2⟩; have hsz2 := hb2.size; simp only [World.size_alloc, World.size_drew] at hsz2 hb2 hrd; try (have hz := (Bk.new wr #[.bool false, .string ⟨#[]⟩, .slice none 0 0] 70).drew.below hb2 (by omega); have hzc := box_cells hz; obtain ⟨hz0, hz1, hz2⟩ := hzc; have hf0 := hz.frozen 0; have hf1 := hz.frozen 1; have hf2 := hz.frozen 2; have hzl : wr.heap.size < w2.heap.size := (by omega)); have HRd : Hid _ := hrd; clear hrd)
        all_goals
          go_wp2_with fail
          go_meet
          first
            | exact meetB3 hz hb2 HRd.out
            | exact meetA3 hsz2 hb2 HRd.out
            | exact meetA3 hsz2 hb2 hrd
      case rest =>
        obtain ⟨X, ad', l', c', rfl, hX, bX, rfl, rfl, hrd, hbx⟩ := hcut
        obtain ⟨i0, i1, i2⟩ := box_cells bX
        have HB2 : Hid (Bk wc Bs #[.string s] 9 ∧ Bk wc Bd #[.int .i64 (d : Int)] 3) := ⟨HBk.out.1.below hbx HBk.out.1.lt, HBk.out.2.below hbx HBk.out.2.lt⟩
        have HL : Hid (Last (tk r) s (ys ++ [⟨t1, ad', l', c', e1⟩])) := ⟨ys, _, q, rfl, hgood.out, hlt, by rw [← HTe.out], by rw [← HTe.out]⟩
        have hgd : pgd r s wr.heap.size ys ⟨t1, ad', l', c', e1⟩ wc := ⟨hrd, HL.out⟩
        obtain ⟨fn, tmps, assign, body, hy, hR⟩ := HY.out ys ⟨t1, ad', l', c', e1⟩ wr wc hJk hbx hgd
        simp only [penc] at hy
        clear bX hrd hgd
        refine (‹∀ (a : Act) (w : World), Code.wp Try.prog _ _ a w → _› _ _ ?_)
        refine (wpIn_wide (n := m)).1 ?_
        by_cases he : e1 = 0
        · have HG : Hid (Good (tk r) s (ys ++ [⟨t1, ad', l', c', e1⟩]) (q + k1)) := by
            have := hgood.out.snoc (z := ⟨t1, ad', l', c', e1⟩) hlt (by rw [← HTe.out]) (by rw [← HTe.out]) he
            rw [← HTe.out] at this
            exact this
          have hk := HPr.out he
          have he' : ((e1 : Int) != 0) = false := by rw [bne_eq_false_iff_eq]; omega
          clear he
          gi_wp2
          refine hR.mono ?_
          rintro e W3 (⟨rfl, hJ3, hk3⟩ | ⟨rfl, hJx3⟩)
          · gi_wp2
            go_roundw
            case rel => exact ⟨q + k1, ys ++ [⟨t1, ad', l', c', e1⟩], by go_num, by omega, HG, hk3 _ _ _ nS.1 nS.2.1 nS.2.2 HB2.out.1, hk3 _ _ _ nD.1 nD.2.1 nD.2.2 HB2.out.2, hJ3⟩
            case measure => simp [intOf]; omega
          · gi_wp2
            refine bodyPost_ret (results_none rfl _ _ _) rfl ?_
            exact ⟨⟨_, rfl⟩, .inr ⟨_, HL.out, hJx3⟩⟩
        · have he' : ((e1 : Int) != 0) = true := by rw [bne_iff_ne]; omega
          have HP : Hid (PS (tk r) s (ys ++ [⟨t1, ad', l', c', e1⟩])) := .inr ⟨HL.out, ⟨t1, ad', l', c', e1⟩, by simp, he⟩
          gi_wp2
          refine hR.mono ?_
          rintro e W3 (⟨rfl, hJ3, hk3⟩ | ⟨rfl, hJx3⟩)
          · gi_wp2
            refine bodyPost_ret (results_none rfl _ _ _) rfl ?_
            exact ⟨⟨_, rfl⟩, .inl ⟨_, HP.out, hJ3⟩⟩
          · gi_wp2
            refine bodyPost_ret (results_none rfl _ _ _) rfl ?_
            exact ⟨⟨_, rfl⟩, .inr ⟨_, HL.out, hJx3⟩⟩
    · have hlt' : ¬ (q : Int) < (s.size : Int) := by omega
      gi_wp2
      go_end0
      exact ⟨⟨_, rfl⟩, .inl ⟨ys, .inl ⟨q, hgood.out, by omega⟩, hJk⟩⟩
end Go.Proofs.Ytapjonmgjccpbaa

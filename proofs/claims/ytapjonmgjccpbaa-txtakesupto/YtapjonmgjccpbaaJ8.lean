/- Texts joined: EEa EEs Mk MkM MkT RFr. -/
import Derived.Test.YtapjonmgjccpbaaJ6
import Derived.Test.YtapjonmgjccpbaaPts
import Derived.Test.YtapjonmgjccpbaaJ7
import Derived.Test.YtapjonmgjccpbaaJ0
import Derived.Deep.Light
import Derived.Lib.BitFns
import Derived.RangeFuncNested
import Derived.RangeFuncBound
import Derived.RangeFuncCalls
import Derived.RangeFuncLeaves
import Derived.RangeFuncBox
import Derived.Shelf.Abstract
import Derived.Shelf.RegionOpen
import Derived.OwnWalkIn
import Derived.TacticsInMore
import Derived.LoopNIn
import Derived.LoopIn
import Derived.Deep.OwnRows
import Derived.Laws.BytesArg
import Derived.Scope
import Derived.Laws.Bits64
import Derived.Test.YtapjonmgjccpbaaJ3
import Derived.Laws.Bits64b
import Derived.OrdersIn
section
set_option linter.unusedSimpArgs false
set_option linter.unusedVariables false
set_option maxRecDepth 100000
namespace Go.Proofs.Ytapjonmgjccpbaa
open Go.RowKit Go.Shelf
attribute [local go_sem] Oper.semAt_some

/-! item.Each: the items of a list, one behind the other. -/
def ysOf (a : IT) : List IT := if a.list then a.items else []
def EaQ (n : Nat) (a : IT) (w : World) (e : Ending) (w' : World) : Prop :=
  e = .returned (.func (.func 96) #[] #[.pointer (some ⟨w.heap.size + 1, 0, none⟩)]) ∧ (∃ ad l c, Bk w' (w.heap.size + 1) #[.slice ad l c] 68 ∧ RdP w' (w.heap.size + 2 ≤ ·) n (ysOf a) (.slice ad l c)) ∧ Below w.heap.size w w'
set_option maxHeartbeats 2000000 in
theorem each4 (n : Nat) (a : IT) (ad : Option Addr) (l c : Nat) (w : World) (hr : Rd w n a.items (.slice ad l c)) (hw : a.wt ≤ 1099511627776) :
    Calls Try.prog 66 #[.agg #[.bool a.list, .string a.text, .slice ad l c]] w (EaQ n a w) := by
  obtain ⟨L, t, xs⟩ := a
  have hr : Rd w n xs (.slice ad l c) := hr
  obtain ⟨m, hnm, ad0, cap0, e2, -, -⟩ := hr.at
  injection e2 with e2 e3 e4
  subst e2 e3 e4
  have hw : 1 + t.size + IT.wts xs ≤ 1099511627776 := hw
  have HC : Hid (∀ W, Below w.heap.size w W → Calls Try.prog 95 #[.slice ad xs.length c] W fun e w' => (∃ ad' l' c', e = .returned (.slice ad' l' c') ∧ RdP w' (W.heap.size ≤ ·) n xs (.slice ad' l' c')) ∧ Below W.heap.size W w') := fun W hW => copies_all n xs ad c W (hr.below hW) (by omega)
  have b1 : Bk ((w.alloc (.cells #[.bool L, .string t, .slice ad xs.length c] 70)).alloc (.cells #[.slice none 0 0] 68)) (w.heap.size + 1) #[.slice none 0 0] 68 := Bk.new' _ _ _ (by simp)
  have hB : Below w.heap.size w ((w.alloc (.cells #[.bool L, .string t, .slice ad xs.length c] 70)).alloc (.cells #[.slice none 0 0] 68)) := ((Below.refl _ w).alloc (Nat.le_refl _) _).alloc (by simp) _
  have hz : ((w.alloc (.cells #[.bool L, .string t, .slice ad xs.length c] 70)).alloc (.cells #[.slice none 0 0] 68)).heap.size = w.heap.size + 2 := by simp
  clear hr hw
  show Calls Try.prog 66 #[.agg #[.bool L, .string t, .slice ad xs.length c]] w (EaQ n (.mk L t xs) w)
  cases L with
  | false =>
    subst hnm
    go_enter Try.func66, Try.ntmps66
    go_wp2_with fail
    go_ret
    exact ⟨rfl, ⟨none, 0, 0, b1, by show RdP _ _ _ [] _; exact ⟨by simp, none, 0, rfl, fun i hi => by simp at hi⟩⟩, hB⟩
  | true =>
    have H1 : Hid (Bk ((w.alloc (.cells #[.bool true, .string t, .slice ad xs.length c] 70)).alloc (.cells #[.slice none 0 0] 68)) (w.heap.size + 1) #[.slice none 0 0] 68 ∧ Below w.heap.size w ((w.alloc (.cells #[.bool true, .string t, .slice ad xs.length c] 70)).alloc (.cells #[.slice none 0 0] 68)) ∧ ((w.alloc (.cells #[.bool true, .string t, .slice ad xs.length c] 70)).alloc (.cells #[.slice none 0 0] 68)).heap.size = w.heap.size + 2) := ⟨b1, hB, hz⟩
    clear b1 hB hz hnm
    go_enter Try.func66, Try.ntmps66
    go_wp2_with fail
    refine (HC.out _ H1.out.2.1).mono ?_
    rintro e w2 ⟨⟨ad', l', c', rfl, hrd⟩, hb2⟩
    have bk2 := H1.out.1.below hb2 H1.out.1.lt
    have q0 := bk2.cell 0
    have f0 := bk2.frozen 0
    simp only [List.getElem?_toArray, List.getElem?_cons_zero] at q0
    have l2 := bk2.lt
    have HR : Hid (RdP w2 (w.heap.size + 2 ≤ ·) n xs (.slice ad' l' c') ∧ Bk w2 (w.heap.size + 1) #[.slice none 0 0] 68 ∧ Below w.heap.size w w2) := ⟨by rw [H1.out.2.2] at hrd; exact hrd, bk2, H1.out.2.1.trans (hb2.mono H1.out.2.1.size)⟩
    clear hrd hb2 bk2 H1 HC
    go_wp2_with fail
    go_ret
    refine ⟨rfl, ⟨ad', l', c', HR.out.2.1.set 0 _ rfl, ?_⟩, HR.out.2.2.setCell (p := ⟨w.heap.size + 1, 0, none⟩) (by simp) _⟩
    show RdP _ _ _ xs _
    exact HR.out.1.same fun b hb => Below.heap_setCell _ _ _ b (by have : w.heap.size + 2 ≤ b := hb; show b ≠ w.heap.size + 1; omega)
structure EX where
  it : IT
  ad : Option Addr
  l : Nat
  c : Nat
def xenc (x : EX) : Array Value := #[.agg #[.bool x.it.list, .string x.it.text, .slice x.ad x.l x.c]]
def xgd (n : Nat) (ys : List IT) (B : Nat) (pre : List EX) (x : EX) (A : World) : Prop := RdP A (B ≤ ·) n x.it.items (.slice x.ad x.l x.c) ∧ pre.length < ys.length ∧ (pre ++ [x]).map EX.it = ys.take (pre.length + 1)
def XS (ys : List IT) (xs : List EX) : Prop := xs.map EX.it = ys
def XP (ys : List IT) (xs : List EX) : Prop := xs.length ≤ ys.length ∧ xs.map EX.it = ys.take xs.length
theorem RdP.kpl {N o p B : Nat} {A C : World} (hB : 0 < B) (ho : o < B) (hp : p < B) (hk : KpL N o p A C) : ∀ {n : Nat} {xs : List IT} {v : Value}, RdP A (fun b => B ≤ b ∧ b < N) n xs v → RdP C (fun b => B ≤ b ∧ b < N) n xs v
  | 0, _, _, h => h
  | n + 1, xs, v, h => by
    obtain ⟨hl, ad, cap, hv, h⟩ := h
    refine ⟨hl, ad, cap, hv, fun i hi => ?_⟩
    obtain ⟨b, off, ha, hP, a, l, c, h0, h1, h2, h3⟩ := h i hi
    obtain ⟨vs, t, hb⟩ : ∃ vs t, A.heap[b]? = some (.cells vs t) := by
      rcases hP.2 with h | h
      · exact absurd h.1 (by omega)
      · exact h
    have hP1 := hP.1
    have hc : C.heap[b]? = some (.cells vs t) := hk b vs t hP1.2 (by omega) (by omega) hb
    have e : C.heap[b]? = A.heap[b]? := hc.trans hb.symm
    exact ⟨b, off, ha, ⟨hP1, .inr ⟨vs, t, hc⟩⟩, a, l, c, (World.cell?_of_block e).trans h0, (World.cell?_of_block e).trans h1, (World.cell?_of_block e).trans h2, RdP.kpl hB ho hp hk h3⟩
end Go.Proofs.Ytapjonmgjccpbaa
end
section
set_option linter.unusedSimpArgs false
set_option linter.unusedVariables false
set_option maxRecDepth 100000
namespace Go.Proofs.Ytapjonmgjccpbaa
open Go.RowKit Go.Shelf
attribute [local go_sem] Oper.semAt_some

/-! What item.Each tells, as a sequence. -/
set_option maxHeartbeats 2000000 in
theorem each1_seq (m n : Nat) (ys : List IT) (Bi B N o p : Nat) (ad : Option Addr) (c : Nat) (hm : 1 ≤ m) (w : World) (bI : Bk w Bi #[.slice ad ys.length c] 68) (hr : RdP w (fun b => B ≤ b ∧ b < N) (n + 1) ys (.slice ad ys.length c))
    (hB : 0 < B) (ho : o < B) (hp : p < B) (hw : IT.wts ys ≤ 1048576) :
    SeqA Fence.wide m Try.prog 96 #[.pointer (some ⟨Bi, 0, none⟩)] xenc (KpL N o p) (xgd n ys) (XS ys) (XP ys) w := by
  intro l J Jx W hbW hJ hJx hY h0
  have bI := bI.below hbW bI.lt
  have hr : RdP W (fun b => B ≤ b ∧ b < N) (n + 1) ys (.slice ad ys.length c) := hr.keep fun b _ hl => hbW.block b hl
  have hll := len_wts ys
  have HY : Hid (∀ pre x A0 A, J pre A0 → Below A0.heap.size A0 A → xgd n ys A0.heap.size pre x A → YieldAt Fence.wide (m - 1) Try.prog l (xenc x) A fun e B => (e = .returned (.bool true) ∧ J (pre ++ [x]) B ∧ KpL N o p A B) ∨ (e = .returned (.bool false) ∧ Jx (pre ++ [x]) B)) := hY
  have HJ : Hid (∀ s A B, J s A → Below A.heap.size A B → J s B) := hJ
  have HCd : Hid (CdS n) := copied_of n (copies_all n)
  have HWt : Hid (IT.wts ys ≤ 1048576) := hw
  have H0 : Hid (RdP W (fun b => B ≤ b ∧ b < N) (n + 1) ys (.slice ad ys.length c)) := hr
  clear hY hJ hJx hbW hr
  show CallsIn Fence.wide m Try.prog 96 #[.func (.yield l) #[] #[], .pointer (some ⟨Bi, 0, none⟩)] W _
  refine callsIn_of_wp Try.func96 rfl trivial ?_ rfl
  simp only [Try.ntmps96, List.size_toArray, List.length_cons, List.length_nil, Nat.reduceAdd, Nat.reduceSub, Array.replicate_succ, Array.replicate_zero, List.push_toArray, List.append_toArray, List.nil_append, List.cons_append]
  have t0 := bI.cell 0
  simp only [List.getElem?_toArray, List.getElem?_cons_zero] at t0
  gi_wp2
  gi_loopw [7] (fun i wr => ∃ (k : Nat) (zs : List EX), k ≤ ys.length ∧ i = .int .i64 (k : Int) ∧ Hid (zs.length = k ∧ zs.map EX.it = ys.take k ∧ RdP wr (fun b => B ≤ b ∧ b < N) (n + 1) ys (.slice ad ys.length c)) ∧ J zs wr) (fun i _ => ys.length - (intOf i).toNat)
  case atStart => exact ⟨0, [], by omega, rfl, ⟨rfl, by simp, H0.out⟩, h0⟩
  case round =>
    clear bI t0 h0
    obtain ⟨k, zs, hk, rfl, hzs, hJk⟩ := hrel
    clear H0
    by_cases hlt : k < ys.length
    · have hlt' : (k : Int) < (ys.length : Int) := by omega
      obtain ⟨n', hn', _, _, e2, -, hat⟩ := hzs.out.2.2.at
      obtain rfl : n = n' := by omega
      injection e2 with e2 e3 e4
      subst e2 e4
      obtain ⟨b, off, rfl, hbP, s0, s1, s2, c0, c1, c2, hrd⟩ := hat k hlt
      have hwk := wts_mem hlt
      have lb := cell_lt' c0
      have HNx : Hid (∀ (A : World) (ad' : Option Addr) (l' c' : Nat), Below wr.heap.size wr A → RdP A (wr.heap.size ≤ ·) n ys[k].items (.slice ad' l' c') → xgd n ys wr.heap.size zs ⟨ys[k], ad', l', c'⟩ A ∧ RdP A (fun b => B ≤ b ∧ b < N) (n + 1) ys (.slice (some ⟨b, off, none⟩) ys.length c)) := fun A ad' l' c' hA hrA => by
        refine ⟨⟨hrA, by rw [hzs.out.1]; exact hlt, ?_⟩, hzs.out.2.2.keep fun b _ hl => hA.block b hl⟩
        rw [List.map_append, hzs.out.2.1, hzs.out.1, List.take_succ_eq_append_getElem hlt]
        rfl
      have HC : Hid (∀ W, Below wr.heap.size wr W → Calls Try.prog 97 #[.agg #[.bool ys[k].list, .string ys[k].text, .slice s0 s1 s2]] W fun e w' => (∃ ad' l' c', e = .returned (.agg #[.bool ys[k].list, .string ys[k].text, .slice ad' l' c']) ∧ RdP w' (W.heap.size ≤ ·) n ys[k].items (.slice ad' l' c')) ∧ Below W.heap.size W w') := fun W hW => HCd.out ys[k] s0 s1 s2 W (hrd.rd.below hW) (by have := HWt.out; omega)
      have HL : Hid (zs.length = k ∧ ∀ x : EX, x.it = ys[k] → (zs ++ [x]).map EX.it = ys.take (k + 1)) := ⟨hzs.out.1, fun x hx => by rw [List.map_append, hzs.out.2.1, List.take_succ_eq_append_getElem hlt, ← hx]; rfl⟩
      generalize ys[k] = yk at *
      clear hrd hat hwk hn' hbP
      gi_wp2_with (refine ⟨trivial, ?_⟩; gi_at_call 97; refine (callsIn_wide.2 (HC.out _ ((Below.refl _ wr).alloc (Nat.le_refl _) _))).mono ?_; rintro e w2 ⟨⟨ad', l', c', rfl, hrd2⟩, hb2⟩)
      have hb0 : Below wr.heap.size wr (wr.alloc (.cells #[.bool yk.list, .string yk.text, .slice s0 s1 s2] 70)) := (Below.refl _ wr).alloc (Nat.le_refl _) _
      have hb2' : Below wr.heap.size wr w2 := hb0.trans (hb2.mono hb0.size)
      have hrd3 : RdP w2 (wr.heap.size ≤ ·) n yk.items (.slice ad' l' c') := hrd2.weak fun q hq => Nat.le_trans hb0.size hq
      obtain ⟨hgd, hrA⟩ := HNx.out w2 ad' l' c' hb2' hrd3
      have HRA : Hid (RdP w2 (fun b => B ≤ b ∧ b < N) (n + 1) ys (.slice (some ⟨b, off, none⟩) ys.length c)) := hrA
      obtain ⟨fn, tmps, assign, body, hy, hR⟩ := HY.out zs ⟨yk, ad', l', c'⟩ wr w2 hJk hb2' hgd
      simp only [xenc] at hy
      clear hrd2 hb2 hb2' hb0 hrd3 hgd hrA HC HNx c0 c1 c2
      rw [hy]
      gi_wp2
      refine hR.mono ?_
      rintro e W3 (⟨rfl, hJ3, hk3⟩ | ⟨rfl, hJx3⟩)
      · gi_wp2
        go_roundw
        case rel => exact ⟨k + 1, zs ++ [⟨yk, ad', l', c'⟩], by omega, by go_num, ⟨by rw [List.length_append, HL.out.1]; rfl, HL.out.2 _ rfl, HRA.out.kpl hB ho hp hk3⟩, hJ3⟩
        case measure => simp [intOf]; omega
      · gi_wp2
        refine bodyPost_ret (results_none rfl _ _ _) rfl ?_
        refine ⟨⟨_, rfl⟩, .inr ⟨_, ⟨?_, ?_⟩, hJx3⟩⟩
        · rw [List.length_append, HL.out.1]; show k + 1 ≤ _; omega
        · have hl : (zs ++ [(⟨yk, ad', l', c'⟩ : EX)]).length = k + 1 := by rw [List.length_append, HL.out.1]; rfl
          rw [hl]; exact HL.out.2 _ rfl
    · have hlt' : ¬ (k : Int) < (ys.length : Int) := by omega
      obtain rfl : k = ys.length := by omega
      gi_wp2
      go_end0
      refine ⟨⟨_, rfl⟩, .inl ⟨zs, ?_, hJk⟩⟩
      have := hzs.out.2.1
      rw [List.take_length] at this
      exact this
end Go.Proofs.Ytapjonmgjccpbaa
end
section
set_option linter.unusedSimpArgs false
set_option linter.unusedVariables false
namespace Go.Proofs.Ytapjonmgjccpbaa
open Go.RowKit Go.Shelf
attribute [local go_sem] Oper.semAt_some

/-! mark: what each tells; Mark, Take. -/
def M64 : Nat := 18446744073709551616
def mstep (m b : Nat) : Nat := ((m ^^^ b) * 1099511628211) % 18446744073709551616
def mkg (i : Nat) (l : List (Nat × UInt8)) : Nat := l.foldl (fun m x => mstep m x.2.toNat) i
theorem mkg_snoc (i : Nat) (l : List (Nat × UInt8)) (x : Nat × UInt8) : mkg i (l ++ [x]) = mstep (mkg i l) x.2.toNat := by unfold mkg; rw [List.foldl_append, List.foldl_cons, List.foldl_nil]
theorem mstep_lt (m b : Nat) : mstep m b < 18446744073709551616 := by unfold mstep; omega
theorem mkg_lt (l : List (Nat × UInt8)) : ∀ i, i < 18446744073709551616 → mkg i l < 18446744073709551616 := by
  induction l with
  | nil => intro i h; exact h
  | cons x l ih => intro i h; unfold mkg; rw [List.foldl_cons]; exact ih _ (mstep_lt _ _)
def mkf (l : List (Nat × UInt8)) : Nat := mkg 14695981039346656037 l
theorem mkf_nil : mkf [] = 14695981039346656037 := by unfold mkf mkg; rw [List.foldl_nil]
theorem mkf_snoc (l : List (Nat × UInt8)) (x : Nat × UInt8) : mkf (l ++ [x]) = mstep (mkf l) x.2.toNat := by unfold mkf; rw [mkg_snoc]
theorem mkf_lt (l : List (Nat × UInt8)) : mkf l < 18446744073709551616 := by unfold mkf; exact mkg_lt l _ (by omega)
def byt (s : ByteArray) (j : Nat) : UInt8 := s.data.toList.getD j 0
theorem byt_eq (s : ByteArray) (j : Nat) (h : j < s.size) : byt s j = s[j] := by
  unfold byt
  rw [List.getD_eq_getElem?_getD, List.getElem?_eq_getElem (by rw [data_len]; exact h)]
  simp
  rfl
def ees (s : ByteArray) (k : Nat) : List (Nat × UInt8) := (List.range k).map fun j => (j, byt s j)
theorem ees_succ (s : ByteArray) (k : Nat) : ees s (k + 1) = ees s k ++ [(k, byt s k)] := by simp [ees, List.range_succ]
def eenc (x : Nat × UInt8) : Array Value := #[.int .i64 ((x.1 % 4611686018427387904 : Nat) : Int), .int .u8 (x.2.toNat : Int)]
def mk (s : ByteArray) : Nat := mkf (ees s s.size)
theorem mk_lt (s : ByteArray) : mk s < 18446744073709551616 := mkf_lt _
theorem mstep_val (m b : Nat) (hm : m < 18446744073709551616) (hb : b < 256) : IntKind.u64.wrap (Go.bits BinOp.xor IntKind.u64 (m : Int) (b : Int) * 1099511628211) = ((mstep m b : Nat) : Int) := by
  rw [bits_xor_u64_nat m b hm (by omega), IntKind.wrap_u64]
  unfold mstep
  omega
set_option maxRecDepth 100000 in
set_option maxHeartbeats 2000000 in
theorem each_seq (m : Nat) (s : ByteArray) (Bs o p : Nat) (hm : 1 ≤ m) (hs : s.size ≤ 4611686018427387904) (w : World)
    (bS : Bk w Bs #[.string s] 9) (nA : Bs ≠ o ∧ Bs ≠ p) :
    SeqB Fence.wide m Try.prog 117 #[.pointer (some ⟨Bs, 0, none⟩)] eenc (KpX o p) (fun xs => xs = ees s s.size) (fun xs => ∃ k, k < s.size ∧ xs = ees s (k + 1)) w := by
  intro l J Jx W hbW hJ hJx hY h0
  have bS := bS.below hbW bS.lt
  have HY : Hid (∀ pre x A, J pre A → YieldAt Fence.wide (m - 1) Try.prog l (eenc x) A fun e B => (e = .returned (.bool true) ∧ J (pre ++ [x]) B ∧ KpX o p A B) ∨ (e = .returned (.bool false) ∧ Jx (pre ++ [x]) B)) := hY
  clear hY hJ hJx hbW
  show CallsIn Fence.wide m Try.prog 117 #[.func (.yield l) #[] #[], .pointer (some ⟨Bs, 0, none⟩)] W _
  refine callsIn_of_wp Try.func117 rfl trivial ?_ rfl
  simp only [Try.ntmps117, List.size_toArray, List.length_cons, List.length_nil, Nat.reduceAdd, Nat.reduceSub, Array.replicate_succ, Array.replicate_zero, List.push_toArray, List.append_toArray, List.nil_append, List.cons_append]
  have t0 := bS.cell 0
  simp only [List.getElem?_toArray, List.getElem?_cons_zero] at t0
  gi_wp2
  gi_loopw [6] (fun i wr => ∃ j : Nat, j ≤ s.size ∧ i = .int .i64 (j : Int) ∧ Bk wr Bs #[.string s] 9 ∧ J (ees s j) wr) (fun i _ => s.size - (intOf i).toNat)
  case atStart => exact ⟨0, Nat.zero_le _, rfl, bS, h0⟩
  case round =>
    clear bS t0 h0
    obtain ⟨j, hj, rfl, bS, hJk⟩ := hrel
    by_cases hlt : j < s.size
    · have hlt' : (j : Int) < (s.size : Int) := by omega
      have HBs : Hid (ees s (j + 1) = ees s j ++ [(j, byt s j)]) := ees_succ s j
      have HA : Hid (Bk wr Bs #[.string s] 9) := bS
      have t0 := bS.cell 0
      simp only [List.getElem?_toArray, List.getElem?_cons_zero] at t0
      have hix := fun w => idx_str s (j : Int) j hlt rfl w
      obtain ⟨fn, tmps, assign, body, hy, hR⟩ := HY.out _ (j, byt s j) wr hJk
      simp only [eenc] at hy
      rw [Nat.mod_eq_of_lt (show j < 4611686018427387904 by omega)] at hy
      rw [byt_eq s j hlt] at hy
      clear bS
      gi_wp2
      refine hR.mono ?_
      rintro e W3 (⟨rfl, hJ3, hk3⟩ | ⟨rfl, hJx3⟩)
      · gi_wp2
        go_roundw
        case rel => exact ⟨j + 1, by omega, by go_num, hk3 _ _ _ nA.1 nA.2 HA.out, by rw [HBs.out]; exact hJ3⟩
        case measure => simp [intOf]; omega
      · gi_wp2
        refine bodyPost_ret (results_none rfl _ _ _) rfl ?_
        exact ⟨⟨_, rfl⟩, .inr ⟨_, ⟨j, hlt, HBs.out.symm⟩, hJx3⟩⟩
    · have hlt' : ¬ (j : Int) < (s.size : Int) := by omega
      obtain rfl : j = s.size := by omega
      gi_wp2
      go_end0
      refine ⟨⟨_, rfl⟩, .inl ?_⟩
      first | exact hJk | exact ⟨_, rfl, hJk⟩
end Go.Proofs.Ytapjonmgjccpbaa
end
section
set_option linter.unusedSimpArgs false
set_option linter.unusedVariables false
namespace Go.Proofs.Ytapjonmgjccpbaa
open Go.RowKit Go.Shelf
attribute [local go_sem] Oper.semAt_some

theorem each_any (s : ByteArray) (w : World) : Calls Try.prog 100 #[.string s] w fun e w' => e = .returned (.func (.func 117) #[] #[.pointer (some ⟨w.heap.size, 0, none⟩)]) ∧ w' = w.alloc (.cells #[.string s] 9) := by
  go_enter Try.func100, Try.ntmps100
  go_wp2
  go_ret
  exact ⟨rfl, rfl⟩
structure MI (w W : World) (pre : List (Nat × UInt8)) : Prop where
  bM : Bk W w.heap.size #[.int .u64 (mkf pre : Int)] 24
  hB : Below w.heap.size w W
theorem MI.below {w A B : World} {k : Nat} {pre : List (Nat × UInt8)} (h : MI w A pre) (hb : Below k A B) (hk : w.heap.size < k) : MI w B pre :=
  ⟨h.bM.below hb (by omega), h.hB.trans (hb.mono (by omega))⟩
set_option maxRecDepth 100000 in
set_option maxHeartbeats 2000000 in
theorem mark (s : ByteArray) (hs : s.size ≤ 4611686018427387904) (w : World) :
    Calls Try.prog 129 #[.string s] w fun e w' => e = .returned (.int .u64 (mk s : Int)) ∧ Below w.heap.size w w' := by
  have Hs : Hid (s.size ≤ 4611686018427387904) := hs
  clear hs
  refine (callsIn_wide (n := 6)).1 ?_
  refine callsIn_of_wp_marks Try.func129 rfl trivial ?_ rfl
  simp only [Try.ntmps129, List.size_toArray, List.length_cons, List.length_nil, Nat.reduceAdd, Nat.reduceSub, Array.replicate_succ, Array.replicate_zero, List.push_toArray, List.append_toArray, List.nil_append, List.cons_append]
  gi_wp2_with (refine ⟨trivial, ?_⟩; gi_at_call 100; refine (callsIn_wide.2 (each_any s _)).mono ?_; rintro e w' ⟨rfl, rfl⟩)
  have bA : Bk ((w.alloc (.cells #[.int .u64 14695981039346656037] 24)).alloc (.cells #[.string s] 9)) (w.heap.size + 1) #[.string s] 9 := Bk.new' _ _ _ (by simp)
  have h0 : MI w ((w.alloc (.cells #[.int .u64 14695981039346656037] 24)).alloc (.cells #[.string s] 9)) [] := ⟨by rw [mkf_nil]; exact (Bk.new' _ _ _ (by simp)).alloc _, ((Below.refl _ w).alloc (Nat.le_refl _) _).alloc (by simp) _⟩
  have hz9 : ((w.alloc (.cells #[.int .u64 14695981039346656037] 24)).alloc (.cells #[.string s] 9)).heap.size = w.heap.size + 2 := by simp
  generalize ((w.alloc (.cells #[.int .u64 14695981039346656037] 24)).alloc (.cells #[.string s] 9)) = w9 at bA h0 hz9 ⊢
  refine wpIn_rangeB rfl (by omega) (gf := 117) (lb := #[.pointer (some ⟨w.heap.size + 1, 0, none⟩)]) rfl trivial (enters_of Try.func117 rfl rfl)
    (each_seq _ s (w.heap.size + 1) w.heap.size w.heap.size (by omega) Hs.out w9 bA ⟨by omega, by omega⟩) KpX.trans (fun W l o o' _ h hc => kpx_put W l o o' h hc) (Below.refl _ _) (fun _ => rfl)
    (fun pre W => MI w W pre) (fun c pre W => False) (fun s A B h hb => h.below hb (by omega)) (fun c s A B h hb => h) h0
    (fun x a' W => a' = { tmps := #[.string s, undef, .int .u64 0, .pointer (some ⟨w.heap.size, 0, none⟩), undef, .int .u8 (x.2.toNat : Int), .string s, .func (.func 117) #[] #[.pointer (some ⟨w.heap.size + 1, 0, none⟩)], .int .i64 ((x.1 % 4611686018427387904 : Nat) : Int), .int .u8 (x.2.toNat : Int), undef, undef, undef, undef, undef, undef], defers := [] })
    (fun x a' A l o o' _ h hc hx => hx) ?assign ?body ?done ?stop
  case assign =>
    intro l pre x W K hi hK
    simp only [eenc]
    gi_wp2
    exact hK _ _ (KeepsFrom.refl _ _) (fun b vs t _ _ hb => hb) hi rfl
  case body =>
    rintro l pre x a' W hi rfl
    have bM := hi.bM
    have lM := bM.lt
    have s0 := bM.cell 0
    have sf0 := bM.frozen 0
    simp only [List.getElem?_toArray, List.getElem?_cons_zero] at s0
    have hv := mstep_val (mkf pre) x.2.toNat (mkf_lt pre) (byte_lt _)
    have HB : Hid (Below w.heap.size w W) := hi.hB
    have HS : Hid (mkf (pre ++ [x]) = mstep (mkf pre) x.2.toNat) := mkf_snoc pre x
    have hb8 := byte_lt x.2
    generalize mkf pre = m at *
    have HM : Hid (Bk W w.heap.size #[.int .u64 (m : Int)] 24) := bM
    clear hi bM
    gi_wp2
    exact ⟨(KeepsOthers.setCell _ _ _).from _, fun b' vs t h1 h2 hb => hb.other (by simpa using h1) _, by rw [HS.out]; exact HM.out.set 0 _ rfl, HB.out.setCell (p := ⟨w.heap.size, 0, none⟩) (by simp) _⟩
  case done =>
    rintro D xs W hD rfl hi hK
    have s0 := hi.bM.cell 0
    simp only [List.getElem?_toArray, List.getElem?_cons_zero] at s0
    gi_wp2
    refine ⟨by simp, .inl ⟨_, _, rfl, run_takeDeferred hK, ?_⟩⟩
    refine ⟨.int .u64 (mk s : Int), ?_, rfl, hi.hB.trans (below_put _ _ (by omega))⟩
    simp [results, Try.f129, go_sem, mk]
  case stop =>
    rintro D c pre W hD ⟨k, hk, rfl⟩ hf hK
    exact hf.elim
end Go.Proofs.Ytapjonmgjccpbaa
end
section
set_option linter.unusedSimpArgs false
set_option linter.unusedVariables false
namespace Go.Proofs.Ytapjonmgjccpbaa
open Go.RowKit Go.Shelf
attribute [local go_sem] Oper.semAt_some

/-! mark.Take. -/
def tstp (s : Nat × Nat) (x : Nat × UInt8) : Nat × Nat := if 8 < x.1 % 4611686018427387904 + 1 then (s.1, x.1 % 4611686018427387904 + 1) else (s.1 % 72057594037927936 * 256 + x.2.toNat, x.1 % 4611686018427387904 + 1)
def tst (l : List (Nat × UInt8)) : Nat × Nat := l.foldl tstp (0, 0)
theorem tst_snoc (l : List (Nat × UInt8)) (x : Nat × UInt8) : tst (l ++ [x]) = tstp (tst l) x := by unfold tst; rw [List.foldl_append, List.foldl_cons, List.foldl_nil]
theorem tst_lt (l : List (Nat × UInt8)) : (tst l).1 < 18446744073709551616 := by
  have : ∀ (l : List (Nat × UInt8)) (s : Nat × Nat), s.1 < 18446744073709551616 → (l.foldl tstp s).1 < 18446744073709551616 := by
    intro l
    induction l with
    | nil => intro s h; exact h
    | cons x l ih =>
      intro s h
      rw [List.foldl_cons]
      refine ih _ ?_
      unfold tstp
      have := byte_lt x.2
      split
      · exact h
      · show s.1 % 72057594037927936 * 256 + x.2.toNat < _
        omega
  exact this l (0, 0) (by show 0 < _; omega)
theorem tst_n (s : ByteArray) (k : Nat) (h : k ≤ 4611686018427387904) : (tst (ees s k)).2 = k := by
  cases k with
  | zero => rfl
  | succ j =>
    rw [ees_succ, tst_snoc]
    have e : j % 4611686018427387904 = j := Nat.mod_eq_of_lt (by omega)
    unfold tstp
    simp only [e]
    split <;> rfl
theorem tst_m (s : ByteArray) (k : Nat) (h : k ≤ 8) (hs : k ≤ s.size) : (tst (ees s k)).1 = takeV (s.data.toList.take k) := by
  induction k with
  | zero => rw [List.take_zero]; rfl
  | succ j ih =>
    have ih := ih (by omega) (by omega)
    have hl : j < s.data.toList.length := by rw [data_len]; omega
    rw [ees_succ, tst_snoc, List.take_succ_eq_append_getElem hl, takeV_snoc]
    have e : j % 4611686018427387904 = j := Nat.mod_eq_of_lt (by omega)
    have hb : byt s j = s.data.toList[j] := by
      unfold byt
      rw [List.getD_eq_getElem?_getD, List.getElem?_eq_getElem hl]
      rfl
    have hlt := takeV_lt (s.data.toList.take j)
    rw [List.length_take, Nat.min_eq_left (by omega)] at hlt
    have h56 : takeV (s.data.toList.take j) < 72057594037927936 := by
      have : (2 : Nat) ^ (8 * j) ≤ 2 ^ 56 := Nat.pow_le_pow_right (by omega) (by omega)
      omega
    unfold tstp
    simp only [e]
    rw [if_neg (by omega), ih, hb, Nat.mod_eq_of_lt h56]
theorem sh_or (m b : Nat) (hm : m < 18446744073709551616) (hb : b < 256) : Go.bits BinOp.or IntKind.u64 (IntKind.u64.wrap ((m : Int) * 256)) (b : Int) = ((m % 72057594037927936 * 256 + b : Nat) : Int) := by
  have e : IntKind.u64.wrap ((m : Int) * 256) = ((m % 72057594037927936 * 256 : Nat) : Int) := by rw [IntKind.wrap_u64]; omega
  rw [e, bits_or_u64_nat _ _ (by omega) (by omega)]
  congr 1
  have := Nat.shiftLeft_add_eq_or_of_lt (i := 8) (show b < 2 ^ 8 by omega) (m % 72057594037927936)
  rw [Nat.shiftLeft_eq] at this
  exact this.symm
def mtV (s : ByteArray) : Nat := if s.size = 8 then takeV s.data.toList else 0
structure TIm (w W : World) (pre : List (Nat × UInt8)) : Prop where
  bM : Bk W w.heap.size #[.int .u64 ((tst pre).1 : Int)] 24
  bN : Bk W (w.heap.size + 1) #[.int .i64 ((tst pre).2 : Int)] 3
  hB : Below w.heap.size w W
theorem TIm.below {w A B : World} {k : Nat} {pre : List (Nat × UInt8)} (h : TIm w A pre) (hb : Below k A B) (hk : w.heap.size + 1 < k) : TIm w B pre :=
  ⟨h.bM.below hb (by omega), h.bN.below hb (by omega), h.hB.trans (hb.mono (by omega))⟩
set_option maxRecDepth 100000 in
set_option maxHeartbeats 2000000 in
theorem mtake (s : ByteArray) (hs : s.size ≤ 4611686018427387904) (w : World) :
    Calls Try.prog 70 #[.string s] w fun e w' => e = .returned (.tuple #[.int .u64 (mtV s : Int), .bool (s.size == 8)]) ∧ Below w.heap.size w w' := by
  have Hs : Hid (s.size ≤ 4611686018427387904) := hs
  clear hs
  refine (callsIn_wide (n := 6)).1 ?_
  refine callsIn_of_wp_marks Try.func70 rfl trivial ?_ rfl
  simp only [Try.ntmps70, List.size_toArray, List.length_cons, List.length_nil, Nat.reduceAdd, Nat.reduceSub, Array.replicate_succ, Array.replicate_zero, List.push_toArray, List.append_toArray, List.nil_append, List.cons_append]
  gi_wp2
  refine wpIn_wide.2 (wp_scope_straight ((wpIn_wide (n := 6)).1 ?_))
  gi_wp2
  refine wpIn_label ?_
  gi_wp2_with (refine ⟨trivial, ?_⟩; gi_at_call 100; refine (callsIn_wide.2 (each_any s _)).mono ?_; rintro e w' ⟨rfl, rfl⟩)
  have bA : Bk (((w.alloc (.cells #[.int .u64 0] 24)).alloc (.cells #[.int .i64 0] 3)).alloc (.cells #[.string s] 9)) (w.heap.size + 1 + 1) #[.string s] 9 := Bk.new' _ _ _ (by simp)
  have h0 : TIm w (((w.alloc (.cells #[.int .u64 0] 24)).alloc (.cells #[.int .i64 0] 3)).alloc (.cells #[.string s] 9)) [] := ⟨((Bk.new' _ _ _ (by simp)).alloc _).alloc _, (Bk.new' _ _ _ (by simp)).alloc _, (((Below.refl _ w).alloc (Nat.le_refl _) _).alloc (by simp) _).alloc (by simp; omega) _⟩
  have hz9 : (((w.alloc (.cells #[.int .u64 0] 24)).alloc (.cells #[.int .i64 0] 3)).alloc (.cells #[.string s] 9)).heap.size = w.heap.size + 3 := by simp
  generalize (((w.alloc (.cells #[.int .u64 0] 24)).alloc (.cells #[.int .i64 0] 3)).alloc (.cells #[.string s] 9)) = w9 at bA h0 hz9 ⊢
  refine wpIn_rangeB rfl (by omega) (gf := 117) (lb := #[.pointer (some ⟨w.heap.size + 1 + 1, 0, none⟩)]) rfl trivial (enters_of Try.func117 rfl rfl)
    (each_seq _ s (w.heap.size + 1 + 1) w.heap.size (w.heap.size + 1) (by omega) Hs.out w9 bA ⟨by omega, by omega⟩) KpX.trans (fun W l o o' _ h hc => kpx_put W l o o' h hc) (Below.refl _ _) (fun _ => rfl)
    (fun pre W => TIm w W pre ∧ (tst pre).2 ≤ 8) (fun c pre W => c = .exit 0 ∧ TIm w W pre ∧ 8 < (tst pre).2) (fun s A B h hb => ⟨h.1.below hb (by omega), h.2⟩) (fun c s A B h hb => ⟨h.1, h.2.1.below hb (by omega), h.2.2⟩) ⟨h0, by show (0 : Nat) ≤ 8; omega⟩
    (fun x a' W => a' = { tmps := #[.string s, undef, .int .u64 0, .bool false, .pointer (some ⟨w.heap.size, 0, none⟩), .pointer (some ⟨w.heap.size + 1, 0, none⟩), .int .i64 ((x.1 % 4611686018427387904 : Nat) : Int), .int .u8 (x.2.toNat : Int), .string s, .func (.func 117) #[] #[.pointer (some ⟨w.heap.size + 1 + 1, 0, none⟩)], .int .i64 ((x.1 % 4611686018427387904 : Nat) : Int), .int .u8 (x.2.toNat : Int), undef, undef, undef, undef, undef, undef, undef, undef, undef, undef, undef, undef, undef], defers := [] })
    (fun x a' A l o o' _ h hc hx => hx) ?assign ?body ?done ?stop
  case assign =>
    intro l pre x W K hi hK
    simp only [eenc]
    gi_wp2
    exact hK _ _ (KeepsFrom.refl _ _) (fun b vs t _ _ hb => hb) hi rfl
  case body =>
    rintro l pre x a' W hi rfl
    have bM := hi.1.bM
    have bN := hi.1.bN
    have lM := bM.lt
    have lN := bN.lt
    have s0 := bM.cell 0
    have sf0 := bM.frozen 0
    have n0 := bN.cell 0
    have nf0 := bN.frozen 0
    simp only [List.getElem?_toArray, List.getElem?_cons_zero] at s0 n0
    have hv := sh_or (tst pre).1 x.2.toNat (tst_lt pre) (byte_lt _)
    have HB : Hid (Below w.heap.size w W) := hi.1.hB
    have HS : Hid (tst (pre ++ [x]) = if 8 < x.1 % 4611686018427387904 + 1 then ((tst pre).1, x.1 % 4611686018427387904 + 1) else ((tst pre).1 % 72057594037927936 * 256 + x.2.toNat, x.1 % 4611686018427387904 + 1)) := tst_snoc pre x
    have hb8 := byte_lt x.2
    have HM : Hid (Bk W w.heap.size #[.int .u64 ((tst pre).1 : Int)] 24) := bM
    have HN : Hid (Bk W (w.heap.size + 1) #[.int .i64 ((tst pre).2 : Int)] 3) := bN
    generalize (tst pre).1 = m at *
    generalize (tst pre).2 = n at *
    have hj : x.1 % 4611686018427387904 < 4611686018427387904 := Nat.mod_lt _ (by omega)
    generalize x.1 % 4611686018427387904 = j at *
    clear hi bM bN
    by_cases h8 : 8 < j + 1
    · have h8' : 8 < (j : Int) + 1 := by omega
      rw [if_pos h8] at HS
      gi_wp2
      refine ⟨(KeepsOthers.setCell _ _ _).from _, rfl, ⟨?_, ?_, HB.out.setCell (p := ⟨w.heap.size + 1, 0, none⟩) (by simp) _⟩, by rw [HS.out]; exact h8⟩
      · rw [HS.out]; exact HM.out.other (by simp) _
      · rw [HS.out]; exact HN.out.set 0 _ rfl
    · have h8' : ¬ 8 < (j : Int) + 1 := by omega
      rw [if_neg h8] at HS
      gi_wp2
      have e : ((m % 72057594037927936 * 256 + x.2.toNat : Nat) : Int) = (m : Int) % 72057594037927936 * 256 + x.2.toNat := by omega
      refine ⟨((KeepsOthers.setCell _ _ _).from _).trans ((KeepsOthers.setCell _ _ _).from _), fun b' vs t h1 h2 hb => (hb.other (by simpa using h2) _).other (by simpa using h1) _, ⟨?_, ?_, (HB.out.setCell (p := ⟨w.heap.size + 1, 0, none⟩) (by simp) _).setCell (p := ⟨w.heap.size, 0, none⟩) (by simp) _⟩, by rw [HS.out]; show j + 1 ≤ 8; omega⟩
      · rw [HS.out]; show Bk _ _ #[.int .u64 ((m % 72057594037927936 * 256 + x.2.toNat : Nat) : Int)] _; rw [e]; exact (HM.out.other (by simp) _).set 0 _ rfl
      · rw [HS.out]; exact (HN.out.set 0 _ rfl).other (by simp) _
  case done =>
    rintro D xs W hD rfl hi hK
    have s0 := hi.1.bM.cell 0
    have n0 := hi.1.bN.cell 0
    simp only [List.getElem?_toArray, List.getElem?_cons_zero] at s0 n0
    have hn := tst_n s s.size Hs.out
    have h8 := hi.2
    rw [hn] at n0 h8
    by_cases he : s.size = 8
    · have hV : (tst (ees s s.size)).1 = mtV s := by rw [tst_m s s.size h8 (Nat.le_refl _), mtV, if_pos he, ← data_len, List.take_length]
      rw [hV] at s0
      have he' : (s.size : Int) = 8 := by omega
      rw [he'] at n0
      gi_wp2
      simp only [Exit.noGoto]
      refine ⟨by simp, .inl ⟨_, _, rfl, run_takeDeferred hK, ?_⟩⟩
      refine ⟨.tuple #[.int .u64 (mtV s : Int), .bool true], ?_, by rw [he]; rfl, hi.1.hB.trans (below_put _ _ (by omega))⟩
      simp [results, Try.f70, go_sem]
    · have he' : ((s.size : Int) != 8) = true := by rw [bne_iff_ne]; omega
      gi_wp2
      simp only [Exit.noGoto]
      refine ⟨by simp, .inl ⟨_, _, rfl, run_takeDeferred hK, ?_⟩⟩
      refine ⟨.tuple #[.int .u64 0, .bool false], ?_, by rw [mtV, if_neg he, beq_eq_false_iff_ne.2 he]; rfl, hi.1.hB.trans (below_put _ _ (by omega))⟩
      simp [results, Try.f70, go_sem]
  case stop =>
    rintro D c pre W hD ⟨k, hk, rfl⟩ ⟨rfl, hi, hz⟩ hK
    have hn := tst_n s (k + 1) (by have := Hs.out; omega)
    have n0 := hi.bN.cell 0
    simp only [List.getElem?_toArray, List.getElem?_cons_zero] at n0
    rw [hn] at n0 hz
    have he' : ((((k + 1 : Nat)) : Int) != 8) = true := by rw [bne_iff_ne]; omega
    have he : ¬ s.size = 8 := by omega
    gi_wp2
    simp only [Exit.noGoto]
    refine ⟨by simp, .inl ⟨_, _, rfl, run_takeDeferred hK, ?_⟩⟩
    refine ⟨.tuple #[.int .u64 0, .bool false], ?_, by rw [mtV, if_neg he, beq_eq_false_iff_ne.2 he]; rfl, hi.hB.trans (below_put _ _ (by omega))⟩
    simp [results, Try.f70, go_sem]
end Go.Proofs.Ytapjonmgjccpbaa
end
section
set_option linter.unusedSimpArgs false
set_option linter.unusedVariables false
namespace Go.Proofs.Ytapjonmgjccpbaa
open Go.RowKit

/-! A drawn region within a round goes as one outside: only a deferred call minds the round. -/
theorem anyIn_round {F : Fence} {n : Nat} {P : Program} {md : Region.Mode} {ops : Array Oper} {Q : Exit → Act → World → Prop} (l : Nat) (hd : ∀ (i : Nat) (o : Oper), ops[i]? = some o → ∀ c, o.op ≠ .defer c) :
    ∀ (fuel : Nat) (listed : Array Bool) (a : Act) (w : World), wpAnyIn F n P md ops Q fuel listed a w → wpAnyIn (F.inRound l) n P md ops Q fuel listed a w
  | 0, _, _, _, h => h
  | fuel + 1, listed, a, w, h => by
    refine ⟨h.1, fun i hi => ?_⟩
    have h1 := wpOpIn_mono (fun a w hk => anyIn_round l hd fuel (listed.setIfInBounds i true) a w hk) (h.2 i hi)
    unfold wpOpIn at h1 ⊢
    cases ho : ops[i]? with
    | none => simp only [ho] at h1 ⊢; exact h1
    | some o =>
      simp only [ho] at h1 ⊢
      split at h1
      · unfold Oper.wpIn at h1 ⊢
        rw [Oper.semAt_plain _ _ _ (hd i o ho)] at h1 ⊢
        rename_i hw
        simp only [hw, if_true]
        exact h1
      · rename_i hw
        simp only [hw]
        exact h1
/-- No deferred call among them. -/
def noDefer (ops : Array Oper) : Bool := ops.all fun o => match o.op with | .defer _ => false | _ => true
theorem noDefer_spec {ops : Array Oper} (h : noDefer ops = true) (i : Nat) (o : Oper) (ho : ops[i]? = some o) (c) : o.op ≠ .defer c := fun e => by
  have hm : o ∈ ops := Array.mem_of_getElem? ho
  have := (Array.all_eq_true'.1 h) o hm
  rw [e] at this
  exact absurd this (by simp)
end Go.Proofs.Ytapjonmgjccpbaa
end

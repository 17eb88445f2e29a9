/- Texts joined: Wid OTx RdT EEr Rd0 TkA0 Wd2. -/
import Derived.Test.YtapjonmgjccpbaaJ0
import Derived.Deep.Upon
import Derived.Test.YtapjonmgjccpbaaJ3
import Derived.Test.YtapjonmgjccpbaaTLs
import Derived.Test.YtapjonmgjccpbaaJ7
import Derived.Test.YtapjonmgjccpbaaJ8
import Derived.Test.YtapjonmgjccpbaaPts
import Derived.Test.YtapjonmgjccpbaaJ5
import Derived.Scope
import Derived.Deep.RegionLaw
section
set_option linter.unusedSimpArgs false
set_option linter.unusedVariables false
namespace Go.Proofs.Ytapjonmgjccpbaa
open Go.RowKit

/-! Wide structs, stored whole. -/
theorem setCells_Bk {b : Nat} {t : TypeId} : ∀ (new old pre : List Value) (w : World), old.length = new.length → Bk w b (pre ++ old).toArray t → Bk (w.setCells b pre.length new) b (pre ++ new).toArray t
  | [], [], pre, w, _, h => h
  | [], _ :: _, _, _, h, _ => by simp at h
  | _ :: _, [], _, _, h, _ => by simp at h
  | v :: new, o :: old, pre, w, hl, h => by
    have h1 : Bk (w.setCell ⟨b, pre.length, none⟩ v) b ((pre ++ [v]) ++ old).toArray t := h.set pre.length v (by
      rw [List.setIfInBounds_toArray]
      congr 1
      rw [List.set_append_right _ _ (Nat.le_refl _)]
      simp)
    have h2 := setCells_Bk new old (pre ++ [v]) (w.setCell ⟨b, pre.length, none⟩ v) (by simpa using hl) h1
    rw [List.length_append] at h2
    simp only [List.append_assoc, List.cons_append, List.nil_append] at h2
    exact h2
theorem setCells_other {b c : Nat} {t : TypeId} {vs : Array Value} (hne : c ≠ b) : ∀ (new : List Value) (o : Nat) (w : World), Bk w c vs t → Bk (w.setCells b o new) c vs t
  | [], _, _, h => h
  | v :: new, o, w, h => setCells_other hne new (o + 1) _ (h.other hne v)
theorem setCells_below {B b : Nat} {w0 : World} (hb : B ≤ b) : ∀ (new : List Value) (o : Nat) (w : World), Below B w0 w → Below B w0 (w.setCells b o new)
  | [], _, _, h => h
  | v :: new, o, w, h => setCells_below hb new (o + 1) _ (h.setCell (p := ⟨b, o, none⟩) hb v)
theorem setCells_block {b c : Nat} (hne : c ≠ b) : ∀ (new : List Value) (o : Nat) (w : World), (w.setCells b o new).heap[c]? = w.heap[c]?
  | [], _, _ => rfl
  | v :: new, o, w => (setCells_block hne new (o + 1) _).trans (Below.heap_setCell w _ _ c hne)
theorem setCells_size {b : Nat} : ∀ (new : List Value) (o : Nat) (w : World), (w.setCells b o new).heap.size = w.heap.size
  | [], _, _ => rfl
  | v :: new, o, w => (setCells_size new (o + 1) _).trans (by simp)
theorem Bk.there {w : World} {b : Nat} {vs : Array Value} {t : TypeId} (h : Bk w b vs t) : w.there b 0 vs.size := fun j hj => by
  rw [Nat.zero_add]
  exact ⟨by rw [h.cell]; simp [hj], h.frozen j⟩
/-- What a store of a whole transaction makes of the world. -/
structure Stored (w W : World) (R : Nat) (cs : Array Value) (ty : TypeId) : Prop where
  bR : Bk W R cs ty
  block : ∀ c, c ≠ R → W.heap[c]? = w.heap[c]?
  below : ∀ B w0, B ≤ R → Below B w0 w → Below B w0 W
  size : W.heap.size = w.heap.size
theorem Stored.other {w W : World} {R c : Nat} {cs vs : Array Value} {ty t : TypeId} (h : Stored w W R cs ty) (hc : Bk w c vs t) (hne : c ≠ R) : Bk W c vs t := (h.block c hne).trans hc
theorem Stored.cell {w W : World} {R : Nat} {cs : Array Value} {ty : TypeId} (h : Stored w W R cs ty) {p : Addr} (hne : p.block ≠ R) : W.cell? p = w.cell? p := World.cell?_of_block (w := w) (h.block p.block hne)
theorem Stored.or {α : Type} {e : TypeId} {c : α → Value} {w W : World} {R base : Nat} {cs : Array Value} {ty : TypeId} {v : Value} {l : List α} (h : Stored w W R cs ty) (ho : Or e c w base v l) (hne : v.ownBlock ≠ some R) : Or e c W base v l := by
  refine ⟨ho.1, ?_⟩
  rcases ho.2 with h2 | ⟨g, cap, cur, rfl, h3, h4, h5⟩
  · exact .inl h2
  · exact .inr ⟨g, cap, cur, rfl, h3, (h.block g (by simpa [Value.ownBlock] using hne)).trans h4, h5⟩
theorem txc_one (t : TX) (aH aB : Option Addr) (nH cH nB cB : Nat) : (txc t (.slice aH nH cH) (.slice aB nB cB)).all (·.oneCell') = true := by simp [Value.oneCell']
theorem wpList_store_tx {ops : Array Oper} {rest : List Oper} {op : Oper} {a : Act} {w : World} {Q : Exit → Act → World → Prop} (hgd : op.guard = none) (x y : Operand) (ho : op.op = .store 30 x y)
    {R : Nat} (hx : a.eval x = .pointer (some ⟨R, 0, none⟩)) {t : TX} {aH aB : Option Addr} {nH cH nB cB : Nat} (hy : a.eval y = .agg (txc t (.slice aH nH cH) (.slice aB nB cB))) {old : Array Value} (h : Bk w R old 30) (hs : old.size = 21)
    (hk : ∀ W, Stored w W R (txc t (.slice aH nH cH) (.slice aB nB cB)) 30 → wpList Try.prog ops Q rest (a.put op.dst undef) W) : wpList Try.prog ops Q (op :: rest) a w := by
  refine wpList_store_mid hgd 30 x y ho R 0 (txc t (.slice aH nH cH) (.slice aB nB cB)) hx hy (by have := h.there; rw [hs] at this; exact this) infoT (txc_one ..) (hk _ ⟨?_, fun c hc => setCells_block hc _ _ _, fun B w0 hB hb => setCells_below hB _ _ _ hb, setCells_size _ _ _⟩)
  have := setCells_Bk (b := R) (t := 30) (txc t (.slice aH nH cH) (.slice aB nB cB)).toList old.toList [] w (by simpa using hs) (by simpa using h)
  simpa using this
end Go.Proofs.Ytapjonmgjccpbaa
end
section
set_option linter.unusedSimpArgs false
set_option linter.unusedVariables false
namespace Go.Proofs.Ytapjonmgjccpbaa
open Go.RowKit

/-! Transactions of a call's own. -/
/-- A transaction whose slices are of a call's own. -/
structure OT (w : World) (base : Nat) (t : TX) (u v : Value) : Prop where
  h : Or 24 cU w base u t.hs
  b : Or 9 cS w base v t.bs
theorem range_get {α : Type} (l : List α) (d : α) : (List.range l.length).map (fun i => l.getD i d) = l := by
  apply List.ext_getElem
  · simp
  · intro i h1 h2
    simp at h1
    simp [h1]
def z21 : Array Value := #[.int .i64 0, .int .i64 0, .int .u64 0, .int .u64 0, .int .u64 0, .int .u64 0, .int .u64 0, .int .u64 0, .int .u64 0, .int .u64 0, .int .u64 0, .int .u64 0, .int .u64 0, .int .u64 0, .int .u64 0, .int .u64 0, .int .u64 0, .int .u64 0, .int .i64 0, .slice none 0 0, .slice none 0 0]
end Go.Proofs.Ytapjonmgjccpbaa
end
section
set_option linter.unusedSimpArgs false
set_option linter.unusedVariables false
namespace Go.Proofs.Ytapjonmgjccpbaa
open Go.RowKit

/-! What the parts of a list say of a transaction. -/
abbrev atI (l : List IT) (i : Nat) : IT := l.getD i zIT
def rdT (l : List IT) : TX := ⟨whV (atI l 0).list (atI l 0).text, whV (atI l 1).list (atI l 1).text, tkV (atI l 2).text, tkV (atI l 3).text, tkV (atI l 4).text, tkV (atI l 5).text, whV (atI l 6).list (atI l 6).text, (atI l 7).items.map (fun y => mtV y.text), (atI l 8).items.map (fun y => y.text)⟩
/-- Whether the part at i says so. -/
def gdA (i : Nat) (a : IT) : Bool :=
  if i = 0 ∨ i = 1 ∨ i = 6 then whOk a.list a.text else if i = 7 then lsU a else if i = 8 then lsS a else if i < 6 then nbOk a.list a.text else true
def okT (l : List IT) : Bool := decide (l.length = 9) && (List.range 9).all fun i => gdA i (atI l i)
theorem tkV_nil : tkV ⟨#[]⟩ = 0 := by decide
theorem whV_nil : whV false ⟨#[]⟩ = 0 := by unfold whV; rw [tkV_nil]; split <;> rfl
theorem rdT_nil : rdT [] = ⟨0, 0, 0, 0, 0, 0, 0, [], []⟩ := by
  show TX.mk (whV false ⟨#[]⟩) (whV false ⟨#[]⟩) (tkV ⟨#[]⟩) (tkV ⟨#[]⟩) (tkV ⟨#[]⟩) (tkV ⟨#[]⟩) (whV false ⟨#[]⟩) [] [] = _
  rw [whV_nil, tkV_nil]
theorem atI_lt (l : List IT) (x : IT) (i : Nat) (h : i < l.length) : atI (l ++ [x]) i = atI l i := by
  simp only [atI, List.getD, List.getElem?_append_left h]
theorem atI_eq (l : List IT) (x : IT) : atI (l ++ [x]) l.length = x := by simp [atI]
theorem atI_gt (l : List IT) (x : IT) (i : Nat) (h : l.length < i) : atI (l ++ [x]) i = zIT ∧ atI l i = zIT := by
  unfold atI
  constructor
  · simp only [List.getD]; rw [List.getElem?_eq_none (by simp; omega)]; rfl
  · simp only [List.getD]; rw [List.getElem?_eq_none (by omega)]; rfl
theorem atI_ne (l : List IT) (x : IT) (i : Nat) (h : i ≠ l.length) : atI (l ++ [x]) i = atI l i := by
  rcases Nat.lt_or_ge i l.length with h' | h'
  · exact atI_lt l x i h'
  · have := atI_gt l x i (by omega)
    rw [this.1, this.2]
theorem atI_at (l : List IT) (x : IT) (i : Nat) (h : l.length = i) : atI (l ++ [x]) i = x := by rw [← h]; exact atI_eq l x
theorem mtV_lt (s : ByteArray) : mtV s < 18446744073709551616 := by
  unfold mtV
  split
  · next h =>
    have h8 : s.data.toList.length = 8 := by rw [Array.length_toList]; exact h
    have := takeV_lt s.data.toList
    rw [h8] at this
    simpa using this
  · omega
theorem whV_bd (L : Bool) (s : ByteArray) : 0 ≤ whV L s ∧ whV L s ≤ 9223372036854775807 := by
  unfold whV
  split
  · next h =>
    unfold whOk at h
    simp at h
    have := (bl_iff (tkV s) 63).1 (by omega)
    have : tkV s < 9223372036854775808 := by simpa using this
    omega
  · omega
theorem rdT_w (l : List IT) (h : ∀ y ∈ (atI l 8).items, y.text.size ≤ maxLen) : TXw (rdT l) := by
  have b0 := whV_bd (atI l 0).list (atI l 0).text
  have b1 := whV_bd (atI l 1).list (atI l 1).text
  have b6 := whV_bd (atI l 6).list (atI l 6).text
  refine ⟨tkV_lt _, tkV_lt _, tkV_lt _, tkV_lt _, ⟨by show _ ≤ whV _ _; omega, b0.2⟩, ⟨by show _ ≤ whV _ _; omega, b1.2⟩, ⟨by show _ ≤ whV _ _; omega, b6.2⟩, fun x hx => ?_, fun x hx => ?_⟩
  · obtain ⟨y, _, rfl⟩ := List.mem_map.1 hx
    exact mtV_lt _
  · obtain ⟨y, hy, rfl⟩ := List.mem_map.1 hx
    exact h y hy
end Go.Proofs.Ytapjonmgjccpbaa
end
section
set_option linter.unusedSimpArgs false
set_option linter.unusedVariables false
set_option maxRecDepth 100000
namespace Go.Proofs.Ytapjonmgjccpbaa
open Go.RowKit Go.Shelf
attribute [local go_sem] Oper.semAt_some

/-! What item.Each tells, as a sequence, to a caller that keeps the items' own blocks. -/
def KpR (B N : Nat) (A C : World) : Prop := ∀ b vs t, B ≤ b → b < N → Bk A b vs t → Bk C b vs t
theorem KpR.trans {B N : Nat} (A C D : World) (h : KpR B N A C) (k : KpR B N C D) : KpR B N A D := fun b vs t h0 h1 h2 => k b vs t h0 h1 (h b vs t h0 h1 h2)
theorem RdP.kpr {N B : Nat} {A C : World} (hB : 0 < B) (hk : KpR B N A C) : ∀ {n : Nat} {xs : List IT} {v : Value}, RdP A (fun b => B ≤ b ∧ b < N) n xs v → RdP C (fun b => B ≤ b ∧ b < N) n xs v
  | 0, _, _, h => h
  | n + 1, xs, v, h => by
    obtain ⟨hl, ad, cap, hv, h⟩ := h
    refine ⟨hl, ad, cap, hv, fun i hi => ?_⟩
    obtain ⟨b, off, ha, hP, a, l, c, h0, h1, h2, h3⟩ := h i hi
    obtain ⟨vs, t, hb⟩ : ∃ vs t, A.heap[b]? = some (.cells vs t) := by
      rcases hP.2 with h | h
      · exact absurd h.1 (by omega)
      · exact h
    have hP1 := hP.1
    have hc : C.heap[b]? = some (.cells vs t) := hk b vs t hP1.1 hP1.2 hb
    have e : C.heap[b]? = A.heap[b]? := hc.trans hb.symm
    exact ⟨b, off, ha, ⟨hP1, .inr ⟨vs, t, hc⟩⟩, a, l, c, (World.cell?_of_block e).trans h0, (World.cell?_of_block e).trans h1, (World.cell?_of_block e).trans h2, RdP.kpr hB hk h3⟩
set_option maxHeartbeats 2000000 in
theorem each1_seqR (m n : Nat) (ys : List IT) (Bi B N : Nat) (ad : Option Addr) (c : Nat) (hm : 1 ≤ m) (w : World) (bI : Bk w Bi #[.slice ad ys.length c] 68) (hr : RdP w (fun b => B ≤ b ∧ b < N) (n + 1) ys (.slice ad ys.length c))
    (hB : 0 < B) (hw : IT.wts ys ≤ 1048576) :
    SeqA Fence.wide m Try.prog 96 #[.pointer (some ⟨Bi, 0, none⟩)] xenc (KpR B N) (xgd n ys) (XS ys) (XP ys) w := by
  intro l J Jx W hbW hJ hJx hY h0
  have bI := bI.below hbW bI.lt
  have hr : RdP W (fun b => B ≤ b ∧ b < N) (n + 1) ys (.slice ad ys.length c) := hr.keep fun b _ hl => hbW.block b hl
  have hll := len_wts ys
  have HY : Hid (∀ pre x A0 A, J pre A0 → Below A0.heap.size A0 A → xgd n ys A0.heap.size pre x A → YieldAt Fence.wide (m - 1) Try.prog l (xenc x) A fun e C => (e = .returned (.bool true) ∧ J (pre ++ [x]) C ∧ KpR B N A C) ∨ (e = .returned (.bool false) ∧ Jx (pre ++ [x]) C)) := hY
  have HJ : Hid (∀ s A B, J s A → Below A.heap.size A B → J s B) := hJ
  have HCd : Hid (CdS n) := copied_of n (copies_all n)
  have HWt : Hid (IT.wts ys ≤ 1048576) := hw
  have H0 : Hid (RdP W (fun b => B ≤ b ∧ b < N) (n + 1) ys (.slice ad ys.length c)) := hr
  clear hY hJ hJx hbW hr
  show CallsIn Fence.wide m Try.prog 96 #[.func (.yield l) #[] #[], .pointer (some ⟨Bi, 0, none⟩)] W _
  refine callsIn_of_wp Try.func96 rfl trivial ?_ rfl
  simp only [Try.ntmps96, List.size_toArray, List.length_cons, List.length_nil, Nat.reduceAdd, Nat.reduceSub, Array.replicate_succ, Array.replicate_zero, List.push_toArray, List.append_toArray, List.nil_append, List.cons_append]
  have t0 := bI.cell 0
  simp only [List.getElem?_toArray, List.getElem?_cons_zero] at t0
  gi_wp2
  gi_loopw [7] (fun i wr => ∃ (k : Nat) (zs : List EX), k ≤ ys.length ∧ i = .int .i64 (k : Int) ∧ Hid (zs.length = k ∧ zs.map EX.it = ys.take k ∧ RdP wr (fun b => B ≤ b ∧ b < N) (n + 1) ys (.slice ad ys.length c)) ∧ J zs wr) (fun i _ => ys.length - (intOf i).toNat)
  case atStart => exact ⟨0, [], by omega, rfl, ⟨rfl, by simp, H0.out⟩, h0⟩
  case round =>
    clear bI t0 h0
    obtain ⟨k, zs, hk, rfl, hzs, hJk⟩ := hrel
    clear H0
    by_cases hlt : k < ys.length
    · have hlt' : (k : Int) < (ys.length : Int) := by omega
      obtain ⟨n', hn', _, _, e2, -, hat⟩ := hzs.out.2.2.at
      obtain rfl : n = n' := by omega
      injection e2 with e2 e3 e4
      subst e2 e4
      obtain ⟨b, off, rfl, hbP, s0, s1, s2, c0, c1, c2, hrd⟩ := hat k hlt
      have hwk := wts_mem hlt
      have lb := cell_lt' c0
      have HNx : Hid (∀ (A : World) (ad' : Option Addr) (l' c' : Nat), Below wr.heap.size wr A → RdP A (wr.heap.size ≤ ·) n ys[k].items (.slice ad' l' c') → xgd n ys wr.heap.size zs ⟨ys[k], ad', l', c'⟩ A ∧ RdP A (fun b => B ≤ b ∧ b < N) (n + 1) ys (.slice (some ⟨b, off, none⟩) ys.length c)) := fun A ad' l' c' hA hrA => by
        refine ⟨⟨hrA, by rw [hzs.out.1]; exact hlt, ?_⟩, hzs.out.2.2.keep fun b _ hl => hA.block b hl⟩
        rw [List.map_append, hzs.out.2.1, hzs.out.1, List.take_succ_eq_append_getElem hlt]
        rfl
      have HC : Hid (∀ W, Below wr.heap.size wr W → Calls Try.prog 97 #[.agg #[.bool ys[k].list, .string ys[k].text, .slice s0 s1 s2]] W fun e w' => (∃ ad' l' c', e = .returned (.agg #[.bool ys[k].list, .string ys[k].text, .slice ad' l' c']) ∧ RdP w' (W.heap.size ≤ ·) n ys[k].items (.slice ad' l' c')) ∧ Below W.heap.size W w') := fun W hW => HCd.out ys[k] s0 s1 s2 W (hrd.rd.below hW) (by have := HWt.out; omega)
      have HL : Hid (zs.length = k ∧ ∀ x : EX, x.it = ys[k] → (zs ++ [x]).map EX.it = ys.take (k + 1)) := ⟨hzs.out.1, fun x hx => by rw [List.map_append, hzs.out.2.1, List.take_succ_eq_append_getElem hlt, ← hx]; rfl⟩
      generalize ys[k] = yk at *
      clear hrd hat hwk hn' hbP
      gi_wp2_with (refine ⟨trivial, ?_⟩; gi_at_call 97; refine (callsIn_wide.2 (HC.out _ ((Below.refl _ wr).alloc (Nat.le_refl _) _))).mono ?_; rintro e w2 ⟨⟨ad', l', c', rfl, hrd2⟩, hb2⟩)
      have hb0 : Below wr.heap.size wr (wr.alloc (.cells #[.bool yk.list, .string yk.text, .slice s0 s1 s2] 70)) := (Below.refl _ wr).alloc (Nat.le_refl _) _
      have hb2' : Below wr.heap.size wr w2 := hb0.trans (hb2.mono hb0.size)
      have hrd3 : RdP w2 (wr.heap.size ≤ ·) n yk.items (.slice ad' l' c') := hrd2.weak fun q hq => Nat.le_trans hb0.size hq
      obtain ⟨hgd, hrA⟩ := HNx.out w2 ad' l' c' hb2' hrd3
      have HRA : Hid (RdP w2 (fun b => B ≤ b ∧ b < N) (n + 1) ys (.slice (some ⟨b, off, none⟩) ys.length c)) := hrA
      obtain ⟨fn, tmps, assign, body, hy, hR⟩ := HY.out zs ⟨yk, ad', l', c'⟩ wr w2 hJk hb2' hgd
      simp only [xenc] at hy
      clear hrd2 hb2 hb2' hb0 hrd3 hgd hrA HC HNx c0 c1 c2
      rw [hy]
      gi_wp2
      refine hR.mono ?_
      rintro e W3 (⟨rfl, hJ3, hk3⟩ | ⟨rfl, hJx3⟩)
      · gi_wp2
        go_roundw
        case rel => exact ⟨k + 1, zs ++ [⟨yk, ad', l', c'⟩], by omega, by go_num, ⟨by rw [List.length_append, HL.out.1]; rfl, HL.out.2 _ rfl, HRA.out.kpr hB hk3⟩, hJ3⟩
        case measure => simp [intOf]; omega
      · gi_wp2
        refine bodyPost_ret (results_none rfl _ _ _) rfl ?_
        refine ⟨⟨_, rfl⟩, .inr ⟨_, ⟨?_, ?_⟩, hJx3⟩⟩
        · rw [List.length_append, HL.out.1]; show k + 1 ≤ _; omega
        · have hl : (zs ++ [(⟨yk, ad', l', c'⟩ : EX)]).length = k + 1 := by rw [List.length_append, HL.out.1]; rfl
          rw [hl]; exact HL.out.2 _ rfl
    · have hlt' : ¬ (k : Int) < (ys.length : Int) := by omega
      obtain rfl : k = ys.length := by omega
      gi_wp2
      go_end0
      refine ⟨⟨_, rfl⟩, .inl ⟨zs, ?_, hJk⟩⟩
      have := hzs.out.2.1
      rw [List.take_length] at this
      exact this
end Go.Proofs.Ytapjonmgjccpbaa
end
section
set_option linter.unusedSimpArgs false
set_option linter.unusedVariables false
namespace Go.Proofs.Ytapjonmgjccpbaa
open Go.RowKit Go.Shelf

/-! What the rounds of tx.read keep. -/
theorem rdT_0 (l : List IT) (x : IT) (h : l.length = 0) : rdT (l ++ [x]) = { rdT l with fr := whV x.list x.text } := by
  simp only [rdT, atI_at l x 0 h, atI_ne l x 1 (by omega), atI_ne l x 2 (by omega), atI_ne l x 3 (by omega), atI_ne l x 4 (by omega), atI_ne l x 5 (by omega), atI_ne l x 6 (by omega), atI_ne l x 7 (by omega), atI_ne l x 8 (by omega)]
theorem rdT_1 (l : List IT) (x : IT) (h : l.length = 1) : rdT (l ++ [x]) = { rdT l with no := whV x.list x.text } := by
  simp only [rdT, atI_at l x 1 h, atI_ne l x 0 (by omega), atI_ne l x 2 (by omega), atI_ne l x 3 (by omega), atI_ne l x 4 (by omega), atI_ne l x 5 (by omega), atI_ne l x 6 (by omega), atI_ne l x 7 (by omega), atI_ne l x 8 (by omega)]
theorem rdT_2 (l : List IT) (x : IT) (h : l.length = 2) : rdT (l ++ [x]) = { rdT l with ti := tkV x.text } := by
  simp only [rdT, atI_at l x 2 h, atI_ne l x 0 (by omega), atI_ne l x 1 (by omega), atI_ne l x 3 (by omega), atI_ne l x 4 (by omega), atI_ne l x 5 (by omega), atI_ne l x 6 (by omega), atI_ne l x 7 (by omega), atI_ne l x 8 (by omega)]
theorem rdT_3 (l : List IT) (x : IT) (h : l.length = 3) : rdT (l ++ [x]) = { rdT l with ca := tkV x.text } := by
  simp only [rdT, atI_at l x 3 h, atI_ne l x 0 (by omega), atI_ne l x 1 (by omega), atI_ne l x 2 (by omega), atI_ne l x 4 (by omega), atI_ne l x 5 (by omega), atI_ne l x 6 (by omega), atI_ne l x 7 (by omega), atI_ne l x 8 (by omega)]
theorem rdT_4 (l : List IT) (x : IT) (h : l.length = 4) : rdT (l ++ [x]) = { rdT l with bc := tkV x.text } := by
  simp only [rdT, atI_at l x 4 h, atI_ne l x 0 (by omega), atI_ne l x 1 (by omega), atI_ne l x 2 (by omega), atI_ne l x 3 (by omega), atI_ne l x 5 (by omega), atI_ne l x 6 (by omega), atI_ne l x 7 (by omega), atI_ne l x 8 (by omega)]
theorem rdT_5 (l : List IT) (x : IT) (h : l.length = 5) : rdT (l ++ [x]) = { rdT l with va := tkV x.text } := by
  simp only [rdT, atI_at l x 5 h, atI_ne l x 0 (by omega), atI_ne l x 1 (by omega), atI_ne l x 2 (by omega), atI_ne l x 3 (by omega), atI_ne l x 4 (by omega), atI_ne l x 6 (by omega), atI_ne l x 7 (by omega), atI_ne l x 8 (by omega)]
theorem rdT_6 (l : List IT) (x : IT) (h : l.length = 6) : rdT (l ++ [x]) = { rdT l with ga := whV x.list x.text } := by
  simp only [rdT, atI_at l x 6 h, atI_ne l x 0 (by omega), atI_ne l x 1 (by omega), atI_ne l x 2 (by omega), atI_ne l x 3 (by omega), atI_ne l x 4 (by omega), atI_ne l x 5 (by omega), atI_ne l x 7 (by omega), atI_ne l x 8 (by omega)]
theorem rdT_7 (l : List IT) (x : IT) (h : l.length = 7) : rdT (l ++ [x]) = { rdT l with hs := x.items.map (fun y => mtV y.text) } := by
  simp only [rdT, atI_at l x 7 h, atI_ne l x 0 (by omega), atI_ne l x 1 (by omega), atI_ne l x 2 (by omega), atI_ne l x 3 (by omega), atI_ne l x 4 (by omega), atI_ne l x 5 (by omega), atI_ne l x 6 (by omega), atI_ne l x 8 (by omega)]
theorem rdT_8 (l : List IT) (x : IT) (h : l.length = 8) : rdT (l ++ [x]) = { rdT l with bs := x.items.map (fun y => y.text) } := by
  simp only [rdT, atI_at l x 8 h, atI_ne l x 0 (by omega), atI_ne l x 1 (by omega), atI_ne l x 2 (by omega), atI_ne l x 3 (by omega), atI_ne l x 4 (by omega), atI_ne l x 5 (by omega), atI_ne l x 6 (by omega), atI_ne l x 7 (by omega)]
theorem Or.block {α : Type} {e : TypeId} {c : α → Value} {w W : World} {base : Nat} {v : Value} {l : List α} (h : Or e c w base v l) (hk : ∀ q, v.ownBlock = some q → W.heap[q]? = w.heap[q]?) : Or e c W base v l := by
  refine ⟨h.1, ?_⟩
  rcases h.2 with h2 | ⟨g, cap, cur, rfl, h3, h4, h5⟩
  · exact .inl h2
  · exact .inr ⟨g, cap, cur, rfl, h3, (hk g rfl).trans h4, h5⟩
structure RI (w W : World) (X N : Nat) (L : Bool) (pre : List EX) : Prop where
  bT : ∃ u v, Bk W (X + 1) (txc (rdT (pre.map EX.it)) u v) 30 ∧ Or 24 cU W N u (rdT (pre.map EX.it)).hs ∧ Or 9 cS W N v (rdT (pre.map EX.it)).bs
  bO : Bk W (X + 1 + 1) #[.bool L] 4
  bK : Bk W (X + 1 + 1 + 1) #[.int .i64 (pre.length : Int)] 3
  le : pre.length ≤ 9
  gd : ∀ i, i < pre.length → gdA i (atI (pre.map EX.it) i) = true
  bel : Below w.heap.size w W
  sz : N ≤ W.heap.size
structure RX (w W : World) (X N : Nat) (pre : List EX) : Prop where
  bT : ∃ t a b c d e f, Bk W (X + 1) (txc t (.slice a b c) (.slice d e f)) 30
  bOK : ∃ (b : Bool) (k : Nat), Bk W (X + 1 + 1) #[.bool b] 4 ∧ Bk W (X + 1 + 1 + 1) #[.int .i64 (k : Int)] 3 ∧ (b = false ∨ k = 10)
  no : (∃ i, i < pre.length ∧ i < 9 ∧ gdA i (atI (pre.map EX.it) i) = false) ∨ 9 < pre.length
  bel : Below w.heap.size w W
theorem RI.below {w A B : World} {X N : Nat} {L : Bool} {pre : List EX} (h : RI w A X N L pre) (hb : Below A.heap.size A B) : RI w B X N L pre := by
  obtain ⟨⟨u, v, h1, h2, h3⟩, h4, h5, h6, h7, h8, h9⟩ := h
  exact ⟨⟨u, v, h1.below hb h1.lt, h2.below' hb, h3.below' hb⟩, h4.below hb h4.lt, h5.below hb h5.lt, h6, h7, h8.trans (hb.mono h8.size), Nat.le_trans h9 hb.size⟩
theorem RX.below {w A B : World} {X N : Nat} {pre : List EX} (h : RX w A X N pre) (hb : Below A.heap.size A B) : RX w B X N pre := by
  obtain ⟨⟨t, a, b, c, d, e, f, h1⟩, ⟨bb, k, h2, h3, h4⟩, h5, h6⟩ := h
  exact ⟨⟨t, a, b, c, d, e, f, h1.below hb h1.lt⟩, ⟨bb, k, h2.below hb h2.lt, h3.below hb h3.lt, h4⟩, h5, h6.trans (hb.mono h6.size)⟩
theorem or_put {α : Type} {e : TypeId} {c : α → Value} {A : World} {N l : Nat} {v : Value} {xs : List α} {o o' : Obj} (h2 : Or e c A N v xs) (h : A.heap[l]? = some o) (hc : o.isCells = false) : Or e c (A.putObj l o') N v xs := by
  refine ⟨h2.1, ?_⟩
  rcases h2.2 with q | ⟨g, cap, cur, rfl, q3, q4, q5⟩
  · exact .inl q
  · exact .inr ⟨g, cap, cur, rfl, q3, bk_put q4 h hc, q5⟩
theorem RI.put {w A : World} {X N l : Nat} {L : Bool} {pre : List EX} {o o' : Obj} (hi : RI w A X N L pre) (hl : w.heap.size ≤ l) (h : A.heap[l]? = some o) (hc : o.isCells = false) : RI w (A.putObj l o') X N L pre := by
  obtain ⟨⟨u, v, h1, h2, h3⟩, h4, h5, h6, h7, h8, h9⟩ := hi
  exact ⟨⟨u, v, bk_put h1 h hc, or_put h2 h hc, or_put h3 h hc⟩, bk_put h4 h hc, bk_put h5 h hc, h6, h7, h8.trans (below_put _ _ hl), by simpa [World.putObj] using h9⟩
theorem RX.put {w A : World} {X N l : Nat} {pre : List EX} {o o' : Obj} (hi : RX w A X N pre) (hl : w.heap.size ≤ l) (h : A.heap[l]? = some o) (hc : o.isCells = false) : RX w (A.putObj l o') X N pre := by
  obtain ⟨⟨t, a, b, c, d, e, f, h1⟩, ⟨bb, k, h2, h3, h4⟩, h5, h6⟩ := hi
  exact ⟨⟨t, a, b, c, d, e, f, bk_put h1 h hc⟩, ⟨bb, k, bk_put h2 h hc, bk_put h3 h hc, h4⟩, h5, h6.trans (below_put _ _ hl)⟩
/-- A round that wrote the three variables alone. -/
theorem rd_keep {W w2 W' : World} {X N : Nat} {v1 v2 v3 : Array Value} {t1 t2 t3 : TypeId} (hb2 : Below W.heap.size W w2) (hW : ∀ b, b ≠ X + 1 → b ≠ X + 1 + 1 → b ≠ X + 1 + 1 + 1 → W'.heap[b]? = w2.heap[b]?) (hz : W'.heap.size = w2.heap.size)
    (b1 : Bk W (X + 1) v1 t1) (b2 : Bk W (X + 1 + 1) v2 t2) (b3 : Bk W (X + 1 + 1 + 1) v3 t3) : (∀ N', KeepsFrom N' W W') ∧ KpR (X + 4 + 2) N W W' := by
  refine ⟨fun N' => ⟨by rw [hz]; exact hb2.size, fun k ob _ hk hnc => ?_⟩, fun b vs t h0 _ h => ?_⟩
  · have hkl : k < W.heap.size := (Array.getElem?_eq_some_iff.1 hk).1
    have ne : ∀ j vs t, Bk W j vs t → k ≠ j := fun j vs t hj e => by
      subst e
      rw [show W.heap[k]? = _ from hj] at hk
      simp at hk; subst hk; simp [Obj.isCells] at hnc
    exact (hW k (ne _ _ _ b1) (ne _ _ _ b2) (ne _ _ _ b3)).trans ((hb2.block k hkl).trans hk)
  · exact (hW b (by omega) (by omega) (by omega)).trans (h.below hb2 h.lt)
theorem ri_next {w W w2 W' : World} {X N k : Nat} {L : Bool} {pre : List EX} {x : EX} {t' : TX} {u' v' : Value} (hi : RI w W X N L pre) (hk : pre.length = k) (h8 : k ≤ 8) (hL : L = true) (ht : rdT (pre.map EX.it ++ [x.it]) = t') (hg : gdA k x.it = true) (hb2 : Below W.heap.size W w2)
    (hW : ∀ b, b ≠ X + 1 → b ≠ X + 1 + 1 → b ≠ X + 1 + 1 + 1 → W'.heap[b]? = w2.heap[b]?) (hz : W'.heap.size = w2.heap.size) (bT : Bk W' (X + 1) (txc t' u' v') 30) (bO : Bk W' (X + 1 + 1) #[.bool true] 4) (bK : Bk W' (X + 1 + 1 + 1) #[.int .i64 ((k + 1 : Nat) : Int)] 3)
    (ou : Or 24 cU W' N u' t'.hs) (ov : Or 9 cS W' N v' t'.bs) (bel : Below w.heap.size w W') : (∀ N', KeepsFrom N' W W') ∧ KpR (X + 4 + 2) N W W' ∧ RI w W' X N L (pre ++ [x]) := by
  obtain ⟨u, v, h1, -, -⟩ := hi.bT
  obtain ⟨q1, q2⟩ := rd_keep (N := N) hb2 hW hz h1 hi.bO hi.bK
  have hm : (pre ++ [x]).map EX.it = pre.map EX.it ++ [x.it] := by simp
  have hl : (pre.map EX.it).length = k := by simpa using hk
  refine ⟨q1, q2, ⟨⟨u', v', by rw [hm, ht]; exact bT, by rw [hm, ht]; exact ou, by rw [hm, ht]; exact ov⟩, by rw [hL]; exact bO, by rw [List.length_append, hk]; exact bK, by rw [List.length_append, hk]; show k + 1 ≤ 9; omega, fun i hi' => ?_, bel, by rw [hz]; exact Nat.le_trans hi.sz hb2.size⟩⟩
  rw [hm]
  rw [List.length_append, hk] at hi'
  have hi'' : i < k + 1 := hi'
  by_cases e : i = k
  · subst e
    rw [atI_at _ _ _ hl]
    exact hg
  · rw [atI_ne _ _ _ (by omega)]
    exact hi.gd i (by omega)
theorem rx_bad {w W w2 W' : World} {X N k : Nat} {L b : Bool} {pre : List EX} {x : EX} {t' : TX} {a1 a2 : Option Addr} {l1 c1 l2 c2 : Nat} (hi : RI w W X N L pre) (hk : pre.length = k) (hno : (k ≤ 8 ∧ gdA k x.it = false ∧ b = false) ∨ k = 9) (hb2 : Below W.heap.size W w2)
    (hW : ∀ b, b ≠ X + 1 → b ≠ X + 1 + 1 → b ≠ X + 1 + 1 + 1 → W'.heap[b]? = w2.heap[b]?) (hz : W'.heap.size = w2.heap.size) (bT : Bk W' (X + 1) (txc t' (.slice a1 l1 c1) (.slice a2 l2 c2)) 30) (bO : Bk W' (X + 1 + 1) #[.bool b] 4) (bK : Bk W' (X + 1 + 1 + 1) #[.int .i64 ((k + 1 : Nat) : Int)] 3)
    (bel : Below w.heap.size w W') : (∀ N', KeepsFrom N' W W') ∧ RX w W' X N (pre ++ [x]) := by
  obtain ⟨u, v, h1, -, -⟩ := hi.bT
  obtain ⟨q1, q2⟩ := rd_keep (N := N) hb2 hW hz h1 hi.bO hi.bK
  have hl : (pre.map EX.it).length = k := by simpa using hk
  refine ⟨q1, ⟨⟨t', a1, l1, c1, a2, l2, c2, bT⟩, ⟨b, k + 1, bO, bK, ?_⟩, ?_, bel⟩⟩
  · rcases hno with h | h
    · exact .inl h.2.2
    · exact .inr (by omega)
  · rcases hno with h | h
    · refine .inl ⟨k, by rw [List.length_append, hk]; show k < k + 1; omega, by omega, ?_⟩
      rw [List.map_append]
      show gdA k (atI (pre.map EX.it ++ [x.it]) k) = false
      rw [atI_at _ _ _ hl]
      exact h.2.1
    · exact .inr (by rw [List.length_append, hk]; show 9 < k + 1; omega)
end Go.Proofs.Ytapjonmgjccpbaa
end
section
set_option linter.unusedSimpArgs false
set_option linter.unusedVariables false
namespace Go.Proofs.Ytapjonmgjccpbaa
open Go.RowKit Go.Shelf
attribute [local go_sem] Oper.semAt_some

/-! What item.takeAll's rounds keep. -/
def pxs (pre : List PX) : List (IT × Value) := pre.map fun x => (x.it, .slice x.ad x.l x.c)
/-- What holds ahead of a round. -/
structure TI (w W : World) (r : Nat) (pre : List PX) : Prop where
  row : ∃ va vc, Bk W w.heap.size #[.slice va pre.length vc] 68 ∧ Bld W (w.heap.size + 4) (r + 2) (.slice va pre.length vc) (pxs pre)
  ft : Bk W (w.heap.size + 1) #[.int .i64 0] 33
  ok : ∀ x ∈ pre, x.e = 0
  bel : Below w.heap.size w W
  sz : w.heap.size + 4 ≤ W.heap.size
structure TXa (w W : World) : Prop where
  ft : Bk W (w.heap.size + 1) #[.int .i64 1] 33
  bel : Below w.heap.size w W
theorem TI.below {w A B : World} {r : Nat} {pre : List PX} (h : TI w A r pre) (hb : Below A.heap.size A B) : TI w B r pre := by
  obtain ⟨⟨va, vc, h1, h2⟩, h3, h4, h5, h6⟩ := h
  exact ⟨⟨va, vc, h1.below hb h1.lt, h2.below hb⟩, h3.below hb h3.lt, h4, h5.trans (hb.mono h5.size), Nat.le_trans h6 hb.size⟩
theorem TXa.below {w A B : World} (h : TXa w A) (hb : Below A.heap.size A B) : TXa w B := ⟨h.ft.below hb h.ft.lt, h.bel.trans (hb.mono h.bel.size)⟩
/-- What reads as items lies in blocks of cells. -/
theorem RdP.put {A : World} {P : Nat → Prop} {l : Nat} {o o' : Obj} (h : A.heap[l]? = some o) (hc : o.isCells = false) : ∀ {n : Nat} {xs : List IT} {v : Value}, RdP A P n xs v → RdP (A.putObj l o') P n xs v
  | 0, _, _, hr => hr
  | n + 1, xs, v, hr => by
    obtain ⟨hl, ad, cap, hv, hr⟩ := hr
    refine ⟨hl, ad, cap, hv, fun i hi => ?_⟩
    obtain ⟨b, off, ha, hP, a, l', c, h0, h1, h2, h3⟩ := hr i hi
    have hne : b ≠ l := by
      intro e
      subst e
      unfold World.cell? at h0
      rw [h] at h0
      cases o <;> simp_all [Obj.isCells]
    have hb : (A.putObj l o').heap[b]? = A.heap[b]? := World.putObj_heap_other hne
    exact ⟨b, off, ha, ⟨hP.1, hP.2.imp id fun ⟨vs, t, e⟩ => ⟨vs, t, hb.trans e⟩⟩, a, l', c, (World.cell?_of_block hb).trans h0, (World.cell?_of_block hb).trans h1, (World.cell?_of_block hb).trans h2, RdP.put h hc h3⟩
theorem Bld.put {A : World} {base n l : Nat} {o o' : Obj} {v : Value} {ps : List (IT × Value)} (h : A.heap[l]? = some o) (hc : o.isCells = false) (hB : Bld A base n v ps) : Bld (A.putObj l o') base n v ps := by
  refine ⟨⟨hB.row.1, ?_⟩, fun p hp => ⟨(hB.each p hp).1, (hB.each p hp).2.put h hc⟩⟩
  rcases hB.row.2 with h2 | ⟨g, cap, cur, rfl, h3, h4, h5⟩
  · exact .inl h2
  · exact .inr ⟨g, cap, cur, rfl, h3, bk_put h4 h hc, h5⟩
theorem TI.put {w A : World} {r l : Nat} {pre : List PX} {o o' : Obj} (hi : TI w A r pre) (hl : w.heap.size ≤ l) (h : A.heap[l]? = some o) (hc : o.isCells = false) : TI w (A.putObj l o') r pre := by
  obtain ⟨⟨va, vc, h1, h2⟩, h3, h4, h5, h6⟩ := hi
  exact ⟨⟨va, vc, bk_put h1 h hc, h2.put h hc⟩, bk_put h3 h hc, h4, h5.trans (below_put _ _ hl), by simpa [World.putObj] using h6⟩
theorem TXa.put {w A : World} {l : Nat} {o o' : Obj} (hi : TXa w A) (hl : w.heap.size ≤ l) (h : A.heap[l]? = some o) (hc : o.isCells = false) : TXa w (A.putObj l o') := ⟨bk_put hi.ft h hc, hi.bel.trans (below_put _ _ hl)⟩
/-- What a round is handed. -/
structure TAx (w W : World) (r : Nat) (x : PX) (X B : Nat) : Prop where
  bX : Bk W X #[.bool x.it.list, .string x.it.text, .slice x.ad x.l x.c] 70
  rd : RdP W (B ≤ ·) (r + 2) x.it.items (.slice x.ad x.l x.c)
  lo : w.heap.size + 4 ≤ B ∧ w.heap.size + 4 ≤ X
  old : ∃ va n vc, Bk W w.heap.size #[.slice va n vc] 68 ∧ n + 1 ≤ 1099511627776 ∧ ∀ k, (Value.slice va n vc).ownBlock = some k → k < B ∧ k ≠ X
theorem TAx.put {w A : World} {r X B l : Nat} {x : PX} {o o' : Obj} (hx : TAx w A r x X B) (h : A.heap[l]? = some o) (hc : o.isCells = false) : TAx w (A.putObj l o') r x X B := by
  obtain ⟨h1, h2, h3, va, n, vc, h4, h5⟩ := hx
  exact ⟨bk_put h1 h hc, h2.put h hc, h3, va, n, vc, bk_put h4 h hc, h5⟩
theorem TAx.mk' {w A0 W : World} {r : Nat} {s : ByteArray} {pre : List PX} {x : PX} (hi0 : TI w A0 r pre) (hbA : Below A0.heap.size A0 W) (hgd : pgd r s A0.heap.size pre x W) (hs : s.size ≤ 1099511627776) : TAx w (W.alloc (.cells #[.bool x.it.list, .string x.it.text, .slice x.ad x.l x.c] 70)) r x W.heap.size A0.heap.size := by
  obtain ⟨hrd, ys, z, p, e, hg, hp, -, -⟩ := hgd
  obtain ⟨⟨va, vc, h1, h2⟩, h3, h4, h5, h6⟩ := hi0
  have hzs := hbA.size
  have hys : ys.length = pre.length := by have := congrArg List.length e; simp at this; omega
  have hlen := hg.1.len (tk_prog r)
  simp only [List.length_map] at hlen
  refine ⟨Bk.new _ _ _, hrd.keep (fun b _ hl => Below.heap_alloc W _ b hl), ⟨h6, by omega⟩, va, pre.length, vc, (h1.below hbA h1.lt).alloc _, by omega, fun k hk => ?_⟩
  have := (h2.row.lt k hk).2
  exact ⟨this, by omega⟩
def TaQ (r : Nat) (s : ByteArray) (w : World) (e : Ending) (w' : World) : Prop :=
  ((∃ xs ad l c, tkAll (tk r) s = some xs ∧ e = .returned (.tuple #[.slice ad l c, .int .i64 0]) ∧ RdP w' (w.heap.size ≤ ·) (r + 3) xs (.slice ad l c)) ∨ (tkAll (tk r) s = none ∧ e = .returned (.tuple #[.slice none 0 0, .int .i64 1]))) ∧ Below w.heap.size w w'
theorem stepIn_append_src {l n' : Nat} {P : Program} {ops : Array Oper} {o : Oper} {a : Act} {w : World} {K : Act → World → Prop} {Q : Exit → Act → World → Prop} {E : Prop} (hgd : o.guard = none) (s x : Operand) (t tx : TypeId)
    (ho : o.op = .call { callee := .builtin .append, args := #[s, x], argTypes := #[t, tx] })
    (base : Nat) (e : TypeId) (i : TypeInfo) (z : Value) (size bytes : Nat) (ht : P.underlying t = some (.slice e)) (hi : P.info? e = some i) (hz : i.zero = some z)
    (hsize : i.size = size) (hby : i.bytes = bytes) (hzs : z.cells.size = size)
    (v xv : Value) (n : Nat) (xs : List Value) (m : Nat) (news : List Value) (hs : a.eval s = v) (hx : a.eval x = xv) (hown : w.ownsRow base e size v n xs) (hsrc : Src P size tx xv m news w)
    (h63 : n + m ≤ maxLen) (hbytes : (n + m) * bytes ≤ 140737488355328) (hbase : base ≤ w.heap.size) (hm : 0 < m) (N : Nat) (hN : n + m = N)
    (h : ∀ g cap w', w'.ownsRow base e size (.slice (some ⟨g, 0, none⟩) N cap) N (xs ++ news) → w.grownBy w' v.ownBlock → Sn w v (.slice (some ⟨g, 0, none⟩) N cap) → g < w'.heap.size → base ≤ g → K (a.put o.dst (.slice (some ⟨g, 0, none⟩) N cap)) w') :
    if Region.wanted o (yielded ops a.tmps) = true then Oper.wpIn (Fence.wide.inRound l) n' P o a w K Q else E := by
  subst hN
  rw [if_pos (by simp [Region.wanted, hgd])]
  obtain ⟨v', w', hr, h2, h3, h4⟩ := run_append_own_src (P := P) w base t tx o.type e i z size bytes ht hi hz hsize hby hzs v n xs hown xv m news hsrc h63 hbytes hbase
  refine ⟨fun _ _ => trivial, ?_⟩
  rw [Oper.semAt_plain (Fence.wide.inRound l) a.eval o (by rw [ho]; intro c; simp)]
  unfold execOp
  simp only [ho, resolve, invoke, builtin, Sem.run_bind, Sem.run_pure, Result.andThen_ok, List.map_toArray, List.map_cons, List.map_nil, hs, hx, hr]
  have h2' := h2
  rcases h2.2 with ⟨rfl, hz'⟩ | ⟨g, cap, cur, rfl, hg, hh, _⟩
  · omega
  · exact h g cap w' h2' h3 h4 (Array.getElem?_eq_some_iff.1 hh).1 hg
theorem set_comm (w : World) (a b : Addr) (u v : Value) (h : a.block ≠ b.block) : (w.setCell a u).setCell b v = (w.setCell b v).setCell a u := by
  unfold World.setCell
  congr 1
  apply Array.ext
  · simp
  · intro i h1 h2
    simp only [Array.getElem_modify]
    split <;> split <;> simp_all
/-- Behind a round that went on. -/
theorem ta_end {w W w4 : World} {r : Nat} {pre : List PX} {x : PX} {X B g cap : Nat} (va : Option Addr) (vc : Nat) (hV : Bk W w.heap.size #[.slice va pre.length vc] 68) (hBl : Bld W (w.heap.size + 4) (r + 2) (.slice va pre.length vc) (pxs pre)) (hi : TI w W r pre) (he : x.e = 0) (hax : TAx w W r x X B)
    (hk : ∀ k, (Value.slice va pre.length vc).ownBlock = some k → k < B ∧ k ≠ X) (o : Obj)
    (hown : w4.ownsRow (w.heap.size + 4) 70 3 (.slice (some ⟨g, 0, none⟩) (pre.length + 1) cap) (pre.length + 1) (icells (pxs pre) ++ [.bool false, .string ⟨#[]⟩, .slice none 0 0])) (hgr : (W.drew.alloc o).grownBy w4 (Value.slice va pre.length vc).ownBlock) (hsn : Sn (W.drew.alloc o) (.slice va pre.length vc) (.slice (some ⟨g, 0, none⟩) (pre.length + 1) cap)) (hg : w.heap.size + 4 ≤ g) :
    (∀ N, KeepsFrom N W ((((w4.setCell ⟨g, pre.length * 3, none⟩ (.bool x.it.list)).setCell ⟨g, pre.length * 3 + 1, none⟩ (.string x.it.text)).setCell ⟨g, pre.length * 3 + 2, none⟩ (.slice x.ad x.l x.c)).setCell ⟨w.heap.size, 0, none⟩ (.slice (some ⟨g, 0, none⟩) (pre.length + 1) cap))) ∧ KpL (w.heap.size + 4) w.heap.size (w.heap.size + 1) W ((((w4.setCell ⟨g, pre.length * 3, none⟩ (.bool x.it.list)).setCell ⟨g, pre.length * 3 + 1, none⟩ (.string x.it.text)).setCell ⟨g, pre.length * 3 + 2, none⟩ (.slice x.ad x.l x.c)).setCell ⟨w.heap.size, 0, none⟩ (.slice (some ⟨g, 0, none⟩) (pre.length + 1) cap)) ∧ TI w ((((w4.setCell ⟨g, pre.length * 3, none⟩ (.bool x.it.list)).setCell ⟨g, pre.length * 3 + 1, none⟩ (.string x.it.text)).setCell ⟨g, pre.length * 3 + 2, none⟩ (.slice x.ad x.l x.c)).setCell ⟨w.heap.size, 0, none⟩ (.slice (some ⟨g, 0, none⟩) (pre.length + 1) cap)) r (pre ++ [x]) := by
  have hpl : (pxs pre).length = pre.length := by simp [pxs]
  have hcl := icells_length (pxs pre)
  rw [hpl] at hcl
  have hsz := hi.sz
  have hz0 : (W.drew.alloc o).heap.size = W.heap.size + 1 := by simp
  -- the item laid into its place
  obtain ⟨s1, g1⟩ := World.ownsRow.stored hown (pre.length * 3) (.bool x.it.list)
  obtain ⟨s2, g2⟩ := World.ownsRow.stored s1 (pre.length * 3 + 1) (.string x.it.text)
  obtain ⟨s3, g3⟩ := World.ownsRow.stored s2 (pre.length * 3 + 2) (.slice x.ad x.l x.c)
  have hlist : ((((icells (pxs pre) ++ ([.bool false, .string ⟨#[]⟩, .slice none 0 0] : List Value)).set (pre.length * 3) (.bool x.it.list)).set (pre.length * 3 + 1) (.string x.it.text)).set (pre.length * 3 + 2) (.slice x.ad x.l x.c)) = icells (pxs pre) ++ icell (x.it, .slice x.ad x.l x.c) := by
    rw [List.set_append_right _ _ (by omega), List.set_append_right _ _ (by omega), List.set_append_right _ _ (by omega), hcl]
    simp [icell, show pre.length * 3 + 1 - pre.length * 3 = 1 by omega, show pre.length * 3 + 2 - pre.length * 3 = 2 by omega]
  rw [hlist] at s3
  have g6 : w4.grownBy (((w4.setCell ⟨g, pre.length * 3, none⟩ (.bool x.it.list)).setCell ⟨g, pre.length * 3 + 1, none⟩ (.string x.it.text)).setCell ⟨g, pre.length * 3 + 2, none⟩ (.slice x.ad x.l x.c)) (some g) := grown_trans (grown_trans g1 g2 (.inl rfl)) g3 (.inl rfl)
  generalize ((w4.setCell ⟨g, pre.length * 3, none⟩ (.bool x.it.list)).setCell ⟨g, pre.length * 3 + 1, none⟩ (.string x.it.text)).setCell ⟨g, pre.length * 3 + 2, none⟩ (.slice x.ad x.l x.c) = W6 at *
  clear s1 s2 g1 g2 g3 hlist
  have hg0 : (W.drew.alloc o).grownBy W6 (Value.slice va pre.length vc).ownBlock := grown_trans hgr g6 hsn
  have hbW : Below W.heap.size W (W.drew.alloc o) := (Below.refl _ W).drew.alloc (Nat.le_refl _) o
  have hrow : ∀ q, (Value.slice va pre.length vc).ownBlock = some q → w.heap.size + 4 ≤ q ∧ q < W.heap.size := fun q hq => hBl.row.lt q hq
  have hB6 : Bld W6 (w.heap.size + 4) (r + 2) (.slice (some ⟨g, 0, none⟩) (pre.length + 1) cap) (pxs pre ++ [(x.it, .slice x.ad x.l x.c)]) :=
    (hBl.below hbW).snoc (hax.rd.keep fun b _ hl => hbW.block b hl) ⟨_, _, _, rfl⟩ hax.lo.1 (fun q hq => (hk q hq).1) (by rw [hpl]; exact s3) hg0 hsn
  have keep6 : ∀ (b : Nat) vs t, b < w.heap.size + 4 → Bk W b vs t → Bk W6 b vs t := fun b vs t hb h => bk_grown (h.drew.alloc o) hg0 (fun q hq => by have := (hrow q hq).1; omega)
  refine ⟨fun N => ⟨?_, fun k ob _ hk' hnc => ?_⟩, fun b vs t hb h1 h2 h => (keep6 b vs t hb h).other (by simpa using h1) _, ⟨some ⟨g, 0, none⟩, cap, ?_, ?_⟩, ?_, ?_, ?_, ?_⟩
  · have := hg0.size; simp at this ⊢; omega
  · have hkl : k < W.heap.size := (Array.getElem?_eq_some_iff.1 hk').1
    have hkV : k ≠ w.heap.size := by
      intro e; subst e
      rw [show W.heap[w.heap.size]? = _ from hV] at hk'
      simp at hk'; subst hk'; simp [Obj.isCells] at hnc
    have hkr : some k ≠ (Value.slice va pre.length vc).ownBlock := by
      intro e
      rcases hBl.row.2 with ⟨h', _⟩ | ⟨g', cap', cur, h', _, hh, _⟩
      · rw [h'] at e; simp [Value.ownBlock] at e
      · rw [h'] at e; simp [Value.ownBlock] at e; subst e
        rw [hh] at hk'; simp at hk'; subst hk'; simp [Obj.isCells] at hnc
    refine (Below.heap_setCell W6 _ _ k (by simpa using hkV)).trans ((hg0.block k (by omega) hkr).trans ?_)
    exact (Below.heap_alloc W.drew o k hkl).trans hk'
  · have : (pre ++ [x]).length = pre.length + 1 := by simp
    rw [this]
    exact (keep6 _ _ _ (by omega) hV).set 0 _ rfl
  · have : (pre ++ [x]).length = pre.length + 1 := by simp
    have e : pxs (pre ++ [x]) = pxs pre ++ [(x.it, .slice x.ad x.l x.c)] := by simp [pxs]
    rw [this, e]
    refine ⟨World.ownsRow.kept hB6.row ⟨rfl, rfl, rfl, by simp, fun q _ hq => Below.heap_setCell W6 _ _ q (fun e => hq (by rw [e]))⟩ (.inr (show (some g : Option Nat) ≠ some w.heap.size by simp; omega)), fun p hp => ⟨(hB6.each p hp).1, (hB6.each p hp).2.keep fun b hb _ => Below.heap_setCell W6 _ _ b (fun e => by have := hb.1; simp at e; omega)⟩⟩
  · exact (keep6 _ _ _ (by omega) hi.ft).other (by simp) _
  · intro y hy
    rcases List.mem_append.1 hy with hy | hy
    · exact hi.ok y hy
    · simp at hy; subst hy; exact he
  · exact ((hi.bel.trans (hbW.mono hi.bel.size)).trans (grown_below hg0 (by omega) (fun q hq => by have := (hrow q hq).1; omega))).setCell (p := ⟨w.heap.size, 0, none⟩) (by simp) _
  · have := hg0.size; simp at this ⊢; omega
end Go.Proofs.Ytapjonmgjccpbaa
end
section
set_option linter.unusedSimpArgs false
set_option linter.unusedVariables false
namespace Go.Proofs.Ytapjonmgjccpbaa
open Go.RowKit

/-! A whole transaction, loaded and stored within a drawn region. -/
theorem step_load_tx {ops : Array Oper} {o : Oper} {a : Act} {w : World} {K : Act → World → Prop} {Q : Exit → Act → World → Prop} {E : Prop} (hgd : o.guard = none) (x : Operand) (ho : o.op = .load 30 x)
    {X : Nat} (hx : a.eval x = .pointer (some ⟨X, 0, none⟩)) {t : TX} {u v : Value} (h : Bk w X (txc t u v) 30) (hk : K (a.put o.dst (.agg (txc t u v))) w) :
    if Region.wanted o (yielded ops a.tmps) = true then Oper.wp Try.prog o a w K Q else E := by
  rw [if_pos (by simp [Region.wanted, hgd])]
  refine wp_load_mid 30 x ho X 0 hx (txc t u v).toList _ (fun j y hy => ?_) Try.underlying30 rfl infoT hk
  rw [Nat.zero_add, h.cell, ← Array.getElem?_toList]
  exact hy
theorem step_store_tx {ops : Array Oper} {o : Oper} {a : Act} {w : World} {K : Act → World → Prop} {Q : Exit → Act → World → Prop} {E : Prop} (hgd : o.guard = none) (x y : Operand) (ho : o.op = .store 30 x y)
    {R : Nat} (hx : a.eval x = .pointer (some ⟨R, 0, none⟩)) {t : TX} {aH aB : Option Addr} {nH cH nB cB : Nat} (hy : a.eval y = .agg (txc t (.slice aH nH cH) (.slice aB nB cB))) {old : Array Value} (h : Bk w R old 30) (hs : old.size = 21)
    (hk : ∀ W, Stored w W R (txc t (.slice aH nH cH) (.slice aB nB cB)) 30 → K (a.put o.dst undef) W) :
    if Region.wanted o (yielded ops a.tmps) = true then Oper.wp Try.prog o a w K Q else E := by
  rw [if_pos (by simp [Region.wanted, hgd])]
  refine wp_store_mid 30 x y ho R 0 (txc t (.slice aH nH cH) (.slice aB nB cB)) hx hy (by have := h.there; rw [hs] at this; exact this) infoT (txc_one ..) (hk _ ⟨?_, fun c hc => setCells_block hc _ _ _, fun B w0 hB hb => setCells_below hB _ _ _ hb, setCells_size _ _ _⟩)
  have := setCells_Bk (b := R) (t := 30) (txc t (.slice aH nH cH) (.slice aB nB cB)).toList old.toList [] w (by simpa using hs) (by simpa using h)
  simpa using this
end Go.Proofs.Ytapjonmgjccpbaa
end

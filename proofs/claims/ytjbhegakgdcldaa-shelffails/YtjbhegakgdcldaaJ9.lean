/- Texts joined: ShI ShJ ShN0 ShO. -/
import Derived.Test.YtjbhegakgdcldaaJ7
import Derived.Test.YtjbhegakgdcldaaJ2
import Derived.Test.YtjbhegakgdcldaaJ8
import Derived.Laws.StructEq
section
set_option linter.unusedSimpArgs false
set_option linter.unusedVariables false
set_option maxRecDepth 100000
namespace Go.Proofs.Ytjbhegakgdcldaa
open Go.RowKit Go.Shelf
attribute [local go_sem] Oper.semAt_some

/-! All, as a sequence; Len. -/
def RowB (W : World) (base : Nat) (v : Value) (ps : List Pl) : Prop := W.ownsRow base 94 2 v ps.length (ps.flatMap pcl)
theorem RowB.row {W : World} {base : Nat} {v : Value} {ps : List Pl} (h : RowB W base v ps) : Row W v ps := by
  refine ⟨h.1, ?_⟩
  rcases h.2 with h2 | ⟨g, cap, cur, rfl, h3, h4, h5⟩
  · exact .inl h2
  · exact .inr ⟨g, cap, cur, rfl, Nat.zero_le _, h4, h5⟩
theorem RowB.ge {W : World} {base : Nat} {v : Value} {ps : List Pl} (h : RowB W base v ps) {k : Nat} (hk : v.ownBlock = some k) : base ≤ k ∧ k < W.heap.size := World.ownsRow.lt h k hk
set_option maxHeartbeats 1000000 in
theorem clonePl (W : World) (v : Value) (ps : List Pl) (h : Row W v ps) (hl : ps.length ≤ 100000) :
    Calls Try.prog 85 #[v] W fun e w' => ∃ v', e = .returned v' ∧ RowB w' W.heap.size v' ps ∧ Below W.heap.size W w' := by
  obtain ⟨j0, hj0, hj1, hj2, hj3⟩ := info_of infoPl
  have HJ : Hid (Try.prog.info? 94 = some j0 ∧ j0.zero = some (.agg #[.int .u8 0, .string ⟨#[]⟩]) ∧ j0.size = 2 ∧ j0.bytes = 24) := ⟨hj0, hj1, hj2, hj3⟩
  clear hj0 hj1 hj2 hj3
  have HH : Hid (Row W v ps) := h
  rcases h.2 with ⟨rfl, hz⟩ | ⟨g, cap, cur, rfl, _, hh, hcc, _⟩
  · have heq := fun w => Lib.run_eql_slice_nil (P := Try.prog) w 88 94 none 0 0 0 0 Try.underlying88
    go_enter Try.func85, Try.ntmps85
    go_wp2_with fail
    go_ret
    exact ⟨_, rfl, ⟨HH.out.1, .inl ⟨rfl, hz⟩⟩, Below.refl _ _⟩
  · have heq := fun w => Lib.run_eql_slice_nil (P := Try.prog) w 88 94 (some ⟨g, 0, none⟩) ps.length cap 0 0 Try.underlying88
    have HRow : Hid ((W.alloc (.cells #[] 94)).ownsRow W.heap.size 94 2 (.slice (some ⟨W.heap.size, 0, none⟩) 0 0) 0 []) := ⟨rfl, .inr ⟨W.heap.size, 0, #[], rfl, Nat.le_refl _, Bk.new W #[] 94, Nat.le_refl _, by unfold maxLen; omega, rfl, rfl⟩⟩
    have HSrc : Hid (Src Try.prog 2 88 (.slice (some ⟨g, 0, none⟩) ps.length cap) ps.length (ps.flatMap pcl) (W.alloc (.cells #[] 94))) :=
      Src.ofSlice _ Try.underlying88 ⟨g, 0, none⟩ ps.length cap (ps.flatMap pcl) (pcl_length ps) (World.ownsRow.cells (World.ownsRow.alloc h _) (g := g) rfl) (pcl_one ps)
    clear h
    go_enter Try.func85, Try.ntmps85
    go_wp2_with (at_builtin; refine wpList_append_src rfl _ _ 88 88 rfl W.heap.size 94 j0 (.agg #[.int .u8 0, .string ⟨#[]⟩]) 2 24 Try.underlying88 HJ.out.1 HJ.out.2.1 HJ.out.2.2.1 HJ.out.2.2.2 rfl _ _ 0 [] ps.length (ps.flatMap pcl) rfl rfl HRow.out HSrc.out (by unfold maxLen; omega) (by omega) (by simp) ?_; intro v3 w3 hown3 hgr3 hsn3)
    go_ret
    rw [Nat.zero_add, List.nil_append] at hown3
    exact ⟨v3, rfl, hown3, ((Below.refl _ W).alloc (Nat.le_refl _) _).trans (grown_below hgr3 (by simp) (fun k hk => by have h1 : some W.heap.size = some k := hk; injection h1 with h1; omega))⟩
section
variable {W : World} {P : Nat → Nat} {vs : Value → Bool → Array Value} {b o d f n : Nat} {t : TypeId} {pv : Value} {ps : List Pl} {fl : Bool}
/-- What All hands back. -/
def AllQ (W : World) (ps : List Pl) (e : Ending) (w' : World) : Prop :=
  ∃ X v', e = .returned (.func (.func 86) #[] #[.pointer (some ⟨X, 0, none⟩)]) ∧ Bk w' X #[v'] 88 ∧ RowB w' W.heap.size v' ps ∧ W.heap.size ≤ X ∧ Below W.heap.size W w'
set_option maxHeartbeats 1000000 in
theorem all10 (hx : Box vs o d f n t) (h : SB W P vs b t pv ps fl) (hl : ps.length ≤ 100000) :
    Calls Try.prog 66 #[.pointer (some ⟨b, o, none⟩)] W (AllQ W ps) := by
  have HC : Hid (Calls Try.prog 85 #[pv] W fun e w' => ∃ v', e = .returned v' ∧ RowB w' W.heap.size v' ps ∧ Below W.heap.size W w') := clonePl W pv ps h.row hl
  have c3 := h.c3 hx
  have lb := h.bk.lt
  obtain ⟨ad, cap, rfl, _⟩ := h.row.shape
  clear h
  go_enter Try.func66, Try.ntmps66
  go_wp2_with (go_at_call 85; refine Calls.mono HC.out ?_; rintro e w8 ⟨v8, rfl, hr8, hb8⟩; obtain ⟨ad8, cap8, hv8, _⟩ := hr8.row.shape; subst hv8; have HR8 : Hid (RowB w8 W.heap.size (.slice ad8 ps.length cap8) ps) := hr8; have HB8 : Hid (Below W.heap.size W w8) := hb8; clear hr8 hb8)
  go_ret
  refine ⟨w8.heap.size, _, rfl, Bk.new _ _ _, World.ownsRow.alloc HR8.out _, HB8.out.size, HB8.out.alloc HB8.out.size _⟩
end
/-- What such a sequence wants kept: the box, the row. -/
def KpK (X : Nat) (g : Option Nat) (A B : World) : Prop := B.heap[X]? = A.heap[X]? ∧ ∀ k, g = some k → B.heap[k]? = A.heap[k]?
theorem KpK.trans {X : Nat} {g : Option Nat} (A B C : World) (h : KpK X g A B) (h' : KpK X g B C) : KpK X g A C := ⟨h'.1.trans h.1, fun k hk => (h'.2 k hk).trans (h.2 k hk)⟩
theorem KpK.refl (X : Nat) (g : Option Nat) (A : World) : KpK X g A A := ⟨rfl, fun _ _ => rfl⟩
abbrev Ent := Nat × ByteArray
def aenc (x : Ent) : Array Value := #[.int .i64 (x.1 : Int), .string x.2]
theorem ents_take : ∀ (ps : List Pl) (k j : Nat), j < ps.length → ents k (ps.take (j + 1)) = ents k (ps.take j) ++ (if (ps.getD j pl0).m = 0 then [] else [(k + j, (ps.getD j pl0).tx)])
  | [], k, j, h => by simp at h
  | p :: l, k, 0, h => by
    show ents k [p] = [] ++ _
    rw [List.nil_append]
    show (if p.m = 0 then ents (k + 1) [] else (k, p.tx) :: ents (k + 1) []) = if p.m = 0 then [] else [(k + 0, p.tx)]
    rfl
  | p :: l, k, j + 1, h => by
    have ih := ents_take l (k + 1) j (by simpa using h)
    have e1 : (p :: l).take (j + 1 + 1) = p :: l.take (j + 1) := rfl
    have e2 : (p :: l).take (j + 1) = p :: l.take j := rfl
    have e3 : (p :: l).getD (j + 1) pl0 = l.getD j pl0 := rfl
    rw [e1, e2, e3]
    unfold ents
    rw [ih, show k + 1 + j = k + (j + 1) by omega]
    split
    · rfl
    · rfl
theorem ents_pre : ∀ (ps : List Pl) (k j : Nat), ∃ rest, ents k ps = ents k (ps.take j) ++ rest
  | [], k, j => ⟨[], by simp [ents]⟩
  | p :: l, k, 0 => ⟨ents k (p :: l), rfl⟩
  | p :: l, k, j + 1 => by
    obtain ⟨r, hr⟩ := ents_pre l (k + 1) j
    refine ⟨r, ?_⟩
    show ents k (p :: l) = ents k (p :: l.take j) ++ r
    unfold ents
    rw [hr]
    split
    · rfl
    · rfl
def AGd (ps : List Pl) (pre : List Ent) (x : Ent) : Prop := ∃ rest, ents 0 ps = pre ++ x :: rest
set_option maxHeartbeats 4000000 in
theorem all_seq (m X : Nat) (v : Value) (ps : List Pl) (base : Nat) (hm : 1 ≤ m) (hl : ps.length ≤ 100000) (w : World) (hbx : Bk w X #[v] 88) (hrow : RowB w base v ps) :
    SeqA Fence.wide m Try.prog 86 #[.pointer (some ⟨X, 0, none⟩)] aenc (KpK X v.ownBlock) (fun _ pre x _ => AGd ps pre x) (fun xs => xs = ents 0 ps) (fun xs => ∃ pre x, xs = pre ++ [x] ∧ AGd ps pre x) w := by
  intro l J Jx W hbW hJ hJx hY h0
  have bX := hbx.below hbW hbx.lt
  have hR : RowB W base v ps := ownsRow_same hrow fun k hk => hbW.block k (hrow.ge hk).2
  have HY : Hid (∀ pre x A0 A, J pre A0 → Below A0.heap.size A0 A → AGd ps pre x → YieldAt Fence.wide (m - 1) Try.prog l (aenc x) A fun e B => (e = .returned (.bool true) ∧ J (pre ++ [x]) B ∧ KpK X v.ownBlock A B) ∨ (e = .returned (.bool false) ∧ Jx (pre ++ [x]) B)) := hY
  have HJ : Hid (∀ s A B, J s A → Below A.heap.size A B → J s B) := hJ
  obtain ⟨ad, cap, rfl, _⟩ := hR.row.shape
  have HI : Hid (Bk W X #[.slice ad ps.length cap] 88 ∧ RowB W base (.slice ad ps.length cap) ps) := ⟨bX, hR⟩
  clear hY hJ hJx hbW hbx hrow hR
  show CallsIn Fence.wide m Try.prog 86 #[.func (.yield l) #[] #[], .pointer (some ⟨X, 0, none⟩)] W _
  refine callsIn_of_wp Try.func86 rfl trivial ?_ rfl
  simp only [Try.ntmps86, List.size_toArray, List.length_cons, List.length_nil, Nat.reduceAdd, Nat.reduceSub, Array.replicate_succ, Array.replicate_zero, List.push_toArray, List.append_toArray, List.nil_append, List.cons_append]
  have x0 := bX.cell 0
  simp only [List.getElem?_toArray, List.getElem?_cons_zero] at x0
  clear bX
  gi_wp2
  refine wpIn_wide.2 (wp_scope_straight ((wpIn_wide (n := m)).1 ?_))
  refine wpIn_seq (wpIn_label ?_)
  gi_wp2
  gi_loopw [7] (fun i wr => ∃ k : Nat, k ≤ ps.length ∧ i = .int .i64 (k : Int) ∧ Hid (Bk wr X #[.slice ad ps.length cap] 88 ∧ RowB wr base (.slice ad ps.length cap) ps) ∧ J (ents 0 (ps.take k)) wr) (fun i _ => ps.length - (intOf i).toNat)
  case atStart => exact ⟨0, by omega, rfl, HI, h0⟩
  case round =>
    clear x0 h0 HI
    obtain ⟨k, hk, rfl, HI, hJk⟩ := hrel
    by_cases hlt : k < ps.length
    · have hlt' : (k : Int) < (ps.length : Int) := by omega
      obtain ⟨g, cap', e, _, hg, k0, k1, kf⟩ := HI.out.2.row.at k hlt
      simp at e
      obtain ⟨rfl, rfl⟩ := e
      have HT : Hid (ents 0 (ps.take (k + 1)) = ents 0 (ps.take k) ++ (if (ps.getD k pl0).m = 0 then [] else [(0 + k, (ps.getD k pl0).tx)])) := ents_take ps 0 k hlt
      have HP : Hid ((ps.getD k pl0).m ≠ 0 → AGd ps (ents 0 (ps.take k)) (k, (ps.getD k pl0).tx)) := fun hm0 => by
        obtain ⟨r, hr⟩ := ents_pre ps 0 (k + 1)
        refine ⟨r, ?_⟩
        rw [hr, HT.out, if_neg hm0, Nat.zero_add, List.append_assoc]
        rfl
      have HB1 : Hid (∀ u v, Below wr.heap.size wr (wr.alloc (.cells #[u, v] 94))) := fun u v => (Below.refl _ wr).alloc (Nat.le_refl _) _
      have HI1 : Hid (∀ A, Below wr.heap.size wr A → Bk A X #[.slice (some ⟨g, 0, none⟩) ps.length cap] 88 ∧ RowB A base (.slice (some ⟨g, 0, none⟩) ps.length cap) ps) := fun A hA => ⟨HI.out.1.below hA HI.out.1.lt, ownsRow_same HI.out.2 fun q hq => hA.block q (HI.out.2.ge hq).2⟩
      have hz := @u8_eq0 (ps.getD k pl0).m
      have HZ : Hid (((ps.getD k pl0).m.toNat : Int) = 0 ↔ (ps.getD k pl0).m = 0) := hz
      clear hz
      generalize hmm : ((ps.getD k pl0).m.toNat : Int) = mv at k0 HZ
      have HMM : Hid (((ps.getD k pl0).m.toNat : Int) = mv) := hmm
      clear hmm
      by_cases hmz : mv = 0
      · subst hmz
        have HT2 : Hid (ents 0 (ps.take (k + 1)) = ents 0 (ps.take k)) := by show _ = _; rw [HT.out, if_pos (HZ.out.1 rfl), List.append_nil]
        clear HT HP
        generalize (ps.getD k pl0).tx = tx at *
        gi_wp2
        go_roundw
        case rel => exact ⟨k + 1, by omega, by go_num, HI1.out _ (HB1.out _ _), by rw [HT2.out]; exact HJ.out _ _ _ hJk (HB1.out _ _)⟩
        case measure => simp [intOf]; omega
      · have hm0 : (ps.getD k pl0).m ≠ 0 := fun h => hmz (HZ.out.2 h)
        have HT2 : Hid (ents 0 (ps.take (k + 1)) = ents 0 (ps.take k) ++ [(k, (ps.getD k pl0).tx)]) := by show _ = _; rw [HT.out, if_neg hm0, Nat.zero_add]
        have HP2 : Hid (AGd ps (ents 0 (ps.take k)) (k, (ps.getD k pl0).tx)) := HP.out hm0
        have HYk : Hid (YieldAt Fence.wide (m - 1) Try.prog l (aenc (k, (ps.getD k pl0).tx)) (wr.alloc (.cells #[.int .u8 mv, .string (ps.getD k pl0).tx] 94)) fun e B => (e = .returned (.bool true) ∧ J (ents 0 (ps.take k) ++ [(k, (ps.getD k pl0).tx)]) B ∧ KpK X (Value.slice (some ⟨g, 0, none⟩) ps.length cap).ownBlock (wr.alloc (.cells #[.int .u8 mv, .string (ps.getD k pl0).tx] 94)) B) ∨ (e = .returned (.bool false) ∧ Jx (ents 0 (ps.take k) ++ [(k, (ps.getD k pl0).tx)]) B)) := HY.out _ _ wr _ hJk (HB1.out _ _) HP2.out
        clear HT HP hm0
        generalize (ps.getD k pl0).tx = tx at *
        obtain ⟨fn, tmps, assign, body, hy, hR⟩ := HYk.out
        simp only [aenc] at hy
        have HIk : Hid (∀ B, KpK X (Value.slice (some ⟨g, 0, none⟩) ps.length cap).ownBlock (wr.alloc (.cells #[.int .u8 mv, .string tx] 94)) B → Bk B X #[.slice (some ⟨g, 0, none⟩) ps.length cap] 88 ∧ RowB B base (.slice (some ⟨g, 0, none⟩) ps.length cap) ps) := fun B hB => by
          obtain ⟨i1, i2⟩ := HI1.out _ (HB1.out (.int .u8 mv) (.string tx))
          exact ⟨hB.1.trans i1, ownsRow_same i2 fun q hq => hB.2 q hq⟩
        clear HI1 HYk
        gi_wp2
        refine hR.mono ?_
        rintro e W3 (⟨rfl, hJ3, hk3⟩ | ⟨rfl, hJx3⟩)
        · gi_wp2
          go_roundw
          case rel => exact ⟨k + 1, by omega, by go_num, HIk.out _ hk3, by rw [HT2.out]; exact hJ3⟩
          case measure => simp [intOf]; omega
        · gi_wp2
          simp only [Exit.noGoto]
          gi_wp2
          go_end0
          exact ⟨⟨_, rfl⟩, .inr ⟨_, ⟨_, _, rfl, HP2.out⟩, hJx3⟩⟩
    · have hlt' : ¬ (k : Int) < (ps.length : Int) := by omega
      obtain rfl : k = ps.length := by omega
      rw [List.take_length] at hJk
      have hJk : Hid (J (ents 0 ps) wr) := hJk
      gi_wp2
      go_end0
      exact ⟨⟨_, rfl⟩, .inl ⟨_, rfl, hJk.out⟩⟩
end Go.Proofs.Ytjbhegakgdcldaa
end
section
set_option linter.unusedSimpArgs false
set_option linter.unusedVariables false
set_option maxRecDepth 100000
namespace Go.Proofs.Ytjbhegakgdcldaa
open Go.RowKit Go.Shelf
attribute [local go_sem] Oper.semAt_some

/-! Len. -/
theorem KpK.put {X : Nat} {g : Option Nat} {B : Nat} (hX : X < B) (hg : ∀ k, g = some k → k < B) (W : World) (l : Nat) (o o' : Obj) (h : B ≤ l) (_ : W.heap[l]? = some o) (_ : o.isCells = false) : KpK X g W (W.putObj l o') :=
  ⟨World.putObj_heap_other (by omega), fun k hk => World.putObj_heap_other (by have := hg k hk; omega)⟩
structure LI10 (w : World) (X : Nat) (k : Nat) (A : World) : Prop where
  bn : Bk A X #[.int .i64 (k : Int)] 3
  bel : Below w.heap.size w A
  ge : w.heap.size ≤ X
theorem LI10.below {w A B : World} {X k : Nat} (h : LI10 w X k A) (hb : Below A.heap.size A B) : LI10 w X k B := ⟨h.bn.below hb h.bn.lt, h.bel.trans (hb.mono h.bel.size), h.ge⟩
theorem LI10.put {w A : World} {X k l : Nat} {o o' : Obj} (h : LI10 w X k A) (hl : w.heap.size ≤ l) (ho : A.heap[l]? = some o) (hc : o.isCells = false) : LI10 w X k (A.putObj l o') := by
  have hne : X ≠ l := fun e => by subst e; rw [show A.heap[X]? = _ from h.bn] at ho; simp at ho; subst ho; simp [Obj.isCells] at hc
  exact ⟨(World.putObj_heap_other hne).trans h.bn, h.bel.trans (below_put A _ hl), h.ge⟩
theorem ents_le : ∀ (k : Nat) (ps : List Pl), (ents k ps).length ≤ ps.length
  | _, [] => Nat.le_refl _
  | k, p :: l => by
    have := ents_le (k + 1) l
    unfold ents
    split <;> simp <;> omega
section
variable {W : World} {P : Nat → Nat} {vs : Value → Bool → Array Value} {b o d f n : Nat} {t : TypeId} {pv : Value} {ps : List Pl} {fl : Bool}
set_option maxHeartbeats 4000000 in
theorem len10 (hx : Box vs o d f n t) (h : SB W P vs b t pv ps fl) (hl : ps.length ≤ 100000) :
    Calls Try.prog 31 #[.pointer (some ⟨b, o, none⟩)] W fun e w' => e = .returned (.int .i64 ((ents 0 ps).length : Int)) ∧ Below W.heap.size W w' := by
  have HA : Hid (∀ A, Below W.heap.size W A → Calls Try.prog 66 #[.pointer (some ⟨b, o, none⟩)] A (AllQ A ps)) := fun A hA => all10 hx (h.same fun k hk => hA.block k (h.lt k hk)) hl
  clear h hx
  refine (callsIn_wide (n := 6)).1 ?_
  refine callsIn_of_wp_marks Try.func31 rfl trivial ?_ rfl
  simp only [Try.ntmps31, List.size_toArray, List.length_cons, List.length_nil, Nat.reduceAdd, Nat.reduceSub, Array.replicate_succ, Array.replicate_zero, List.push_toArray, List.append_toArray, List.nil_append, List.cons_append]
  have HB1 : Hid (Below W.heap.size W (W.alloc (.cells #[.int .i64 0] 3))) := (Below.refl _ W).alloc (Nat.le_refl _) _
  have HBn : Hid (Bk (W.alloc (.cells #[.int .i64 0] 3)) W.heap.size #[.int .i64 0] 3) := Bk.new _ _ _
  gi_wp2_with (refine ⟨trivial, ?_⟩; gi_at_call 66; refine (callsIn_wide.2 (HA.out _ HB1.out)).mono ?_; rintro e w9 ⟨X, v9, rfl, bX, hrow, hXge, hb9⟩)
  have HB9 : Hid (Below W.heap.size W w9) := HB1.out.trans (hb9.mono HB1.out.size)
  have h0 : LI10 W W.heap.size 0 w9 := ⟨HBn.out.below hb9 HBn.out.lt, HB9.out, Nat.le_refl _⟩
  have HW9 : Hid (W.heap.size ≤ w9.heap.size) := HB9.out.size
  have hXne : W.heap.size ≠ X := by have : (W.alloc (.cells #[.int .i64 0] 3)).heap.size ≤ X := hXge; simp at this; omega
  have hgne : ∀ k, v9.ownBlock = some k → k ≠ W.heap.size := fun k hk e => by have := (hrow.ge hk).1; simp at this; omega
  have HNe : Hid (W.heap.size ≠ X ∧ ∀ k, v9.ownBlock = some k → k ≠ W.heap.size) := ⟨hXne, hgne⟩
  have hle : (ents 0 ps).length ≤ ps.length := ents_le 0 ps
  have HLe : Hid ((ents 0 ps).length ≤ 100000) := Nat.le_trans hle hl
  refine wpIn_rangeP rfl (by omega) (gf := 86) (lb := #[.pointer (some ⟨X, 0, none⟩)]) rfl trivial (enters_of Try.func86 rfl rfl)
    (all_seq _ X v9 ps _ (by omega) hl w9 bX hrow) KpK.trans (KpK.put bX.lt (fun k hk => (hrow.ge hk).2)) (Below.refl _ _) (fun _ => rfl)
    (fun pre A => LI10 W W.heap.size pre.length A) (fun c pre A => False) (fun s A B h hb => h.below hb) (fun c s A B h hb => h) (fun s A l o o' hl h hc hi => hi.put (Nat.le_trans HW9.out hl) h hc) (fun c s A l o o' hl h hc hi => hi) h0
    (fun pre x a' A => AGd ps pre x ∧ a' = { tmps := #[.pointer (some ⟨b, o, none⟩), undef, .int .i64 0, .pointer (some ⟨W.heap.size, 0, none⟩), .pointer (some ⟨b, o, none⟩), .func (.func 86) #[] #[.pointer (some ⟨X, 0, none⟩)], .int .i64 (x.1 : Int), .string x.2, undef, undef, undef], defers := [] }) (fun pre x a' A l o o' hl h hc hx => hx) ?assign ?body ?done ?stop
  case assign =>
    intro l pre x A0 A K hi0 hbA hgd hi hK
    simp only [aenc]
    gi_wp2
    exact hK _ _ (KeepsFrom.refl _ _) (KpK.refl _ _ _) hi ⟨hgd, by simp⟩
  case body =>
    rintro l pre x a' A hi ⟨hgd, rfl⟩
    have HI : Hid (LI10 W W.heap.size pre.length A) := hi
    have hk : pre.length + 1 ≤ 100000 := by
      obtain ⟨r, hr⟩ := hgd
      have h1 := HLe.out
      rw [hr] at h1
      simp at h1; omega
    have c0 := hi.bn.cell 0
    have f0 := hi.bn.frozen 0
    have l0 := hi.bn.lt
    simp only [List.getElem?_toArray, List.getElem?_cons_zero] at c0
    have HE : Hid ((pre ++ [x]).length = pre.length + 1) := by show _ = _; simp
    clear hi hgd
    generalize pre.length = k at *
    gi_wp2
    refine ⟨(KeepsOthers.setCell _ _ _).from _, ⟨Below.heap_setCell A _ _ X (fun e => HNe.out.1 e.symm), fun q hq => Below.heap_setCell A _ _ q (HNe.out.2 q hq)⟩, ?_⟩
    show LI10 W W.heap.size (pre ++ [x]).length _
    rw [HE.out]
    exact ⟨by have := HI.out.bn.set 0 (.int .i64 ((k : Int) + 1)) rfl; simpa using this, HI.out.bel.setCell (p := ⟨W.heap.size, 0, none⟩) (Nat.le_refl _) _, Nat.le_refl _⟩
  case done =>
    rintro D xs A hD hxs hi hK
    subst hxs
    have HI : Hid (LI10 W W.heap.size (ents 0 ps).length A) := hi
    have c0 := hi.bn.cell 0
    simp only [List.getElem?_toArray, List.getElem?_cons_zero] at c0
    clear hi
    gi_wp2
    refine ⟨by simp, .inl ⟨_, _, rfl, run_takeDeferred hK, ?_⟩⟩
    refine ⟨.int .i64 ((ents 0 ps).length : Int), ?_, rfl, HI.out.bel.trans (below_put _ _ (Nat.le_trans HW9.out hD))⟩
    simp [results, Try.f31, go_sem]
  case stop =>
    rintro D c pre A hD hS hF hK
    exact hF.elim
end
end Go.Proofs.Ytjbhegakgdcldaa
end
section
set_option linter.unusedSimpArgs false
set_option linter.unusedVariables false
set_option maxRecDepth 100000
namespace Go.Proofs.Ytjbhegakgdcldaa
open Go.RowKit

/-! Blocks of a caller's own beside a shelf; the row's beginning; what settle stands on. -/
structure UB (O P : Nat → Nat) (A : World) (X : Nat) (vs : Array Value) (t : TypeId) : Prop where
  bk : Bk A X vs t
  un : O X + P X = 0
def UZ (O P : Nat → Nat) (A : World) (X : Nat) : Prop := X < A.heap.size ∧ O X + P X = 0
section
variable {w W W' A B : World} {O P O' P' : Nat → Nat} {vs : Value → Bool → Array Value} {b o d f n X : Nat} {t t' : TypeId} {ps ps' : List Pl} {fl fl' : Bool} {D D' : Ds} {pv v' : Value} {xs : Array Value}
theorem UB.call (h : UB O P A X xs t) (hf : Fp (fun k => O k + P k) A (fun k => O' k + P' k) B) : UB O' P' B X xs t := ⟨hf.bk h.bk h.un, hf.old X h.bk.lt h.un⟩
theorem UZ.call (h : UZ O P A X) (hf : Fp (fun k => O k + P k) A (fun k => O' k + P' k) B) : UZ O' P' B X := ⟨Nat.lt_of_lt_of_le h.1 hf.size, hf.old X h.1 h.2⟩
theorem UB.below (h : UB O P A X xs t) (hb : Below A.heap.size A B) : UB O P B X xs t := ⟨h.bk.below hb h.bk.lt, h.un⟩
theorem UZ.below (h : UZ O P A X) (hb : Below A.heap.size A B) : UZ O P B X := ⟨Nat.lt_of_lt_of_le h.1 hb.size, h.2⟩
theorem UB.put {l : Nat} {x x' : Obj} (h : UB O P A X xs t) (hl : A.heap[l]? = some x) (hc : x.isCells = false) : UB O P (A.putObj l x') X xs t := ⟨bk_put9 h.bk hl hc, h.un⟩
theorem UZ.put {l : Nat} {x' : Obj} (h : UZ O P A X) : UZ O P (A.putObj l x') X := ⟨by simp [World.putObj]; exact h.1, h.2⟩
theorem UB.other (h : UB O P A X xs t) {a : Addr} (hne : X ≠ a.block) (u : Value) : UB O P (A.setCell a u) X xs t := ⟨h.bk.other hne u, h.un⟩
theorem UB.set (h : UB O P A X xs t) (i : Nat) (u : Value) {ys : Array Value} (e : xs.setIfInBounds i u = ys) : UB O P (A.setCell ⟨X, i, none⟩ u) X ys t := ⟨h.bk.set i u e, h.un⟩
theorem UZ.set (h : UZ O P A X) (a : Addr) (u : Value) : UZ O P (A.setCell a u) X := ⟨by simp; exact h.1, h.2⟩
theorem Fp.store {O1 O2 : Nat → Nat} {w1 A : World} (h : Fp O1 w1 O2 A) {a : Addr} (ha : w1.heap.size ≤ a.block) (u : Value) : Fp O1 w1 O2 (A.setCell a u) :=
  ⟨h.os, h.tape, h.output, by simp; exact h.size, h.old, fun k hk ho => (Below.heap_setCell A a u k (by omega)).trans (h.keep k hk ho), fun k x h1 h2 => by
    have hk1 : k < w1.heap.size := (Array.getElem?_eq_some_iff.1 h1).1
    exact (Below.heap_setCell A a u k (by omega)).trans (h.kf k x h1 h2)⟩
theorem SH.put {l : Nat} {x x' : Obj} (h : SH w A d O P vs b t D ps fl) (hl0 : w.heap.size ≤ l) (hl : A.heap[l]? = some x) (hc : x.isCells = false) : SH w (A.putObj l x') d O P vs b t D ps fl := by
  obtain ⟨pv, hs⟩ := h.sb
  have ho : ∀ k, O k ≠ 0 → k ≠ l := fun k hk e => by
    obtain ⟨nv, sv, cv, hd⟩ := h.d1.dk
    obtain ⟨y, e1, e2⟩ := hd.cel k hk
    rw [e, hl] at e1; simp at e1; subst e1; rw [hc] at e2; cases e2
  have hp : ∀ k, P k ≠ 0 → k ≠ l := fun k hk e => by
    obtain ⟨y, e1, e2⟩ := hs.cel k hk
    rw [e, hl] at e1; simp at e1; subst e1; rw [hc] at e2; cases e2
  refine ⟨h.d1.keep (fun k hk => World.putObj_heap_other (ho k hk)) (by simp [World.putObj]) (h.d1.bel.trans (below_put A _ hl0)), ⟨pv, hs.same fun k hk => World.putObj_heap_other (hp k hk)⟩, h.lo, h.ap⟩
/-- A store into a block that is neither the disk's nor the shelf's. -/
theorem SH.store (h : SH w A d O P vs b t D ps fl) {a : Addr} (hz : O a.block + P a.block = 0) (hl0 : w.heap.size ≤ a.block) (u : Value) : SH w (A.setCell a u) d O P vs b t D ps fl := by
  obtain ⟨pv, hs⟩ := h.sb
  refine ⟨h.d1.keep (fun k hk => Below.heap_setCell A a u k (fun e => by rw [e] at hk; omega)) (by simp) (h.d1.bel.setCell hl0 u), ⟨pv, hs.same fun k hk => Below.heap_setCell A a u k (fun e => by rw [e] at hk; omega)⟩, h.lo, h.ap⟩
theorem SB.pv_cs (hx : Box vs o d f n t) (h : SB A P vs b t pv ps fl) (h' : SB B P' vs b t v' ps' fl') (hc : Cs b o A B) : v' = pv := by
  have h1 := h.c3 hx
  have h2 := h'.c3 hx
  have h3 : B.cell? ⟨b, o + 3, none⟩ = A.cell? ⟨b, o + 3, none⟩ := hc
  rw [h2, h1] at h3
  simpa using h3
/-- The row's beginning. -/
theorem Row.take {ad : Option Addr} {cap : Nat} (h : Row A (.slice ad ps.length cap) ps) (m : Nat) (hm : m ≤ ps.length) : Row A (.slice ad m cap) (ps.take m) := by
  have hl : (ps.take m).length = m := by rw [List.length_take]; omega
  unfold Row
  rw [hl]
  have hfl : (ps.take m).flatMap pcl = (ps.flatMap pcl).take (m * 2) := by
    have e : ps.flatMap pcl = (ps.take m).flatMap pcl ++ (ps.drop m).flatMap pcl := by rw [← List.flatMap_append, List.take_append_drop]
    rw [e]
    exact (List.take_left' (by rw [pcl_length, hl])).symm
  refine ⟨by rw [pcl_length, hl], ?_⟩
  rcases h.2 with ⟨e, hz⟩ | ⟨g, cap', cur, e, h0, hh, h1, h2, h3, h4⟩
  · simp at e
    obtain ⟨rfl, _, rfl⟩ := e
    exact .inl ⟨by rw [show m = 0 by omega], by omega⟩
  · simp at e
    obtain ⟨rfl, rfl⟩ := e
    refine .inr ⟨g, cap, cur, rfl, h0, hh, by omega, h2, h3, ?_⟩
    rw [hfl, ← h4, List.take_take]
    congr 1
    have : m * 2 ≤ ps.length * 2 := Nat.mul_le_mul_right 2 hm
    omega
end
/-- What may be settled: each text fits, each move is out of a slot that is there. -/
structure OkP (n : Nat) (ps : List Pl) : Prop where
  fit : ∀ i, i < ps.length → (ps.getD i pl0).tx.size + 16 ≤ n
  src : ∀ i, i < ps.length → 2 ≤ (ps.getD i pl0).m.toNat → (ps.getD i pl0).m.toNat - 2 < ps.length
theorem getD_set {ps : List Pl} {k : Nat} (h : k < ps.length) (p : Pl) (i : Nat) : (ps.set k p).getD i pl0 = if i = k then p else ps.getD i pl0 := by
  by_cases e : i = k
  · subst e; rw [if_pos rfl]; simp [List.getD, h]
  · rw [if_neg e]; simp [List.getD, List.getElem?_set, Ne.symm e]
theorem OkP.set {n : Nat} {ps : List Pl} (h : OkP n ps) {k : Nat} (hk : k < ps.length) {p : Pl} (h1 : p.tx.size + 16 ≤ n) (h2 : 2 ≤ p.m.toNat → p.m.toNat - 2 < ps.length) : OkP n (setP ps k p) := by
  have e : setP ps k p = ps.set k p := by unfold setP; rw [if_neg (by omega)]
  rw [e]
  refine ⟨fun i hi => ?_, fun i hi => ?_⟩
  · rw [getD_set hk]
    split
    · exact h1
    · exact h.fit i (by simpa using hi)
  · rw [getD_set hk, List.length_set]
    split
    · exact h2
    · exact h.src i (by simpa using hi)
theorem emR_okP {f n tg : Nat} {D : Ds} {ps : List Pl} (hn : 16 ≤ n) (h : OkP n ps) (htg : tg < ps.length) (hm : 2 ≤ (ps.getD tg pl0).m.toNat) (he : (emR f n tg D ps).e = 0) : OkP n (emR f n tg D ps).ps ∧ (emR f n tg D ps).ps.length = ps.length := by
  have hk := h.src tg htg hm
  have h16 : pl0.tx.size + 16 ≤ n := by show 0 + 16 ≤ n; omega
  unfold emR at he ⊢
  by_cases hz : (mkR f n ((ps.getD tg pl0).m.toNat - 2) pl0 D ps).e = 0
  · rw [next_ok hz] at he ⊢
    have e1 := mkR_ps hz
    have o1 : OkP n (mkR f n ((ps.getD tg pl0).m.toNat - 2) pl0 D ps).ps := by rw [e1]; exact h.set hk h16 (fun h9 => absurd h9 (by decide))
    have l1 : (mkR f n ((ps.getD tg pl0).m.toNat - 2) pl0 D ps).ps.length = ps.length := mkR_len hk
    have l2 := mkR_len (f := f) (n := n) (at_ := tg) (p := ⟨1, (ps.getD tg pl0).tx⟩) (D := (mkR f n ((ps.getD tg pl0).m.toNat - 2) pl0 D ps).D) (ps := (mkR f n ((ps.getD tg pl0).m.toNat - 2) pl0 D ps).ps) (by omega)
    refine ⟨?_, by rw [l2, l1]⟩
    rw [mkR_ps he]
    exact o1.set (by omega) (h.fit tg htg) (fun h9 => absurd h9 (by show ¬ 2 ≤ (1 : UInt8).toNat; decide))
  · rw [next_no hz] at he; exact absurd he hz
theorem AGd.facts {ps : List Pl} {pre : List Ent} {x : Ent} (h : AGd ps pre x) : pre.length ≤ x.1 ∧ x.1 < ps.length ∧ x.2 = (ps.getD x.1 pl0).tx ∧ (ps.getD x.1 pl0).m ≠ 0 := by
  have gen : ∀ (ps : List Pl) (k : Nat) (pre rest : List Ent) (x : Ent), ents k ps = pre ++ x :: rest → k + pre.length ≤ x.1 ∧ x.1 < k + ps.length ∧ x.2 = (ps.getD (x.1 - k) pl0).tx ∧ (ps.getD (x.1 - k) pl0).m ≠ 0 := by
    intro ps
    induction ps with
    | nil => intro k pre rest x e; simp [ents] at e
    | cons p l ih =>
      intro k pre rest x e
      unfold ents at e
      by_cases hz : p.m = 0
      · rw [if_pos hz] at e
        obtain ⟨h1, h2, h3, h4⟩ := ih (k + 1) pre rest x e
        have e3 : x.1 - k = (x.1 - (k + 1)) + 1 := by omega
        refine ⟨by omega, by simp; omega, ?_, ?_⟩
        · rw [e3]; exact h3
        · rw [e3]; exact h4
      · rw [if_neg hz] at e
        cases pre with
        | nil =>
          simp at e
          obtain ⟨rfl, _⟩ := e
          refine ⟨by simp, by simp, ?_, ?_⟩
          · simp
          · simp; exact hz
        | cons y pre =>
          simp at e
          obtain ⟨h1, h2, h3, h4⟩ := ih (k + 1) pre rest x e.2
          have e3 : x.1 - k = (x.1 - (k + 1)) + 1 := by omega
          refine ⟨by simp; omega, by simp; omega, ?_, ?_⟩
          · rw [e3]; exact h3
          · rw [e3]; exact h4
  obtain ⟨r, hr⟩ := h
  have := gen ps 0 pre r x hr
  simpa using this
end Go.Proofs.Ytjbhegakgdcldaa
end
section
set_option linter.unusedSimpArgs false
set_option linter.unusedVariables false
set_option maxRecDepth 100000
namespace Go.Proofs.Ytjbhegakgdcldaa
open Go.RowKit

/-! movesFit. -/
theorem eqPl (a c : Int) (s u : ByteArray) (w : World) : (Op.equalIn 10000 94 (.agg #[.int .u8 a, .string s]) (.agg #[.int .u8 c, .string u])).run Try.prog w = .ok (a == c && s.toList == u.toList) w := by
  rw [run_equalIn_struct w 9999 94 _ _ (by kernel_rfl) (by kernel_rfl)]
  have hf : (Try.prog.fieldsOf 94).toList.map (fun f => (f.type, f.offset, f.name)) = [(5, 0, "mark"), (9, 1, "text")] := by kernel_rfl
  generalize (Try.prog.fieldsOf 94).toList = l at hf ⊢
  obtain ⟨f0, f1, rfl⟩ : ∃ f0 f1, l = [f0, f1] := by
    have hl : l.length = 2 := by have := congrArg List.length hf; simpa using this
    cases l with
    | nil => simp at hl
    | cons f0 l => cases l with
      | nil => simp at hl
      | cons f1 l => cases l with
        | nil => exact ⟨f0, f1, rfl⟩
        | cons f2 l => simp at hl
  · simp only [List.map_cons, List.map_nil, List.cons.injEq, Prod.mk.injEq, and_true] at hf
    obtain ⟨⟨h1, h2, h3⟩, h4, h5, h6⟩ := hf
    have p0 : ∀ (x : Int) (r : ByteArray) w, (part f0.type #[.int .u8 x, .string r] f0.offset).run Try.prog w = .ok (.int .u8 x) w := fun x r w => by rw [h1, h2]; simp [part, isAgg, run_underlying Try.underlying5]
    have p1 : ∀ (x : Int) (r : ByteArray) w, (part f1.type #[.int .u8 x, .string r] f1.offset).run Try.prog w = .ok (.string r) w := fun x r w => by rw [h4, h5]; simp [part, isAgg, run_underlying Try.underlying9]
    have e0 : ∀ w, (Op.equalIn 9999 f0.type (.int .u8 a) (.int .u8 c)).run Try.prog w = .ok (a == c) w := fun w => by rw [h1]; exact run_equalIn_int w 9998 5 .u8 .u8 a c Try.underlying5
    have e1 : ∀ w, (Op.equalIn 9999 f1.type (.string s) (.string u)).run Try.prog w = .ok (s.toList == u.toList) w := fun w => by rw [h4]; exact run_equalIn_string w 9998 9 s u Try.underlying9
    simp only [Op.eqFields, h3, h6, ne_eq, String.reduceEq, not_false_eq_true, if_true, Sem.run_bind, p0, p1, e0, e1, Result.andThen_ok]
    cases hb : (a == c)
    · simp [p1, e1]
    · cases hb2 : (s.toList == u.toList) <;> simp [p1, e1, hb2]
theorem bytes_inj {s u : ByteArray} : (s.toList == u.toList) = decide (s = u) := by
  rw [ByteArray.toList_eq, ByteArray.toList_eq, Bool.eq_iff_iff, beq_iff_eq, decide_eq_true_iff]
  refine ⟨fun h => ?_, fun h => by rw [h]⟩
  obtain ⟨a⟩ := s
  obtain ⟨c⟩ := u
  have : a = c := Array.toList_inj.1 h
  rw [this]
theorem neqPl (p r : Pl) (w : World) : (binOp .neq 94 (.agg #[.int .u8 (p.m.toNat : Int), .string p.tx]) (.agg #[.int .u8 (r.m.toNat : Int), .string r.tx])).run Try.prog w = .ok (.bool (decide (p ≠ r))) w := by
  rw [run_neq_struct, eqPl, bytes_inj]
  have e : ((p.m.toNat : Int) == (r.m.toNat : Int)) = decide (p.m = r.m) := by
    rw [Bool.eq_iff_iff, beq_iff_eq, decide_eq_true_iff]
    exact ⟨fun h => UInt8.toNat_inj.1 (by omega), fun h => by rw [h]⟩
  rw [e]
  have e2 : (!(decide (p.m = r.m) && decide (p.tx = r.tx))) = decide (p ≠ r) := by
    rw [Bool.eq_iff_iff, Bool.not_eq_true', Bool.and_eq_false_iff, decide_eq_false_iff_not, decide_eq_false_iff_not, decide_eq_true_iff]
    constructor
    · rintro (h | h) h2
      · exact h (by rw [h2])
      · exact h (by rw [h2])
    · intro h
      by_cases h1 : p.m = r.m
      · right; intro h2; apply h; cases p; cases r; simp_all
      · exact .inl h1
  show Result.ok (Value.bool (!(decide (p.m = r.m) && decide (p.tx = r.tx)))) w = _
  rw [e2]
theorem fits_to {ps : List Pl} {j : Nat} (h : ∀ i, i < j → fitP ps i = true) (hj : j = ps.length) : fits ps = true := by
  unfold fits
  rw [List.all_eq_true]
  intro x hx
  exact h x (by rw [hj]; simpa using hx)
theorem fits_not {ps : List Pl} {j : Nat} (hj : j < ps.length) (h : fitP ps j = false) : fits ps = false := by
  unfold fits
  rw [List.all_eq_false]
  exact ⟨j, by simpa using hj, by rw [h]; simp⟩
theorem fitP_small {ps : List Pl} {j : Nat} (h : (ps.getD j pl0).m < 2) : fitP ps j = true := by unfold fitP; simp only []; rw [if_pos h]
theorem fitP_out {ps : List Pl} {j k : Nat} (h : ¬ (ps.getD j pl0).m < 2) (hk : (ps.getD j pl0).m.toNat - 2 = k) (h2 : k ≤ j ∨ ps.length ≤ k) : fitP ps j = false := by unfold fitP; simp only []; rw [if_neg h, hk, if_pos h2]
theorem fitP_in {ps : List Pl} {j k : Nat} (h : ¬ (ps.getD j pl0).m < 2) (hk : (ps.getD j pl0).m.toNat - 2 = k) (h2 : ¬ (k ≤ j ∨ ps.length ≤ k)) : fitP ps j = decide (ps.getD k pl0 = pl0 ∨ ps.getD k pl0 = ⟨1, (ps.getD j pl0).tx⟩) := by unfold fitP; simp only []; rw [if_neg h, hk, if_neg h2]
section
variable {W : World} {P : Nat → Nat} {vs : Value → Bool → Array Value} {b o d f n : Nat} {t : TypeId} {pv : Value} {ps : List Pl} {fl : Bool}
set_option maxHeartbeats 4000000 in
theorem movesFit10 (hx : Box vs o d f n t) (h : SB W P vs b t pv ps fl) (hl : ps.length ≤ 100000) :
    Calls Try.prog 75 #[.pointer (some ⟨b, o, none⟩)] W fun e w' => e = .returned (.bool (fits ps)) ∧ Below W.heap.size W w' := by
  have c3 := h.c3 hx
  have lb := h.bk.lt
  have HS : Hid (SB W P vs b t pv ps fl) := h
  have HX : Hid (Box vs o d f n t) := hx
  obtain ⟨ad, cap, rfl, hcap⟩ := h.row.shape
  clear h hx
  go_enter Try.func75, Try.ntmps75
  go_wp2_with fail
  go_loopw [12] (fun k wr => ∃ j : Nat, j ≤ ps.length ∧ k = .int .i64 (j : Int) ∧ Below W.heap.size W wr ∧ Hid (∀ i, i < j → fitP ps i = true)) (fun k _ => ps.length - (intOf k).toNat)
  case atStart => exact ⟨0, Nat.zero_le _, rfl, Below.refl _ _, fun i hi => by omega⟩
  case round =>
    clear c3 lb
    obtain ⟨j, hj, rfl, hB, HQ⟩ := hrel
    have HB : Hid (Below W.heap.size W wr) := hB
    have hS := HS.out.same (fun k hk => hB.block k (HS.out.lt k hk))
    have c3 := hS.c3 HX.out
    have lb := hS.bk.lt
    clear hB
    by_cases hlt : j < ps.length
    · obtain ⟨g, cap', e, _, hg, k0, k1, kf⟩ := hS.row.at j hlt
      simp at e
      obtain ⟨rfl, rfl⟩ := e
      have hlt' : (j : Int) < (ps.length : Int) := by omega
      have HB9 : Hid (∀ u v, Below W.heap.size W (wr.alloc (.cells #[u, v] 94))) := fun u v => HB.out.alloc HB.out.size _
      have HB10 : Hid (∀ u v x y, Below W.heap.size W ((wr.alloc (.cells #[u, v] 94)).alloc (.cells #[x, y] 94))) := fun u v x y => (HB9.out u v).alloc (by have := HB.out.size; simp; omega) _
      have hnx : fitP ps j = true → ∀ i, i < j + 1 → fitP ps i = true := fun h9 i hi => by
        by_cases e : i = j
        · rw [e]; exact h9
        · exact HQ.out i (by omega)
      have HNx : Hid (fitP ps j = true → ∀ i, i < j + 1 → fitP ps i = true) := hnx
      clear hnx
      by_cases hm2 : (ps.getD j pl0).m < 2
      · have HF : Hid (fitP ps j = true) := fitP_small hm2
        have hm3 : ((ps.getD j pl0).m.toNat : Int) < 2 := by have := UInt8.lt_iff_toNat_lt.1 hm2; have e : (2 : UInt8).toNat = 2 := rfl; omega
        clear hS hm2 kf
        generalize ((ps.getD j pl0).m.toNat : Int) = m at *
        generalize (ps.getD j pl0).tx = tx at *
        go_wp2_with fail
        go_roundw
        case rel => exact ⟨j + 1, by omega, by go_num, HB9.out _ _, HNx.out HF.out⟩
        case measure => simp [intOf]; omega
      · have hm3 : ¬ ((ps.getD j pl0).m.toNat : Int) < 2 := fun h9 => hm2 (UInt8.lt_iff_toNat_lt.2 (by have e : (2 : UInt8).toNat = 2 := rfl; omega))
        obtain ⟨k, hk⟩ : ∃ k, (ps.getD j pl0).m.toNat - 2 = k := ⟨_, rfl⟩
        have hki : ((ps.getD j pl0).m.toNat : Int) = (k : Int) + 2 := by omega
        have hk8 := (ps.getD j pl0).m.toNat_lt
        have hw1 : IntKind.i64.wrap ((k : Int) + 2) = (k : Int) + 2 := by rw [IntKind.wrap_i64]; omega
        have hw2 : IntKind.i64.wrap (k : Int) = (k : Int) := by rw [IntKind.wrap_i64]; omega
        rw [hki] at k0 hm3
        have HFo : Hid (k ≤ j ∨ ps.length ≤ k → fits ps = false) := fun h9 => fits_not hlt (fitP_out hm2 hk h9)
        have HFi : Hid (¬ (k ≤ j ∨ ps.length ≤ k) → fitP ps j = decide (ps.getD k pl0 = pl0 ∨ ps.getD k pl0 = ⟨1, (ps.getD j pl0).tx⟩)) := fitP_in hm2 hk
        by_cases h4 : k ≤ j
        · have HF : Hid (fits ps = false) := HFo.out (.inl h4)
          have h4i : (k : Int) ≤ (j : Int) := by omega
          clear hS hm2 kf hki hk hk8 HFo HFi
          generalize (ps.getD j pl0).tx = tx at *
          go_wp2_with fail
          go_ret
          refine ⟨?_, HB9.out _ _⟩
          rw [HF.out]; rfl
        · by_cases h5 : ps.length ≤ k
          · have HF : Hid (fits ps = false) := HFo.out (.inr h5)
            have h4i : ¬ (k : Int) ≤ (j : Int) := by omega
            have h5i : (ps.length : Int) ≤ (k : Int) := by omega
            clear hS hm2 kf hki hk hk8 HFo HFi
            generalize (ps.getD j pl0).tx = tx at *
            go_wp2_with fail
            go_ret
            refine ⟨?_, HB9.out _ _⟩
            rw [HF.out]; rfl
          · have hkl : k < ps.length := by omega
            obtain ⟨g2, cap2, e2, _, hg2, q0, q1, qf⟩ := hS.row.at k hkl
            simp at e2
            obtain ⟨rfl, rfl⟩ := e2
            have h4i : ¬ (k : Int) ≤ (j : Int) := by omega
            have h5i : ¬ (ps.length : Int) ≤ (k : Int) := by omega
            have h6i : (k : Int) < (ps.length : Int) := by omega
            have HF := HFi.out (by omega)
            have hn0 := neqPl (ps.getD k pl0) pl0
            have hn1 := neqPl (ps.getD k pl0) ⟨1, (ps.getD j pl0).tx⟩
            have z0 : (((pl0 : Pl).m.toNat : Nat) : Int) = 0 := rfl
            have z1 : (((⟨1, (ps.getD j pl0).tx⟩ : Pl).m.toNat : Nat) : Int) = 1 := rfl
            have z2 : (pl0 : Pl).tx = ⟨#[]⟩ := rfl
            rw [z0, z2] at hn0
            rw [z1] at hn1
            simp only [] at hn1
            by_cases c0 : ps.getD k pl0 = pl0
            · have HF2 : Hid (fitP ps j = true) := by show _ = _; rw [HF, decide_eq_true (Or.inl c0)]
              rw [decide_eq_false (by simpa using c0)] at hn0
              clear hS hm2 kf qf hki hk hk8 HFo HFi HF c0 hn1 z0 z1 z2
              generalize ((ps.getD k pl0).m.toNat : Int) = mk at *
              generalize (ps.getD k pl0).tx = txk at *
              generalize (ps.getD j pl0).tx = tx at *
              go_wp2_with fail
              go_roundw
              case rel => exact ⟨j + 1, by omega, by go_num, HB10.out _ _ _ _, HNx.out HF2.out⟩
              case measure => simp [intOf]; omega
            · rw [decide_eq_true (by simpa using c0)] at hn0
              by_cases c1 : ps.getD k pl0 = ⟨1, (ps.getD j pl0).tx⟩
              · have HF2 : Hid (fitP ps j = true) := by show _ = _; rw [HF, decide_eq_true (Or.inr c1)]
                rw [decide_eq_false (by simpa using c1)] at hn1
                clear hS hm2 kf qf hki hk hk8 HFo HFi HF c0 c1 z0 z1 z2
                generalize ((ps.getD k pl0).m.toNat : Int) = mk at *
                generalize (ps.getD k pl0).tx = txk at *
                generalize (ps.getD j pl0).tx = tx at *
                go_wp2_with fail
                go_roundw
                case rel => exact ⟨j + 1, by omega, by go_num, HB10.out _ _ _ _, HNx.out HF2.out⟩
                case measure => simp [intOf]; omega
              · have HF2 : Hid (fits ps = false) := fits_not hlt (by rw [HF, decide_eq_false (by rintro (h9 | h9); exact c0 h9; exact c1 h9)])
                rw [decide_eq_true (by simpa using c1)] at hn1
                clear hS hm2 kf qf hki hk hk8 HFo HFi HF c0 c1 z0 z1 z2
                generalize ((ps.getD k pl0).m.toNat : Int) = mk at *
                generalize (ps.getD k pl0).tx = txk at *
                generalize (ps.getD j pl0).tx = tx at *
                go_wp2_with fail
                go_ret
                refine ⟨?_, HB10.out _ _ _ _⟩
                rw [HF2.out]; rfl
    · obtain rfl : j = ps.length := by omega
      have HF : Hid (fits ps = true) := fits_to HQ.out rfl
      clear hS
      go_wp2_with fail
      go_ret
      refine ⟨?_, HB.out⟩
      rw [HF.out]; rfl
end
end Go.Proofs.Ytjbhegakgdcldaa
end

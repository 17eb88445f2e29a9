/- Texts joined: ItR Bld IHd InsM Ins. -/
import Derived.Test.YtapjonmgjccpbaaJ3
import Derived.Test.YtapjonmgjccpbaaJ0
import Derived.Test.YtapjonmgjccpbaaJ2
import Derived.Laws.CopyOwn
import Derived.Laws.Externs
import Derived.Lib.Overlaps
import Derived.KernelRfl
import Derived.Deep.RegionLaw
section
set_option linter.unusedSimpArgs false
set_option linter.unusedVariables false
namespace Go.Proofs.Ytapjonmgjccpbaa
open Go.RowKit

/-! An item's bytes, in plain lists. -/
def tb (n : Nat) : List UInt8 := (tnums n).map fun x => UInt8.ofNat x.toNat
def hd (base n : Nat) : List UInt8 := if n ≤ 55 then [UInt8.ofNat (base + n)] else UInt8.ofNat (base + 55 + tlen n) :: tb n
def bare (t : List UInt8) : Bool := t.length == 1 && (t.headD 255).toNat < 128
def traw (t : List UInt8) : List UInt8 := if bare t then t else hd 128 t.length ++ t
mutual
def IT.raw : IT → List UInt8
  | .mk l t s => if l then hd 192 (IT.raws s).length ++ IT.raws s else traw t.data.toList
def IT.raws : List IT → List UInt8
  | [] => []
  | x :: xs => x.raw ++ IT.raws xs
end
theorem raws_append (xs ys : List IT) : IT.raws (xs ++ ys) = IT.raws xs ++ IT.raws ys := by
  induction xs with
  | nil => simp [IT.raws]
  | cons x xs ih => simp only [List.cons_append, IT.raws, ih, List.append_assoc]
theorem raws_take (xs : List IT) (k : Nat) (h : k < xs.length) : IT.raws (xs.take (k + 1)) = IT.raws (xs.take k) ++ xs[k].raw := by
  rw [List.take_succ_eq_append_getElem h, raws_append]; simp [IT.raws]
theorem raws_le (xs : List IT) (k : Nat) : (IT.raws (xs.take k)).length ≤ (IT.raws xs).length := by
  conv => rhs; rw [← List.take_append_drop k xs, raws_append, List.length_append]
  omega
theorem tb_length (n : Nat) : (tb n).length = tlen n := by simp [tb, tnums_length]
theorem tlen_lt {n k : Nat} (h : n < 2 ^ (8 * k)) : tlen n ≤ k := by
  have := (bl_iff n (8 * k)).2 h
  unfold tlen; omega
theorem hd_length (base n : Nat) : (hd base n).length = if n ≤ 55 then 1 else 1 + tlen n := by
  unfold hd; split <;> simp [tb_length]; omega
theorem hd_pos (base n : Nat) : 1 ≤ (hd base n).length := by rw [hd_length]; split <;> omega
theorem hd_le (base n : Nat) (h : n < 18446744073709551616) : (hd base n).length ≤ 9 := by
  have := tlen_lt (n := n) (k := 8) (by simpa using h)
  rw [hd_length]; split <;> omega
/-- A block among these; where block 0 is none of them, a block of cells that may be written. -/
def PW (P : Nat → Prop) (w : World) (b : Nat) : Prop := P b ∧ (P 0 ∨ ∃ vs t, w.heap[b]? = some (.cells vs t))
/-- A reading whose blocks are among these. -/
def RdP (w : World) (P : Nat → Prop) : Nat → List IT → Value → Prop
  | 0, _, _ => False
  | n + 1, xs, v => xs.length ≤ 9223372036854775807 ∧ ∃ ad cap, v = .slice ad xs.length cap ∧ ∀ i (hi : i < xs.length), ∃ b off, ad = some ⟨b, off, none⟩ ∧ PW P w b ∧
      ∃ a l c, w.cell? ⟨b, off + i * 3, none⟩ = some (.bool xs[i].list) ∧ w.cell? ⟨b, off + i * 3 + 1, none⟩ = some (.string xs[i].text) ∧ w.cell? ⟨b, off + i * 3 + 2, none⟩ = some (.slice a l c) ∧ RdP w P n xs[i].items (.slice a l c)
theorem RdP.rd {w : World} {P : Nat → Prop} : ∀ {n : Nat} {xs : List IT} {v : Value}, RdP w P n xs v → Rd w n xs v
  | 0, _, _, h => h
  | n + 1, xs, v, h => by
    obtain ⟨hl, ad, cap, hv, h⟩ := h
    refine ⟨hl, ad, cap, hv, fun i hi => ?_⟩
    obtain ⟨b, off, ha, _, a, l, c, h0, h1, h2, h3⟩ := h i hi
    exact ⟨b, off, ha, _, h0, h1, h2, ⟨a, l, c, rfl⟩, RdP.rd h3⟩
theorem RdP.same {w w' : World} {P : Nat → Prop} (hb : ∀ b, P b → w'.heap[b]? = w.heap[b]?) : ∀ {n : Nat} {xs : List IT} {v : Value}, RdP w P n xs v → RdP w' P n xs v
  | 0, _, _, h => h
  | n + 1, xs, v, h => by
    obtain ⟨hl, ad, cap, hv, h⟩ := h
    refine ⟨hl, ad, cap, hv, fun i hi => ?_⟩
    obtain ⟨b, off, ha, hP, a, l, c, h0, h1, h2, h3⟩ := h i hi
    exact ⟨b, off, ha, ⟨hP.1, hP.2.imp id fun ⟨vs, t, h⟩ => ⟨vs, t, (hb b hP.1).trans h⟩⟩, a, l, c, (World.cell?_of_block (hb b hP.1)).trans h0, (World.cell?_of_block (hb b hP.1)).trans h1, (World.cell?_of_block (hb b hP.1)).trans h2, RdP.same hb h3⟩
theorem RdP.weak {w : World} {P Q : Nat → Prop} (hpq : ∀ b, P b → Q b) : ∀ {n : Nat} {xs : List IT} {v : Value}, RdP w P n xs v → RdP w Q n xs v
  | 0, _, _, h => h
  | n + 1, xs, v, h => by
    obtain ⟨hl, ad, cap, hv, h⟩ := h
    refine ⟨hl, ad, cap, hv, fun i hi => ?_⟩
    obtain ⟨b, off, ha, hP, a, l, c, h0, h1, h2, h3⟩ := h i hi
    exact ⟨b, off, ha, ⟨hpq b hP.1, hP.2.imp (hpq 0) id⟩, a, l, c, h0, h1, h2, RdP.weak hpq h3⟩
theorem Rd.P {w : World} : ∀ {n : Nat} {xs : List IT} {v : Value}, Rd w n xs v → RdP w (· < w.heap.size) n xs v
  | 0, _, _, h => h
  | n + 1, xs, v, h => by
    obtain ⟨hl, ad, cap, hv, h⟩ := h
    refine ⟨hl, ad, cap, hv, fun i hi => ?_⟩
    obtain ⟨b, off, ha, _, h0, h1, h2, ⟨a, l, c, rfl⟩, h3⟩ := h i hi
    exact ⟨b, off, ha, ⟨cell_lt' h0, .inl (Nat.lt_of_le_of_lt (Nat.zero_le b) (cell_lt' h0))⟩, a, l, c, h0, h1, h2, Rd.P h3⟩
theorem RdP.below {w w' : World} {B n : Nat} {xs : List IT} {v : Value} (h : RdP w (· < B) n xs v) (hb : Below B w w') : RdP w' (· < B) n xs v := h.same fun b hl => hb.block b hl
theorem RdP.at {w : World} {P : Nat → Prop} {n : Nat} {xs : List IT} {v : Value} (h : RdP w P n xs v) : ∃ m, n = m + 1 ∧ ∃ ad cap, v = .slice ad xs.length cap ∧ xs.length ≤ 9223372036854775807 ∧ ∀ i (hi : i < xs.length), ∃ b off, ad = some ⟨b, off, none⟩ ∧ P b ∧
      ∃ a l c, w.cell? ⟨b, off + i * 3, none⟩ = some (.bool xs[i].list) ∧ w.cell? ⟨b, off + i * 3 + 1, none⟩ = some (.string xs[i].text) ∧ w.cell? ⟨b, off + i * 3 + 2, none⟩ = some (.slice a l c) ∧ RdP w P m xs[i].items (.slice a l c) := by
  cases n with
  | zero => exact h.elim
  | succ m =>
    obtain ⟨hl, ad, cap, hv, hat⟩ := h
    refine ⟨m, rfl, ad, cap, hv, hl, fun i hi => ?_⟩
    obtain ⟨b, off, ha, hP, hr⟩ := hat i hi
    exact ⟨b, off, ha, hP.1, hr⟩
end Go.Proofs.Ytapjonmgjccpbaa
end
section
set_option linter.unusedSimpArgs false
set_option linter.unusedVariables false
namespace Go.Proofs.Ytapjonmgjccpbaa
open Go.RowKit

/-! Lists of items, made by appends. -/
def icell (p : IT × Value) : List Value := [.bool p.1.list, .string p.1.text, p.2]
def icells (ps : List (IT × Value)) : List Value := ps.flatMap icell
theorem icells_length (ps : List (IT × Value)) : (icells ps).length = ps.length * 3 := by
  induction ps with
  | nil => rfl
  | cons p ps ih => simp only [icells, List.flatMap_cons, List.length_append, List.length_cons] at *; rw [ih]; simp [icell]; omega
theorem icells_append (a b : List (IT × Value)) : icells (a ++ b) = icells a ++ icells b := by simp [icells]
theorem icells_at (ps : List (IT × Value)) (i : Nat) (h : i < ps.length) : (icells ps)[i * 3]? = some (.bool ps[i].1.list) ∧ (icells ps)[i * 3 + 1]? = some (.string ps[i].1.text) ∧ (icells ps)[i * 3 + 2]? = some ps[i].2 := by
  induction ps generalizing i with
  | nil => simp at h
  | cons p ps ih =>
    have e : icells (p :: ps) = icell p ++ icells ps := by simp [icells]
    have l3 : (icell p).length = 3 := rfl
    rw [e]
    cases i with
    | zero => simp [icell]
    | succ j =>
      have := ih j (by simpa using h)
      rw [List.getElem?_append_right (by rw [l3]; omega), List.getElem?_append_right (by rw [l3]; omega), List.getElem?_append_right (by rw [l3]; omega), l3]
      simp only [List.getElem_cons_succ]
      have e0 : (j + 1) * 3 - 3 = j * 3 := by omega
      have e1 : (j + 1) * 3 + 1 - 3 = j * 3 + 1 := by omega
      have e2 : (j + 1) * 3 + 2 - 3 = j * 3 + 2 := by omega
      rw [e0, e1, e2]
      exact this
/-- A list of items under way: a row of one's own, each item's own items elsewhere. -/
structure Bld (w : World) (base n : Nat) (v : Value) (ps : List (IT × Value)) : Prop where
  row : w.ownsRow base 70 3 v ps.length (icells ps)
  each : ∀ p ∈ ps, (∃ a l c, p.2 = .slice a l c) ∧ RdP w (fun b => base ≤ b ∧ some b ≠ v.ownBlock) n p.1.items p.2
theorem Bld.nil (w : World) (base n : Nat) : Bld w base n (.slice none 0 0) [] := ⟨World.ownsRow_nil w base _ 3, fun p h => by cases h⟩
theorem RdP.lt {w : World} {P : Nat → Prop} : ∀ {n : Nat} {xs : List IT} {v : Value}, RdP w P n xs v → RdP w (fun b => P b ∧ b < w.heap.size) n xs v
  | 0, _, _, h => h
  | n + 1, xs, v, h => by
    obtain ⟨hl, ad, cap, hv, h⟩ := h
    refine ⟨hl, ad, cap, hv, fun i hi => ?_⟩
    obtain ⟨b, off, ha, hP, a, l, c, h0, h1, h2, h3⟩ := h i hi
    exact ⟨b, off, ha, ⟨⟨hP.1, cell_lt' h0⟩, hP.2.imp (fun h => ⟨h, Nat.lt_of_le_of_lt (Nat.zero_le b) (cell_lt' h0)⟩) id⟩, a, l, c, h0, h1, h2, RdP.lt h3⟩
theorem RdP.keep {w w' : World} {P : Nat → Prop} {n : Nat} {xs : List IT} {v : Value} (h : RdP w P n xs v) (hb : ∀ b, P b → b < w.heap.size → w'.heap[b]? = w.heap[b]?) : RdP w' P n xs v :=
  (h.lt.same fun b hp => hb b hp.1 hp.2).weak fun b hp => hp.1
theorem Bld.below {w w' : World} {base n : Nat} {v : Value} {ps : List (IT × Value)} (h : Bld w base n v ps) (hb : Below w.heap.size w w') : Bld w' base n v ps :=
  ⟨World.ownsRow.kept h.row (grown_of_below (r := none) hb) (by cases v.ownBlock <;> simp), fun p hp => ⟨(h.each p hp).1, (h.each p hp).2.keep fun b _ hl => hb.block b hl⟩⟩
/-- One more: its own items lie in blocks that are younger than the row. -/
theorem Bld.snoc {w w' : World} {base n B : Nat} {v v' : Value} {ps : List (IT × Value)} {x : IT} {sv : Value} (h : Bld w base n v ps) (hx : RdP w (B ≤ ·) n x.items sv) (hs : ∃ a l c, sv = .slice a l c) (hB : base ≤ B) (hv : ∀ k, v.ownBlock = some k → k < B)
    (hr : w'.ownsRow base 70 3 v' (ps.length + 1) (icells ps ++ icell (x, sv))) (hg : w.grownBy w' v.ownBlock) (hn : Sn w v v') : Bld w' base n v' (ps ++ [(x, sv)]) := by
  have hblk : ∀ b, some b ≠ v.ownBlock → b < w.heap.size → some b ≠ v'.ownBlock ∧ w'.heap[b]? = w.heap[b]? := fun b h1 h2 => by
    refine ⟨?_, hg.block b h2 h1⟩
    rcases hn with e | hn
    · rw [e]; exact h1
    · intro e; have := hn b e.symm; omega
  refine ⟨?_, fun p hp => ?_⟩
  · have e : icells (ps ++ [(x, sv)]) = icells ps ++ icell (x, sv) := by rw [icells_append]; simp [icells]
    rw [e, List.length_append]; exact hr
  · rcases List.mem_append.1 hp with hp | hp
    · refine ⟨(h.each p hp).1, ?_⟩
      refine ((h.each p hp).2.lt.same (w' := w') fun b hb => (hblk b hb.1.2 hb.2).2).weak fun b hb => ⟨hb.1.1, (hblk b hb.1.2 hb.2).1⟩
    · simp at hp
      subst hp
      refine ⟨hs, (hx.lt.same (w' := w') fun b hb => ?_).weak fun b hb => ⟨by omega, ?_⟩⟩
      · exact (hblk b (fun e => by have := hv b e.symm; omega) hb.2).2
      · exact (hblk b (fun e => by have := hv b e.symm; omega) hb.2).1
theorem Bld.rd {w : World} {base n : Nat} {v : Value} {ps : List (IT × Value)} (h : Bld w base n v ps) (hl : ps.length ≤ 9223372036854775807) : RdP w (base ≤ ·) (n + 1) (ps.map Prod.fst) v := by
  rcases h.row.2 with ⟨rfl, hz⟩ | ⟨g, cap, cur, rfl, hg, hh, h4, h5, h6, h7⟩
  · have : ps = [] := List.length_eq_zero_iff.1 hz
    subst this
    exact ⟨by simp, none, 0, rfl, fun i hi => by simp at hi⟩
  · refine ⟨by simpa using hl, some ⟨g, 0, none⟩, cap, by simp, fun i hi => ?_⟩
    have hi' : i < ps.length := by simpa using hi
    obtain ⟨c0, c1, c2⟩ := icells_at ps i hi'
    have hc : ∀ j u, (icells ps)[j]? = some u → w.cell? ⟨g, 0 + j, none⟩ = some u := fun j u hj => by
      have := World.ownsRow.cells h.row (g := g) rfl j u hj
      rw [Addr.add_lit] at this; exact this
    obtain ⟨⟨a, l, c, hs⟩, hr⟩ := h.each ps[i] (List.getElem_mem hi')
    refine ⟨g, 0, rfl, ⟨hg, .inr ⟨_, _, hh⟩⟩, a, l, c, ?_, ?_, ?_, ?_⟩
    · simpa using hc _ _ c0
    · have := hc _ _ c1; simp only [List.getElem_map]; rw [← Nat.add_assoc] at this; exact this
    · have := hc _ _ c2; rw [hs] at this; rw [← Nat.add_assoc] at this; exact this
    · simp only [List.getElem_map]; rw [← hs]; exact hr.weak fun b hb => hb.1
end Go.Proofs.Ytapjonmgjccpbaa
end
section
set_option linter.unusedSimpArgs false
set_option linter.unusedVariables false
namespace Go.Proofs.Ytapjonmgjccpbaa
open Go.RowKit

/-! item.isBare, item.head by contract. -/
def bareS (t : ByteArray) : Bool := bare t.data.toList
theorem bareS_pos {t : ByteArray} (h1 : t.size = 1) : bareS t = decide ((t[0].toNat : Int) < 128) := by
  obtain ⟨⟨l⟩⟩ := t
  match l, h1 with
  | [x], _ => show bare [x] = decide ((x.toNat : Int) < 128); simp [bare]; omega
theorem bareS_neg {t : ByteArray} (h1 : t.size ≠ 1) : bareS t = false := by
  unfold bareS bare
  have : t.data.toList.length ≠ 1 := by rw [data_len]; exact h1
  rw [show (t.data.toList.length == 1) = false by simpa using this]; rfl
theorem isBare (t : ByteArray) (w : World) (ht : t.size ≤ 9223372036854775807) : Calls Try.prog 104 #[.string t] w fun e w' => e = .returned (.bool (bareS t)) ∧ w' = w := by
  by_cases h1 : t.size = 1
  · rw [bareS_pos h1]
    have hs : ((t.size : Int) == 1) = true := by rw [h1]; rfl
    have hix := idx_str t 0 0 (by omega) rfl
    go_enter Try.func104, Try.ntmps104
    go_wp2_with fail
    all_goals
      go_ret
      exact ⟨rfl, rfl⟩
  · rw [bareS_neg h1]
    have hs : ((t.size : Int) == 1) = false := by simp; omega
    go_enter Try.func104, Try.ntmps104
    go_wp2_with fail
    go_ret
    exact ⟨rfl, rfl⟩
theorem byte_wrap (b n : Nat) (h : b + n < 256) : IntKind.u8.wrap ((b : Int) + IntKind.u8.wrap (n : Int)) = ((b + n : Nat) : Int) := by
  simp only [IntKind.wrap, IntKind.signed, IntKind.bits]; simp; omega
theorem u8_of (n : Nat) (h : n < 256) : ((UInt8.ofNat n).toNat : Int) = (n : Int) := by
  rw [UInt8.toNat_ofNat']; omega
theorem ow_lit (w : World) (x : Nat) (h : x < 256) (base : Nat) (hb : base ≤ w.heap.size) : Ow (w.alloc (.cells #[.int .u8 (x : Int)] 5)) base (.slice (some ⟨w.heap.size, 0, none⟩) 1 1) [UInt8.ofNat x] := by
  have := World.ownsRow_lit (base := base) (e := 5) (size := 1) w #[.int .u8 (x : Int)] 1 hb (by decide) rfl
  show World.ownsRow _ base 5 1 _ 1 (bc [UInt8.ofNat x])
  rw [show bc [UInt8.ofNat x] = [.int .u8 (x : Int)] by simp only [bc, List.map_cons, List.map_nil]; rw [u8_of x h]]
  exact this
theorem strOf_tb (n : Nat) : byteCells (strOfNums (tnums n)) = bc (tb n) := rfl
set_option maxRecDepth 100000 in
theorem head_short (base n : Nat) (w : World) (h : n ≤ 55) (hb : base ≤ 192) :
    Calls Try.prog 105 #[.int .u8 base, .int .i64 n] w fun e w' => ∃ v, e = .returned v ∧ Ow w' w.heap.size v (hd base n) ∧ Below w.heap.size w w' := by
  have hn : (n : Int) ≤ 55 := by omega
  have hx := byte_wrap base n (by omega)
  have hO := ow_lit w (base + n) (by omega) w.heap.size (Nat.le_refl _)
  have HO : Hid (Ow (w.alloc (.cells #[.int .u8 ((base : Int) + (n : Int))] 5)) w.heap.size (.slice (some ⟨w.heap.size, 0, none⟩) 1 1) (hd base n)) := by
    show Ow _ _ _ _
    rw [hd, if_pos h]; exact hO
  clear hO hx
  go_enter Try.func105, Try.ntmps105
  go_wp2_with fail
  go_ret
  exact ⟨_, rfl, HO.out, (Below.refl _ _).alloc (Nat.le_refl _) _⟩
set_option maxRecDepth 100000 in
theorem head_long (base n : Nat) (w : World) (h : 55 < n) (hm : n ≤ 9223372036854775807) (hb : base ≤ 192) :
    Calls Try.prog 105 #[.int .u8 base, .int .i64 n] w fun e w' => ∃ v, e = .returned v ∧ Ow w' w.heap.size v (hd base n) ∧ Below w.heap.size w w' := by
  have hn : ¬ (n : Int) ≤ 55 := by omega
  have hw : IntKind.u64.wrap (n : Int) = n := by rw [IntKind.wrap_u64]; omega
  have hT : Hid (∀ w, Calls Try.prog 82 #[.agg (A4 n 0 0 0)] w fun e w' => e = .returned (.string (strOfNums (tnums n))) ∧ Below w.heap.size w w') := by
    intro w; rw [← V_small n (by omega)]; exact text n (by unfold M256; omega) w
  have hS : (strOfNums (tnums n)).size = tlen n := by rw [strOfNums_size, tnums_length]
  have hL : tlen n ≤ 8 := tlen_lt (by simp; omega)
  have HB : Hid (byteCells (strOfNums (tnums n)) = bc (tb n)) := strOf_tb n
  have HD : Hid (hd base n = [UInt8.ofNat (base + 55 + tlen n)] ++ tb n) := by show _ = _; rw [hd, if_neg (by omega)]; rfl
  obtain ⟨i0, hi, hz0, hz1, hz2⟩ := info_of info5
  have HI : Hid (Try.prog.info? 5 = some i0) := hi
  have HZ : Hid (i0.zero = some (.int .u8 0) ∧ i0.size = 1 ∧ i0.bytes = 1) := ⟨hz0, hz1, hz2⟩
  clear hi hz0 hz1 hz2
  generalize strOfNums (tnums n) = S at *
  generalize tlen n = L at *
  have hS' : (S.size : Int) = (L : Int) := by omega
  go_enter Try.func105, Try.ntmps105
  go_wp2_with (first | (go_at_call 82; refine (hT.out _).mono ?_; rintro e w1 ⟨rfl, hb1⟩; have hO : Hid (Ow (w1.alloc (.cells #[.int .u8 ((base : Int) + 55 + (L : Int))] 5)) w.heap.size (.slice (some ⟨w1.heap.size, 0, none⟩) 1 1) [UInt8.ofNat (base + 55 + L)]) := ow_lit w1 (base + 55 + L) (by omega) w.heap.size hb1.size) | (at_builtin; refine wpList_append_src rfl _ _ 51 9 rfl w.heap.size 5 i0 (.int .u8 0) 1 1 Try.underlying51 HI.out HZ.out.1 HZ.out.2.1 HZ.out.2.2 rfl _ _ 1 _ S.size _ rfl rfl hO.out (Src.ofString _ Try.underlying9 S) (by unfold maxLen; omega) (by omega) (by simp; have := hb1.size; omega) ?_; intro v1 w2 hown2 hgr2 hsn2))
  go_ret
  refine ⟨_, rfl, ?_, ?_⟩
  · rw [HD.out]
    rw [HB.out] at hown2
    show World.ownsRow _ _ _ _ _ _ _
    rw [bc_append, List.length_append, tb_length]
    have e : S.size = tlen n := by have := congrArg List.length HB.out; rw [byteCells_length, bc_length, tb_length] at this; exact this
    rw [e] at hown2
    exact hown2
  · exact (hb1.alloc hb1.size _).grown hgr2 (by simp; have := hb1.size; omega) (fun j hj => by have := (Ow.ge hO.out hj).1; omega)
theorem head (base n : Nat) (w : World) (hm : n ≤ 9223372036854775807) (hb : base ≤ 192) :
    Calls Try.prog 105 #[.int .u8 base, .int .i64 n] w fun e w' => ∃ v, e = .returned v ∧ Ow w' w.heap.size v (hd base n) ∧ Below w.heap.size w w' := by
  by_cases h : n ≤ 55
  · exact head_short base n w h hb
  · exact head_long base n w (by omega) hm hb
end Go.Proofs.Ytapjonmgjccpbaa
end
section
set_option linter.unusedSimpArgs false
set_option linter.unusedVariables false
namespace Go.Proofs.Ytapjonmgjccpbaa
open Go.RowKit

/-! What slices.Insert stands on: copies within a row, an append of noughts, what lies apart. -/
theorem spl1 {α : Type} (Z F T : List α) (i : Nat) (h : i ≤ Z.length) : (splice (splice Z i F) (i + F.length) T).take (i + F.length + T.length) = Z.take i ++ (F ++ T) := by
  have e1 : (splice Z i F).take (i + F.length) = Z.take i ++ F := by
    unfold splice
    rw [← List.append_assoc]
    apply List.take_left'
    simp; omega
  unfold splice at *
  rw [e1, ← List.append_assoc (Z.take i ++ F)]
  rw [List.take_left' (by simp; omega), List.append_assoc]
theorem spl2 {α : Type} (C F T : List α) (i : Nat) (h : i + F.length ≤ C.length) : (splice (splice C (i + F.length) T) i F).take (i + F.length + T.length) = C.take i ++ (F ++ T) := by
  have e1 : (splice C (i + F.length) T).take i = C.take i := by
    unfold splice
    rw [List.take_append_of_le_length (by simp; omega), List.take_take]
    congr 1
    omega
  have e2 : (splice C (i + F.length) T).drop (i + F.length) = T ++ C.drop (i + F.length + T.length) := by
    unfold splice
    apply List.drop_left'
    simp; omega
  conv => lhs; rw [splice]
  rw [e1, e2, ← List.append_assoc F, ← List.append_assoc (C.take i), ]
  rw [List.take_left' (by simp; omega)]
theorem spl_len {α : Type} (C F : List α) (i : Nat) (h : i + F.length ≤ C.length) : (splice C i F).length = C.length := length_splice C i F h
section
variable {P : Program}
theorem step_copy_row {ops : Array Oper} {o : Oper} {a : Act} {w : World} {K : Act → World → Prop} {Q : Exit → Act → World → Prop} {E : Prop} (hgd : o.guard = none) (d s : Operand) (dT sT : TypeId)
    (ho : o.op = .call { callee := .builtin .copy, args := #[d, s], argTypes := #[dT, sT] }) (elem : TypeId) (hu : P.underlying dT = some (.slice elem)) (hsz : (P.info? elem).map (·.size) = some 1)
    (g off dLen dCap : Nat) (ad : Addr) (sLen sCap : Nat) (hd : a.eval d = .slice (some ⟨g, off, none⟩) dLen dCap) (hs : a.eval s = .slice (some ad) sLen sCap)
    (cur : Array Value) (t : TypeId) (hg : w.heap[g]? = some (.cells cur t (0, 0))) (cs : List Value) (hn : cs.length = Nat.min sLen dLen)
    (hsrc : ∀ j v, cs[j]? = some v → w.cell? (ad.add j) = some v) (hfit : off + cs.length ≤ cur.size) (h1 : ∀ v ∈ cs, v.oneCell' = true)
    (h : K (a.put o.dst (goInt cs.length)) (w.setRow g (splice cur.toList off cs).toArray)) :
    if Region.wanted o (yielded ops a.tmps) = true then Oper.wp P o a w K Q else E := by
  rw [if_pos (by simp [Region.wanted, hgd])]
  have hrun := run_copy_row (P := P) w dT sT o.type elem g off dLen dCap ad sLen sCap cur t cs hu hsz hg hn hsrc hfit h1
  rw [List.append_assoc] at hrun
  unfold Oper.wp
  simp only [execOp, ho, resolve, invoke, builtin, Sem.run_bind, Sem.run_pure, Result.andThen_ok, List.map_toArray, List.map_cons, List.map_nil, hd, hs, hrun]
  exact h
theorem wpList_copy_row {ops : Array Oper} {rest : List Oper} {o : Oper} {a : Act} {w : World} {Q : Exit → Act → World → Prop} (hgd : o.guard = none) (d s : Operand) (dT sT : TypeId)
    (ho : o.op = .call { callee := .builtin .copy, args := #[d, s], argTypes := #[dT, sT] }) (elem : TypeId) (hu : P.underlying dT = some (.slice elem)) (hsz : (P.info? elem).map (·.size) = some 1)
    (g off dLen dCap : Nat) (ad : Addr) (sLen sCap : Nat) (hd : a.eval d = .slice (some ⟨g, off, none⟩) dLen dCap) (hs : a.eval s = .slice (some ad) sLen sCap)
    (cur : Array Value) (t : TypeId) (hg : w.heap[g]? = some (.cells cur t (0, 0))) (cs : List Value) (hn : cs.length = Nat.min sLen dLen)
    (hsrc : ∀ j v, cs[j]? = some v → w.cell? (ad.add j) = some v) (hfit : off + cs.length ≤ cur.size) (h1 : ∀ v ∈ cs, v.oneCell' = true)
    (h : wpList P ops Q rest (a.put o.dst (goInt cs.length)) (w.setRow g (splice cur.toList off cs).toArray)) : wpList P ops Q (o :: rest) a w :=
  wpList_copy_own hgd d s dT sT ho elem hu hsz g off dLen dCap ad sLen sCap hd hs cur t hg cs hn hsrc hfit h1 h
/-- append(s, make([]T, k)...) where there is no room. -/
theorem wpList_append_zeros {ops : Array Oper} {rest : List Oper} {o : Oper} {a : Act} {w : World} {Q : Exit → Act → World → Prop} (hgd : o.guard = none) (s x : Operand) (t tx : TypeId)
    (ho : o.op = .call { callee := .builtin .append, args := #[s, x], argTypes := #[t, tx] })
    (e : TypeId) (i : TypeInfo) (z : Value) (ht : P.underlying t = some (.slice e)) (hx : P.underlying tx = some (.int .i64)) (hi : P.info? e = some i) (hz : i.zero = some z) (h1 : i.size = 1) (hb1 : i.bytes = 1) (hzs : z.cells.size = 1)
    (g n cap k : Nat) (kv : Int) (hkv : kv = k) (olds : List Value) (hol : olds.length = n) (hs : a.eval s = .slice (some ⟨g, 0, none⟩) n cap) (hxv : a.eval x = .int .i64 kv) (hc : ∀ j u, olds[j]? = some u → w.cell? ((⟨g, 0, none⟩ : Addr).add j) = some u)
    (hk : 0 < k) (hg : cap < n + k) (hm : n + k ≤ 140737488355328) (N : Nat) (hN : n + k = N)
    (h : ∀ c' (Z : List Value), N ≤ c' → c' ≤ maxLen → Z.length = c' → Z.take n = olds → wpList P ops Q rest (a.put o.dst (.slice (some ⟨w.heap.size, 0, none⟩) N c')) (w.drew.alloc (.cells Z.toArray e))) : wpList P ops Q (o :: rest) a w := by
  subst hkv
  subst hN
  refine wpList_plain hgd fun K hK => ?_
  have hn : ¬ (n + k ≤ cap) := by omega
  have hf := growslice_fits (bytes := 1) hg (by omega)
  have h48' : ¬ (281474976710656 < Builtin.nextslicecap (n + k) cap) := by rw [Nat.mul_one] at hf; omega
  have hold : (loadCells ⟨g, 0, none⟩ n).run P w.drew = .ok olds.toArray w.drew := by rw [← hol]; exact run_loadCells_list (P := P) w.drew ⟨g, 0, none⟩ olds (by simpa using hc)
  have hw : IntKind.i64.wrap (k : Int) = k := by rw [IntKind.wrap_i64]; omega
  have ha : ∀ w' : World, (asInt (.int .i64 (k : Int))).run P w' = .ok (k : Int) w' := fun _ => rfl
  have hk0 : ¬ k = 0 := by omega
  have hneg : ¬ (k : Int) < 0 := by omega
  have hbig : ¬ (281474976710656 : Int) < (k : Int) := by omega
  have hmx : ¬ (9223372036854775807 : Int) < (n : Int) + (k : Int) := by omega
  have hge := grownCap_ge w (n + k) cap e
  have hcm := grownCap_le_maxLen w (n + k) cap e (by unfold maxLen; omega)
  have hrun : (Builtin.append_ #[t, tx] o.type #[.slice (some ⟨g, 0, none⟩) n cap, .int .i64 (k : Int)]).run P w = .ok (.slice (some ⟨w.heap.size, 0, none⟩) (n + k) (grownCap w (n + k) cap e)) (w.drew.alloc (.cells (olds ++ (Builtin.zeroCells z.cells k ++ Builtin.zeroCells z.cells (grownCap w (n + k) cap e - (n + k))).toList).toArray e)) := by
    simp [Builtin.append_, run_underlying ht, run_underlying hx, sizeOf, typeInfo, zeroValue, hi, hz, h1, hb1, ha, hw, hk0, hn, hneg, hbig, hmx, hk, h48', Question.forced, newRow, grownCap, Builtin.firstCells, hold]
    congr 2
    apply Array.ext'
    simp
  unfold Oper.wp execOp
  simp only [ho, resolve, invoke, builtin, Sem.run_bind, Sem.run_pure, Result.andThen_ok, List.map_toArray, List.map_cons, List.map_nil, hs, hxv, hrun]
  refine hK _ _ (h _ _ hge hcm ?_ ?_)
  · simp [size_zeroCells, hzs, hol]; omega
  · rw [← hol]; exact List.take_left
end
theorem size5 (w : World) : (sizeOf 5).run Try.prog w = .ok 1 w := by
  obtain ⟨i0, hi, hz0, hz1, hz2⟩ := info_of info5
  simp [sizeOf, typeInfo, hi, hz1]
theorem msize5 : (Try.prog.info? 5).map (·.size) = some 1 := by
  obtain ⟨i0, hi, hz0, hz1, hz2⟩ := info_of info5
  rw [hi]; simp [hz1]
/-- Two rows of one's own that are not one lie apart. -/
theorem run_apart (w : World) (g h o p la ca lb cb : Nat) (cg ch : Array Value) (hne : g ≠ h) (hg : w.heap[g]? = some (.cells cg 5 (0, 0))) (hh : w.heap[h]? = some (.cells ch 5 (0, 0))) (h0 : ch.size ≠ 0) :
    (callFunc 126 #[.slice (some ⟨g, o, none⟩) la ca, .slice (some ⟨h, p, none⟩) lb cb]).run Try.prog w = .ok (.value (.bool false)) w := by
  have fg : ∀ k, w.frozen? ⟨g, k, none⟩ = false := fun k => by simp [World.frozen?, hg]
  rw [run_callFunc_extern Try.func126 (by kernel_rfl) (by kernel_rfl) (by kernel_rfl) (e := Extern.SlicesOverlaps.overlaps #[51, 51] #[4]) (by kernel_rfl),
    Lib.run_overlaps_apart w 51 4 5 Try.underlying51 1 size5 ⟨g, o, none⟩ ⟨h, p, none⟩ la ca lb cb hne 5 5 cg.size ch.size (by simp [World.shape?, hg]) (by simp [World.shape?, hh]) h0 (fg _) (fg _)]
  rfl
end Go.Proofs.Ytapjonmgjccpbaa
end
section
set_option linter.unusedSimpArgs false
set_option linter.unusedVariables false
namespace Go.Proofs.Ytapjonmgjccpbaa
open Go.RowKit

/-! slices.Insert, of bytes of one's own, by contract. -/
def insL (l f : List UInt8) (i : Nat) : List UInt8 := l.take i ++ (f ++ l.drop i)
theorem insL_length (l f : List UInt8) (i : Nat) (h : i ≤ l.length) : (insL l f i).length = l.length + f.length := by simp [insL]; omega
set_option maxRecDepth 100000 in
set_option maxHeartbeats 1000000 in
theorem insert_end (w : World) (base base' : Nat) (v u : Value) (l f : List UInt8) (hv : Ow w base v l) (hu : Ow w base' u f) (hf : 0 < f.length) (hb : base ≤ w.heap.size) (hm : l.length + f.length ≤ 1000000) :
    Calls Try.prog 118 #[v, .int .i64 (l.length : Int), u] w fun e w' => ∃ v', e = .returned v' ∧ Ow w' base v' (insL l f l.length) ∧ w.grownBy w' v.ownBlock ∧ Sn w v v' := by
  obtain ⟨i0, hi, hz0, hz1, hz2⟩ := info_of info5
  have HI : Hid (Try.prog.info? 5 = some i0) := hi
  have HZ : Hid (i0.zero = some (.int .u8 0) ∧ i0.size = 1 ∧ i0.bytes = 1) := ⟨hz0, hz1, hz2⟩
  clear hi hz0 hz1 hz2
  have hs := hu.src (tx := 51) Try.underlying51
  obtain ⟨ad, cap, rfl, hc⟩ := hv.shape
  obtain ⟨ad', cap', rfl, hc'⟩ := hu.shape
  have HV : Hid (Ow w base (.slice ad l.length cap) l) := hv
  have HS : Hid (Src Try.prog 1 51 (.slice ad' f.length cap') f.length (bc f) w) := hs
  have hE : Hid (insL l f l.length = l ++ f) := by show _ = _; simp [insL]
  have hm0 : ((f.length : Int) == 0) = false := by rw [beq_eq_false_iff_ne]; omega
  have hle : l.length ≤ 1000000 := by omega
  have hnil : ad = none ∨ ∃ g, ad = some ⟨g, 0, none⟩ := by
    rcases hv.2 with ⟨h, _⟩ | ⟨g, _, _, h, _⟩
    · left; simp at h; exact h.1
    · right; simp at h; exact ⟨g, h.1⟩
  clear hv hu hs
  rcases hnil with rfl | ⟨g, rfl⟩
  all_goals
    go_enter Try.func118, Try.ntmps118
    go_wp2_with (at_builtin; refine wpList_append_src rfl _ _ 51 51 rfl base 5 i0 (.int .u8 0) 1 1 Try.underlying51 HI.out HZ.out.1 HZ.out.2.1 HZ.out.2.2 rfl _ _ l.length _ f.length _ rfl rfl HV.out HS.out (by unfold maxLen; omega) (by omega) hb ?_; intro v1 w2 hown2 hgr2 hsn2)
    all_goals
      go_ret
      refine ⟨_, rfl, ?_, hgr2, hsn2⟩
      rw [hE.out]
      show World.ownsRow _ _ _ _ _ _ _
      rw [bc_append, List.length_append]
      exact hown2
/-- What lies in the rest of a row. -/
theorem Ow.drop_cells {w : World} {base g n cap : Nat} {l : List UInt8} (h : Ow w base (.slice (some ⟨g, 0, none⟩) n cap) l) (i : Nat) : ∀ j u, (bc (l.drop i))[j]? = some u → w.cell? ((⟨g, i, none⟩ : Addr).add j) = some u := by
  intro j u hj
  have := World.ownsRow.cells h (g := g) rfl (i + j) u (by rw [← bc_drop, List.getElem?_drop] at hj; exact hj)
  rw [Addr.add_lit] at this ⊢
  rw [Nat.zero_add] at this
  exact this
theorem Ow.heap {w : World} {base g n cap : Nat} {l : List UInt8} (h : Ow w base (.slice (some ⟨g, 0, none⟩) n cap) l) : ∃ cur : Array Value, n = l.length ∧ base ≤ g ∧ w.heap[g]? = some (.cells cur 5 (0, 0)) ∧ n ≤ cap ∧ cap ≤ maxLen ∧ cur.size = cap ∧ cur.toList.take n = bc l := by
  rcases h.2 with ⟨h, _⟩ | ⟨g', cap', cur, e, h1, h2, h3, h4, h5, h6⟩
  · simp at h
  · simp at e
    obtain ⟨rfl, e2, rfl⟩ := e
    rw [Nat.mul_one] at h5 h6
    exact ⟨cur, e2, h1, h2, by omega, h4, h5, by rw [e2]; exact h6⟩
theorem Ow.mk' {w : World} {base g n cap : Nat} {l : List UInt8} {cur : Array Value} (hn : n = l.length) (hb : base ≤ g) (hh : w.heap[g]? = some (.cells cur 5 (0, 0))) (h1 : n ≤ cap) (h2 : cap ≤ maxLen) (h3 : cur.size = cap) (h4 : cur.toList.take n = bc l) : Ow w base (.slice (some ⟨g, 0, none⟩) n cap) l := by
  subst hn
  refine ⟨by rw [bc_length, Nat.mul_one], .inr ⟨g, cap, cur, rfl, hb, hh, h1, h2, by omega, by rw [Nat.mul_one]; exact h4⟩⟩
theorem cell_same {w w' : World} {b o j : Nat} {v : Value} (hb : w'.heap[b]? = w.heap[b]?) (h : w.cell? ((⟨b, o, none⟩ : Addr).add j) = some v) : w'.cell? ((⟨b, o, none⟩ : Addr).add j) = some v := by
  rw [Addr.add_lit] at h ⊢
  exact (World.cell?_of_block (w := w) hb).trans h
/-- The first copy into the new row. -/
theorem ins_one (w : World) (q m cap' i n c' : Nat) (Z : List Value) (f : List UInt8) (hM : f.length = m) (hZl : Z.length = c') (hq : q < w.heap.size) (HU : ∀ j u, (bc f)[j]? = some u → w.cell? ((⟨q, 0, none⟩ : Addr).add j) = some u) (hi : i ≤ n) (hc : n + m ≤ c') :
    ∃ W2, Hid (W2.heap[w.heap.size]? = some (.cells (splice Z i (bc f)).toArray 5 (0, 0)) ∧ Below w.heap.size w W2 ∧ w.heap.size < W2.heap.size) ∧ ∀ ty, (Builtin.copy_ #[51, 51] ty #[.slice (some ⟨w.heap.size, i, none⟩) (n + m - i) (c' - i), .slice (some ⟨q, 0, none⟩) m cap']).run Try.prog (w.alloc (.cells Z.toArray 5)).drew = .ok (goInt m) W2 := by
  have hh : (w.alloc (.cells Z.toArray 5)).drew.heap[w.heap.size]? = some (.cells Z.toArray 5 (0, 0)) := World.alloc_heap_new w _
  have hr := fun ty => run_copy_row (P := Try.prog) (w.alloc (.cells Z.toArray 5)).drew 51 51 ty 5 w.heap.size i (n + m - i) (c' - i) ⟨q, 0, none⟩ m cap' Z.toArray 5 (bc f) Try.underlying51 msize5 hh
    (by rw [bc_length, hM]; simp only [Nat.min_def]; split <;> omega) (fun j u hj => cell_same (Below.heap_alloc w _ q hq) (HU j u hj)) (by rw [bc_length, hM, List.size_toArray, hZl]; omega) bc_one
  rw [bc_length, hM] at hr
  refine ⟨_, ⟨?_, ?_, ?_⟩, hr⟩
  · have := setRow_heap (w.alloc (.cells Z.toArray 5)).drew w.heap.size Z.toArray (Z.take i ++ bc f ++ Z.drop (i + m)).toArray 5 (0, 0) hh
    rw [this]
    simp [splice, bc_length, hM]
  · exact below_setRow (((Below.refl _ w).alloc (Nat.le_refl _) _).drew) (Nat.le_refl _) _
  · simp [World.setRow]
set_option maxRecDepth 100000 in
set_option maxHeartbeats 1000000 in
theorem insert_grow (w : World) (base base' : Nat) (g q n cap cap' i m : Nat) (l f : List UInt8) (hM : f.length = m) (hn : n = l.length) (hv : Ow w base (.slice (some ⟨g, 0, none⟩) n cap) l) (hu : Ow w base' (.slice (some ⟨q, 0, none⟩) m cap') f) (hf : 0 < m) (hi : i < n) (hb : base ≤ w.heap.size) (hm : n + m ≤ 1000000)
    (hcap : cap < n + m) :
    Calls Try.prog 118 #[.slice (some ⟨g, 0, none⟩) n cap, .int .i64 (i : Int), .slice (some ⟨q, 0, none⟩) m cap'] w fun e w' => ∃ v', e = .returned v' ∧ Ow w' base v' (insL l f i) ∧ w.grownBy w' (some g) ∧ Sn w (.slice (some ⟨g, 0, none⟩) n cap) v' := by
  obtain ⟨i0, hi0, hz0, hz1, hz2⟩ := info_of info5
  have HI : Hid (Try.prog.info? 5 = some i0) := hi0
  have HZ : Hid (i0.zero = some (.int .u8 0) ∧ i0.size = 1 ∧ i0.bytes = 1) := ⟨hz0, hz1, hz2⟩
  clear hi0 hz0 hz1 hz2
  have hnc : n ≤ cap := by obtain ⟨cur, _, _, _, h, _⟩ := hv.heap; exact h
  have hlt := hv.ge (k := g) rfl
  have hltu := hu.ge (k := q) rfl
  have HV : Hid (Ow w base (.slice (some ⟨g, 0, none⟩) n cap) l) := hv
  have HU : Hid (∀ j u, (bc f)[j]? = some u → w.cell? ((⟨q, 0, none⟩ : Addr).add j) = some u) := World.ownsRow.cells hu (g := q) rfl
  have HD : Hid (∀ j u, (bc (l.drop i))[j]? = some u → w.cell? ((⟨g, i, none⟩ : Addr).add j) = some u) := hv.drop_cells i
  have HO : Hid (∀ j u, (bc (l.take i))[j]? = some u → w.cell? ((⟨g, 0, none⟩ : Addr).add j) = some u) := fun j u hj => World.ownsRow.cells hv (g := g) rfl j u (by rw [← bc_take, List.getElem?_take] at hj; split at hj <;> simp_all)
  have HN : Hid (n = l.length) := hn
  have HM : Hid (f.length = m) := hM
  clear hv hu hn hM
  have hm0 : ((m : Int) == 0) = false := by rw [beq_eq_false_iff_ne]; omega
  have hin : ((i : Int) == (n : Int)) = false := by rw [beq_eq_false_iff_ne]; omega
  have hgt : (cap : Int) < (n : Int) + (m : Int) := by omega
  have hi1 : (i : Int) ≤ (n : Int) := by omega
  have hi2 : i ≤ cap := by omega
  have hi3 : ¬ cap = i := by omega
  have hw1 : IntKind.i64.wrap ((i : Int) + (m : Int)) = (i : Int) + (m : Int) := by rw [IntKind.wrap_i64]; omega
  have hb1 : (0 : Int) ≤ (i : Int) + (m : Int) := by omega
  have hb3 : (i : Int) + (m : Int) ≤ (n : Int) + (m : Int) := by omega
  have htn : ((i : Int) + (m : Int)).toNat = i + m := by omega
  go_enter Try.func118, Try.ntmps118
  go_wp2_with (at_builtin; refine wpList_append_zeros rfl _ _ 51 3 rfl 5 i0 (.int .u8 0) Try.underlying51 Try.underlying3 HI.out HZ.out.1 HZ.out.2.1 HZ.out.2.2 rfl g i cap (n + m - i) _ (by omega) (bc (l.take i)) (by rw [bc_length, List.length_take]; have := HN.out; omega) rfl rfl HO.out (by omega) (by omega) (by omega) (n + m) (by omega) ?_; intro c' Z hc1 hc2 hZl hZt; have hc3 : ¬ c' = i := (by omega); have hc4 : ¬ c' = i + m := (by omega); have hc5 : c' ≤ 9223372036854775807 := (by unfold maxLen at hc2; omega); obtain ⟨W2, HW2, hcp⟩ := ins_one w q m cap' i n c' Z f HM.out hZl hltu.2 HU.out (by omega) hc1; have HZt : Hid (Z.take i = bc (l.take i)) := hZt; have HZl : Hid (Z.length = c') := hZl; clear hZl hZt)
  go_region_law (refine step_copy_row rfl _ _ 51 51 rfl 5 Try.underlying51 msize5 w.heap.size (i + m) (n + m - (i + m)) (c' - (i + m)) ⟨g, i, none⟩ (n - i) (cap - i) (by simp [Act.eval, Act.put]) (by simp [Act.eval, Act.put]) (splice Z i (bc f)).toArray 5 (by exact HW2.out.1) (bc (l.drop i)) (by rw [bc_length, List.length_drop, ← HN.out]; simp only [Nat.min_def]; split <;> omega) (by intro j u hj; exact cell_same (by exact HW2.out.2.1.block g hlt.2) (HD.out j u hj)) (by rw [bc_length, List.length_drop, ← HN.out, List.size_toArray, length_splice _ _ _ (by rw [bc_length, HM.out, HZl.out]; omega), HZl.out]; omega) bc_one ?_)
  go_wp2_with fail
  go_ret
  have hN := HN.out
  have hMl := HM.out
  have hZl := HZl.out
  have hFl : (bc f).length = m := by rw [bc_length, hMl]
  have hTl : (bc (l.drop i)).length = n - i := by rw [bc_length, List.length_drop, ← hN]
  refine ⟨_, rfl, Ow.mk' (cur := (splice (splice Z i (bc f)) (i + m) (bc (l.drop i))).toArray) (by rw [insL_length l f i (by omega)]; omega) hb ?_ hc1 hc2 ?_ ?_, ?_, .inr (fun k hk => by simp [Value.ownBlock] at hk; omega)⟩
  · exact setRow_heap _ _ _ _ 5 _ HW2.out.1
  · rw [List.size_toArray, length_splice _ _ _ (by rw [length_splice _ _ _ (by omega)]; omega), length_splice _ _ _ (by omega), hZl]
  · have := spl1 Z (bc f) (bc (l.drop i)) i (by omega)
    rw [hFl, hTl, show i + m + (n - i) = n + m by omega, HZt.out] at this
    rw [List.toList_toArray, this]
    simp [insL, bc_append]
  · have hB := HW2.out.2.1
    have := below_setRow (hB.drew) (Nat.le_refl _) (splice (splice Z i (bc f)) (i + m) (bc (l.drop i))).toArray
    exact ⟨this.os, this.tape, this.output, this.size, fun k hk _ => this.block k hk⟩
/-- The copy of the rest within the row. -/
theorem ins_two (w : World) (g q m cap cap' i n : Nat) (cur : Array Value) (l f : List UInt8) (hh : w.heap[g]? = some (.cells cur 5 (0, 0))) (hcs : cur.size = cap) (hM : f.length = m) (hne : q ≠ g) (HU : ∀ j u, (bc f)[j]? = some u → w.cell? ((⟨q, 0, none⟩ : Addr).add j) = some u) (hi : i ≤ n) (hc : n + m ≤ cap) (W : World) (hW : W.heap = w.heap) (T : List Value) (hT : T.length = n - i) :
    ∃ W2, Hid (W2 = (W.setRow g (splice cur.toList (i + m) T).toArray).setRow g (splice (splice cur.toList (i + m) T) i (bc f)).toArray) ∧ ∀ ty, (Builtin.copy_ #[51, 51] ty #[.slice (some ⟨g, i, none⟩) (n + m - i) (cap - i), .slice (some ⟨q, 0, none⟩) m cap']).run Try.prog (W.setRow g (splice cur.toList (i + m) T).toArray) = .ok (goInt m) W2 := by
  have hh' : W.heap[g]? = some (.cells cur 5 (0, 0)) := by rw [hW]; exact hh
  have h1 := setRow_heap W g cur (splice cur.toList (i + m) T).toArray 5 (0, 0) hh'
  have hcl : cur.toList.length = cap := by rw [Array.length_toList, hcs]
  have hsl : (splice cur.toList (i + m) T).length = cap := by rw [length_splice _ _ _ (by rw [hcl, hT]; omega), hcl]
  have hr := fun ty => run_copy_row (P := Try.prog) (W.setRow g (splice cur.toList (i + m) T).toArray) 51 51 ty 5 g i (n + m - i) (cap - i) ⟨q, 0, none⟩ m cap' _ 5 (bc f) Try.underlying51 msize5 h1
    (by rw [bc_length, hM]; simp only [Nat.min_def]; split <;> omega) (fun j u hj => cell_same ((setRow_other W g q _ (by omega)).trans (by rw [hW])) (HU j u hj)) (by rw [bc_length, hM, List.size_toArray, hsl]; omega) bc_one
  rw [bc_length, hM] at hr
  refine ⟨_, ?_, hr⟩
  show _ = _
  simp only [splice, bc_length, hM, List.toList_toArray, List.append_assoc]
set_option maxRecDepth 100000 in
set_option maxHeartbeats 1000000 in
theorem insert_room (w : World) (base base' : Nat) (g q n cap cap' i m : Nat) (l f : List UInt8) (hM : f.length = m) (hn : n = l.length) (hv : Ow w base (.slice (some ⟨g, 0, none⟩) n cap) l) (hu : Ow w base' (.slice (some ⟨q, 0, none⟩) m cap') f) (hne : q ≠ g) (hf : 0 < m) (hi : i < n) (hb : base ≤ w.heap.size) (hm : n + m ≤ 1000000)
    (hcap : n + m ≤ cap) :
    Calls Try.prog 118 #[.slice (some ⟨g, 0, none⟩) n cap, .int .i64 (i : Int), .slice (some ⟨q, 0, none⟩) m cap'] w fun e w' => ∃ v', e = .returned v' ∧ Ow w' base v' (insL l f i) ∧ w.grownBy w' (some g) ∧ Sn w (.slice (some ⟨g, 0, none⟩) n cap) v' := by
  obtain ⟨cur, -, hbg, hh, -, hcm, hcs, htk⟩ := hv.heap
  obtain ⟨curu, -, -, hhu, -, -, -, -⟩ := hu.heap
  have hlt := hv.ge (k := g) rfl
  have hc63 : cap ≤ 9223372036854775807 := by unfold maxLen at hcm; omega
  have HU : Hid (∀ j u, (bc f)[j]? = some u → w.cell? ((⟨q, 0, none⟩ : Addr).add j) = some u) := World.ownsRow.cells hu (g := q) rfl
  have HD : Hid (∀ j u, (bc (l.drop i))[j]? = some u → w.cell? ((⟨g, i, none⟩ : Addr).add j) = some u) := hv.drop_cells i
  have hov : ∀ la, (callFunc 126 #[.slice (some ⟨q, 0, none⟩) m cap', .slice (some ⟨g, i + m, none⟩) (n + m - (i + m)) la]).run Try.prog w = .ok (.value (.bool false)) w := fun la => run_apart w q g 0 (i + m) m cap' _ la curu cur hne hhu hh (by omega)
  have hTl : (bc (l.drop i)).length = n - i := by rw [bc_length, List.length_drop, ← hn]
  obtain ⟨W2, HW2, hcp⟩ := ins_two w g q m cap cap' i n cur l f hh hcs hM hne HU.out (by omega) hcap w.drew rfl (bc (l.drop i)) hTl
  have HTl : Hid ((bc (l.drop i)).length = n - i) := hTl
  have HN : Hid (n = l.length) := hn
  have HM : Hid (f.length = m) := hM
  have HH : Hid (w.heap[g]? = some (.cells cur 5 (0, 0)) ∧ cur.size = cap ∧ cur.toList.take n = bc l) := ⟨hh, hcs, htk⟩
  clear hv hu hn hM hh hcs htk hhu hTl
  have hm0 : ((m : Int) == 0) = false := by rw [beq_eq_false_iff_ne]; omega
  have hin : ((i : Int) == (n : Int)) = false := by rw [beq_eq_false_iff_ne]; omega
  have hgt : ¬ (cap : Int) < (n : Int) + (m : Int) := by omega
  have hi1 : (i : Int) ≤ (n : Int) := by omega
  have hi2 : i ≤ cap := by omega
  have hi3 : ¬ cap = i := by omega
  have hi4 : ¬ cap = i + m := by omega
  have hw1 : IntKind.i64.wrap ((i : Int) + (m : Int)) = (i : Int) + (m : Int) := by rw [IntKind.wrap_i64]; omega
  have hb1 : (0 : Int) ≤ (i : Int) + (m : Int) := by omega
  have hb3 : (i : Int) + (m : Int) ≤ (n : Int) + (m : Int) := by omega
  have hb4 : (i : Int) ≤ (n : Int) + (m : Int) := by omega
  have htn : ((i : Int) + (m : Int)).toNat = i + m := by omega
  have htn2 : ((n : Int) + (m : Int)).toNat = n + m := by omega
  go_enter Try.func118, Try.ntmps118
  go_wp2_with (simp only [hov])
  go_region_law (refine step_copy_row rfl _ _ 51 51 rfl 5 Try.underlying51 msize5 g (i + m) (n + m - (i + m)) (cap - (i + m)) ⟨g, i, none⟩ (n + m - i) (cap - i) (by simp [Act.eval, Act.put]) (by simp [Act.eval, Act.put]) cur 5 (by exact HH.out.1) (bc (l.drop i)) (by rw [HTl.out]; simp only [Nat.min_def]; split <;> omega) (by intro j u hj; exact HD.out j u hj) (by rw [HTl.out, HH.out.2.1]; omega) bc_one ?_)
  go_wp2_with fail
  go_ret
  have hN := HN.out
  have hMl := HM.out
  obtain ⟨hh, hcs, htk⟩ := HH.out
  have hTl := HTl.out
  have hFl : (bc f).length = m := by rw [bc_length, hMl]
  have hcl : cur.toList.length = cap := by rw [Array.length_toList, hcs]
  have hsl : (splice cur.toList (i + m) (bc (l.drop i))).length = cap := by rw [length_splice _ _ _ (by rw [hcl, hTl]; omega), hcl]
  have h1 := setRow_heap w.drew g cur (splice cur.toList (i + m) (bc (l.drop i))).toArray 5 (0, 0) hh
  have hW := HW2.out
  refine ⟨_, rfl, Ow.mk' (cur := (splice (splice cur.toList (i + m) (bc (l.drop i))) i (bc f)).toArray) (by rw [insL_length l f i (by omega)]; omega) hbg ?_ hcap hcm ?_ ?_, ?_, .inl rfl⟩
  · rw [hW]; exact setRow_heap _ _ _ _ 5 _ h1
  · rw [List.size_toArray, length_splice _ _ _ (by rw [hsl, hFl]; omega), hsl]
  · have := spl2 cur.toList (bc f) (bc (l.drop i)) i (by rw [hFl, hcl]; omega)
    rw [hFl, hTl, show i + m + (n - i) = n + m by omega] at this
    rw [List.toList_toArray, this]
    have ht : cur.toList.take i = bc (l.take i) := by
      rw [← bc_take, ← htk, List.take_take]; congr 1; omega
    rw [ht]
    simp [insL, bc_append]
  · rw [hW]
    exact ⟨rfl, rfl, rfl, by simp [World.setRow], fun k hk hr => (setRow_other _ g k _ (fun e => hr (by rw [e]))).trans (setRow_other _ g k _ (fun e => hr (by rw [e])))⟩
theorem insert (w : World) (base base' : Nat) (v u : Value) (l f : List UInt8) (i : Nat) (hv : Ow w base v l) (hu : Ow w base' u f) (hne : v.ownBlock ≠ u.ownBlock) (hf : 0 < f.length) (hi : i ≤ l.length) (hb : base ≤ w.heap.size) (hm : l.length + f.length ≤ 1000000) :
    Calls Try.prog 118 #[v, .int .i64 (i : Int), u] w fun e w' => ∃ v', e = .returned v' ∧ Ow w' base v' (insL l f i) ∧ w.grownBy w' v.ownBlock ∧ Sn w v v' := by
  by_cases hie : i = l.length
  · subst hie; exact insert_end w base base' v u l f hv hu hf hb hm
  rcases hv.2 with ⟨rfl, hz⟩ | ⟨g, cap, cur, rfl, -, -, -, -, -, -⟩
  · omega
  rcases hu.2 with ⟨rfl, hz⟩ | ⟨q, cap', curu, rfl, -, -, -, -, -, -⟩
  · omega
  have hqg : q ≠ g := fun e => hne (by simp [Value.ownBlock, e])
  by_cases hc : l.length + f.length ≤ cap
  · exact insert_room w base base' g q l.length cap cap' i f.length l f rfl rfl hv hu hqg hf (by omega) hb hm hc
  · exact insert_grow w base base' g q l.length cap cap' i f.length l f rfl rfl hv hu hf (by omega) hb hm (by omega)
end Go.Proofs.Ytapjonmgjccpbaa
end

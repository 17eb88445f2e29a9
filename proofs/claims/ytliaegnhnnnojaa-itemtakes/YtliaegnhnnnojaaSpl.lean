import Derived.Test.YtliaegnhnnnojaaApI
set_option linter.unusedSimpArgs false
set_option linter.unusedVariables false
set_option maxRecDepth 100000
namespace Go.Proofs.Ytliaegnhnnnojaa
open Go.RowKit

/-! tarnlaw0.Item: what writes over a list of items, and over the lists within. -/
/-- A slice of items, whatever they are, in blocks from B up to E that may be written. -/
def TW (w : World) (B E : Nat) : Nat → Value → Prop
  | 0, _ => False
  | n + 1, v => ∃ ad len cap, v = .slice ad len cap ∧ len ≤ 9223372036854775807 ∧ ∀ i, i < len → ∃ b off, ad = some ⟨b, off, none⟩ ∧ B ≤ b ∧ b < E ∧ (∃ vs t, Bk w b vs t) ∧
      ∃ x y a l c, w.cell? ⟨b, off + i * 3, none⟩ = some (.bool x) ∧ w.cell? ⟨b, off + i * 3 + 1, none⟩ = some (.string y) ∧ w.cell? ⟨b, off + i * 3 + 2, none⟩ = some (.slice a l c) ∧ TW w B E n (.slice a l c)
theorem RdP.tw {w : World} {B : Nat} (hB : 0 < B) : ∀ {n : Nat} {xs : List IT} {v : Value}, RdP w (B ≤ ·) n xs v → TW w B w.heap.size n v
  | 0, _, _, h => h
  | n + 1, xs, v, h => by
    obtain ⟨hl, ad, cap, hv, h⟩ := h
    refine ⟨ad, xs.length, cap, hv, hl, fun i hi => ?_⟩
    obtain ⟨b, off, ha, hP, a, l, c, h0, h1, h2, h3⟩ := h i hi
    refine ⟨b, off, ha, hP.1, cell_lt' h0, ?_, _, _, a, l, c, h0, h1, h2, RdP.tw hB h3⟩
    rcases hP.2 with h | h
    · exact absurd h (by show ¬ B ≤ 0; omega)
    · exact h
theorem TW.same {w w' : World} {B E : Nat} (hb : ∀ b, B ≤ b → b < E → w'.heap[b]? = w.heap[b]?) : ∀ {n : Nat} {v : Value}, TW w B E n v → TW w' B E n v
  | 0, _, h => h
  | n + 1, v, h => by
    obtain ⟨ad, len, cap, hv, hl, h⟩ := h
    refine ⟨ad, len, cap, hv, hl, fun i hi => ?_⟩
    obtain ⟨b, off, ha, h1, h2, ⟨vs, t, hk⟩, x, y, a, l, c, c0, c1, c2, h3⟩ := h i hi
    have e := hb b h1 h2
    exact ⟨b, off, ha, h1, h2, ⟨vs, t, e.trans hk⟩, x, y, a, l, c, (World.cell?_of_block e).trans c0, (World.cell?_of_block e).trans c1, (World.cell?_of_block e).trans c2, TW.same hb h3⟩
theorem TW.nil (w : World) (B E n : Nat) : TW w B E (n + 1) (.slice none 0 0) := ⟨none, 0, 0, rfl, by omega, fun i hi => absurd hi (by omega)⟩
/-- Three cells of a block, written. -/
def set3 (w : World) (b o : Nat) (T : ByteArray) : World := ((w.setCell ⟨b, o, none⟩ (.bool false)).setCell ⟨b, o + 1, none⟩ (.string T)).setCell ⟨b, o + 2, none⟩ (.slice none 0 0)
theorem set3_blk {w : World} {b : Nat} {vs : Array Value} {t : TypeId} (h : Bk w b vs t) (o : Nat) (T : ByteArray) : Bk (set3 w b o T) b (((vs.setIfInBounds o (.bool false)).setIfInBounds (o + 1) (.string T)).setIfInBounds (o + 2) (.slice none 0 0)) t :=
  ((h.set o _ rfl).set (o + 1) _ rfl).set (o + 2) _ rfl
theorem set3_oth (w : World) (b o : Nat) (T : ByteArray) (k : Nat) (h : k ≠ b) : (set3 w b o T).heap[k]? = w.heap[k]? :=
  ((Below.heap_setCell _ _ _ k h).trans (Below.heap_setCell _ _ _ k h)).trans (Below.heap_setCell _ _ _ k h)
theorem TW.set {w : World} {B E b o : Nat} {T : ByteArray} (hk : ∃ vs t, Bk w b vs t) {x0 : Bool} {y0 : ByteArray} {a0 : Option Addr} {l0 c0 : Nat}
    (k0 : w.cell? ⟨b, o, none⟩ = some (.bool x0)) (k1 : w.cell? ⟨b, o + 1, none⟩ = some (.string y0)) (k2 : w.cell? ⟨b, o + 2, none⟩ = some (.slice a0 l0 c0)) : ∀ {n : Nat} {v : Value}, TW w B E n v → TW (set3 w b o T) B E n v
  | 0, _, h => h
  | n + 1, v, h => by
    obtain ⟨ad, len, cap, hv, hl, h⟩ := h
    refine ⟨ad, len, cap, hv, hl, fun i hi => ?_⟩
    obtain ⟨b1, off, ha, h1, h2, ⟨vs, t, hk1⟩, x, y, a, l, c, c0, c1, c2, h3⟩ := h i hi
    by_cases hb : b1 = b
    · subst hb
      obtain ⟨vs', t', hk'⟩ := hk
      have hN := set3_blk hk' o T
      have hsz : o + 2 < vs'.size := by
        rw [hk'.cell] at k2
        exact (Array.getElem?_eq_some_iff.1 k2).1
      generalize hp : off + i * 3 = p at *
      by_cases ho : p = o
      · subst ho
        cases n with
        | zero => exact h3.elim
        | succ m =>
          refine ⟨b1, off, ha, h1, h2, ⟨_, _, hN⟩, false, T, none, 0, 0, ?_, ?_, ?_, TW.nil _ _ _ _⟩
          · rw [hp, hN.cell]; simp [Array.getElem?_setIfInBounds]; omega
          · rw [hp, hN.cell]; simp [Array.getElem?_setIfInBounds]; omega
          · rw [hp, hN.cell]; simp [Array.getElem?_setIfInBounds]; omega
      · have n1 : p ≠ o + 1 := fun e => by rw [e] at c0; rw [c0] at k1; cases k1
        have n2 : p ≠ o + 2 := fun e => by rw [e] at c0; rw [c0] at k2; cases k2
        have n3 : o ≠ p + 1 := fun e => by rw [← e] at c1; rw [c1] at k0; cases k0
        have n4 : o ≠ p + 2 := fun e => by rw [← e] at c2; rw [c2] at k0; cases k0
        have hkeep : ∀ q, q ≠ o → q ≠ o + 1 → q ≠ o + 2 → (set3 w b1 o T).cell? ⟨b1, q, none⟩ = w.cell? ⟨b1, q, none⟩ := fun q e1 e2 e3 => by
          rw [hN.cell, hk'.cell]
          simp [Array.getElem?_setIfInBounds, Ne.symm e1, Ne.symm e2, Ne.symm e3]
        refine ⟨b1, off, ha, h1, h2, ⟨_, _, hN⟩, x, y, a, l, c, ?_, ?_, ?_, TW.set ⟨_, _, hk'⟩ k0 k1 k2 h3⟩
        · rw [hp, hkeep _ (by omega) (by omega) (by omega)]; exact c0
        · rw [hp, hkeep _ (by omega) (by omega) (by omega)]; exact c1
        · rw [hp, hkeep _ (by omega) (by omega) (by omega)]; exact c2
    · have e := set3_oth w b o T b1 hb
      exact ⟨b1, off, ha, h1, h2, ⟨vs, t, e.trans hk1⟩, x, y, a, l, c, (World.cell?_of_block e).trans c0, (World.cell?_of_block e).trans c1, (World.cell?_of_block e).trans c2, TW.set hk k0 k1 k2 h3⟩
/-- All is as it was but blocks from B up to E. -/
structure Kx (B E : Nat) (w w' : World) : Prop where
  os : w'.os = w.os
  tape : w'.tape = w.tape
  output : w'.output = w.output
  size : w.heap.size ≤ w'.heap.size
  block : ∀ b, b < w.heap.size → ¬ (B ≤ b ∧ b < E) → w'.heap[b]? = w.heap[b]?
theorem Kx.refl (B E : Nat) (w : World) : Kx B E w w := ⟨rfl, rfl, rfl, Nat.le_refl _, fun _ _ _ => rfl⟩
theorem Kx.trans {B E : Nat} {a b c : World} (h : Kx B E a b) (k : Kx B E b c) : Kx B E a c :=
  ⟨k.os.trans h.os, k.tape.trans h.tape, k.output.trans h.output, Nat.le_trans h.size k.size, fun x hx hn => (k.block x (Nat.lt_of_lt_of_le hx h.size) hn).trans (h.block x hx hn)⟩
theorem Kx.of {B E : Nat} {a b : World} (h : Below a.heap.size a b) : Kx B E a b := ⟨h.os, h.tape, h.output, h.size, fun x hx _ => h.block x hx⟩
theorem Kx.below {B E : Nat} {a b : World} (h : Kx B E a b) (hB : B ≤ a.heap.size) : Below B a b := ⟨h.os, h.tape, h.output, h.size, fun x hx => h.block x (by omega) (by omega)⟩
theorem Kx.set {B E : Nat} {a b : World} (h : Kx B E a b) {k o : Nat} {T : ByteArray} (hk : B ≤ k ∧ k < E) : Kx B E a (set3 b k o T) :=
  ⟨h.os, h.tape, h.output, by show _ ≤ (set3 b k o T).heap.size; simp [set3]; exact h.size, fun x hx hn => (set3_oth b k o T x (fun e => hn (by rw [e]; exact hk))).trans (h.block x hx hn)⟩
set_option maxHeartbeats 2000000 in
theorem spoil : ∀ (n B E : Nat) (v : Value) (x : Bool) (y : ByteArray) (w : World), TW w B E n v → E ≤ w.heap.size →
    Calls Try.prog 16 #[.agg #[.bool x, .string y, v]] w fun e w' => (∃ u, e = .returned u) ∧ Kx B E w w' ∧ ∀ m u, TW w B E m u → TW w' B E m u
  | 0, B, E, v, x, y, w, h, _ => h.elim
  | n + 1, B, E, v, x, y, w, h, hE => by
    have IH : Hid (∀ (v : Value) (x : Bool) (y : ByteArray) (w : World), TW w B E n v → E ≤ w.heap.size →
      Calls Try.prog 16 #[.agg #[.bool x, .string y, v]] w fun e w' => (∃ u, e = .returned u) ∧ Kx B E w w' ∧ ∀ m u, TW w B E m u → TW w' B E m u) := spoil n B E
    have HW : Hid (TW w B E (n + 1) v) := h
    obtain ⟨ad, len, cap, rfl, hl, _⟩ := h
    have bA := Bk.new w #[.bool x, .string y, .slice ad len cap] 26
    have hK0 : Kx B E w (w.alloc (.cells #[.bool x, .string y, .slice ad len cap] 26)) := Kx.of ((Below.refl _ w).alloc (Nat.le_refl _) _)
    go_enter Try.func16, Try.ntmps16
    go_wp2_with fail
    go_loopw [2] (fun i wr => ∃ k : Nat, k ≤ len ∧ i = .int .i64 k ∧ Bk wr w.heap.size #[.bool x, .string y, .slice ad len cap] 26 ∧ Kx B E w wr ∧ Hid (∀ m u, TW w B E m u → TW wr B E m u)) (fun i _ => len - (intOf i).toNat)
    case atStart => exact ⟨0, by omega, rfl, bA, hK0, fun m u h => h.same fun b _ hb => (Below.heap_alloc w _ b (by omega))⟩
    case round =>
      clear bA hK0
      obtain ⟨k, hk, rfl, bA, hK, HT⟩ := hrel
      have hsz := hK.size
      have hlA := bA.lt
      obtain ⟨p0, p1, p2⟩ := box_cells bA
      by_cases hlt : k < len
      · have hlt' : (k : Int) < (len : Int) := by omega
        obtain ⟨_, _, _, e1, _, hat⟩ := HT.out _ _ HW.out
        injection e1 with e1 e2 e3
        subst e1 e2 e3
        obtain ⟨b, off, rfl, hb1, hb2, hbk, x1, y1, a1, l1, c1', c0, c1, c2, hch⟩ := hat k hlt
        have hbw := cell_lt' c0
        have HC : Hid (Calls Try.prog 16 #[.agg #[.bool x1, .string y1, .slice a1 l1 c1']] wr fun e w' => (∃ u, e = .returned u) ∧ Kx B E wr w' ∧ ∀ m u, TW wr B E m u → TW w' B E m u) := IH.out _ x1 y1 wr hch (by omega)
        have HbA : Hid (Bk wr w.heap.size #[.bool x, .string y, .slice (some ⟨b, off, none⟩) len cap] 26) := bA
        clear hat hch bA
        go_wp2_with fail
        refine HC.out.mono ?_
        rintro e w2 ⟨⟨u, rfl⟩, hK2, hT2⟩
        have bA2 : Bk w2 w.heap.size #[.bool x, .string y, .slice (some ⟨b, off, none⟩) len cap] 26 := (hK2.block _ hlA (by omega)).trans HbA.out
        clear p0 p1 p2 c0 c1 c2 hbk
        obtain ⟨p0, p1, p2⟩ := box_cells bA2
        obtain ⟨_, _, _, e1, _, hat⟩ := hT2 _ _ (HT.out _ _ HW.out)
        injection e1 with e1 e2 e3
        subst e1 e2 e3
        obtain ⟨b', off', e4, _, _, hbk, x2, y2, a2, l2, c2', c0, c1, c2, _⟩ := hat k hlt
        injection e4 with e4
        injection e4 with e4 e5
        subst e4 e5
        clear hat
        have HbA2 : Hid (Bk w2 w.heap.size #[.bool x, .string y, .slice (some ⟨b, off, none⟩) len cap] 26) := bA2
        have HK2 : Hid (Kx B E w w2 ∧ ∀ m u, TW w B E m u → TW w2 B E m u) := ⟨hK.trans hK2, fun m u h => hT2 m u (HT.out m u h)⟩
        have HBK : Hid (∃ vs t, Bk w2 b vs t) := hbk
        obtain ⟨vs, t, hbk⟩ := hbk
        have f0 := hbk.frozen (off + k * 3)
        have f1 := hbk.frozen (off + k * 3 + 1)
        have f2 := hbk.frozen (off + k * 3 + 2)
        have hbw2 := hbk.lt
        clear hK2 hT2 bA2 hK hbk
        go_wp2_with fail
        go_roundw
        case rel =>
          refine ⟨k + 1, by omega, by go_num, ?_, HK2.out.1.set (k := b) (o := off + k * 3) ⟨hb1, hb2⟩, fun m u h => TW.set (T := ⟨#[63]⟩) HBK.out c0 c1 c2 (HK2.out.2 m u h)⟩
          exact ((HbA2.out.other (by simp; omega) _).other (by simp; omega) _).other (by simp; omega) _
        case measure => simp [intOf]; omega
      · have hlt' : ¬ (k : Int) < (len : Int) := by omega
        go_wp2_with fail
        go_end0
        exact ⟨⟨_, rfl⟩, hK, HT.out⟩
end Go.Proofs.Ytliaegnhnnnojaa

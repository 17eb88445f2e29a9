import Derived.Test.YtliaegnhnnnojaaECs
import Derived.Test.YtliaegnhnnnojaaPts
set_option linter.unusedSimpArgs false
set_option linter.unusedVariables false
set_option maxRecDepth 100000
namespace Go.Proofs.Ytliaegnhnnnojaa
open Go.RowKit Go.Shelf
attribute [local go_sem] Oper.semAt_some

/-! item.Each: the items of a list, one behind the other. -/
def ysOf (a : IT) : List IT := if a.list then a.items else []
def EaQ (n : Nat) (a : IT) (w : World) (e : Ending) (w' : World) : Prop :=
  e = .returned (.func (.func 47) #[] #[.pointer (some ⟨w.heap.size + 1, 0, none⟩)]) ∧ (∃ ad l c, Bk w' (w.heap.size + 1) #[.slice ad l c] 24 ∧ RdP w' (w.heap.size + 2 ≤ ·) n (ysOf a) (.slice ad l c)) ∧ Below w.heap.size w w'
set_option maxHeartbeats 2000000 in
theorem each4 (n : Nat) (a : IT) (ad : Option Addr) (l c : Nat) (w : World) (hr : Rd w n a.items (.slice ad l c)) (hw : a.wt ≤ 1099511627776) :
    Calls Try.prog 37 #[.agg #[.bool a.list, .string a.text, .slice ad l c]] w (EaQ n a w) := by
  obtain ⟨L, t, xs⟩ := a
  have hr : Rd w n xs (.slice ad l c) := hr
  obtain ⟨m, hnm, ad0, cap0, e2, -, -⟩ := hr.at
  injection e2 with e2 e3 e4
  subst e2 e3 e4
  have hw : 1 + t.size + IT.wts xs ≤ 1099511627776 := hw
  have HC : Hid (∀ W, Below w.heap.size w W → Calls Try.prog 46 #[.slice ad xs.length c] W fun e w' => (∃ ad' l' c', e = .returned (.slice ad' l' c') ∧ RdP w' (W.heap.size ≤ ·) n xs (.slice ad' l' c')) ∧ Below W.heap.size W w') := fun W hW => copies_all n xs ad c W (hr.below hW) (by omega)
  have b1 : Bk ((w.alloc (.cells #[.bool L, .string t, .slice ad xs.length c] 26)).alloc (.cells #[.slice none 0 0] 24)) (w.heap.size + 1) #[.slice none 0 0] 24 := Bk.new' _ _ _ (by simp)
  have hB : Below w.heap.size w ((w.alloc (.cells #[.bool L, .string t, .slice ad xs.length c] 26)).alloc (.cells #[.slice none 0 0] 24)) := ((Below.refl _ w).alloc (Nat.le_refl _) _).alloc (by simp) _
  have hz : ((w.alloc (.cells #[.bool L, .string t, .slice ad xs.length c] 26)).alloc (.cells #[.slice none 0 0] 24)).heap.size = w.heap.size + 2 := by simp
  clear hr hw
  show Calls Try.prog 37 #[.agg #[.bool L, .string t, .slice ad xs.length c]] w (EaQ n (.mk L t xs) w)
  cases L with
  | false =>
    subst hnm
    go_enter Try.func37, Try.ntmps37
    go_wp2_with fail
    go_ret
    exact ⟨rfl, ⟨none, 0, 0, b1, by show RdP _ _ _ [] _; exact ⟨by simp, none, 0, rfl, fun i hi => by simp at hi⟩⟩, hB⟩
  | true =>
    have H1 : Hid (Bk ((w.alloc (.cells #[.bool true, .string t, .slice ad xs.length c] 26)).alloc (.cells #[.slice none 0 0] 24)) (w.heap.size + 1) #[.slice none 0 0] 24 ∧ Below w.heap.size w ((w.alloc (.cells #[.bool true, .string t, .slice ad xs.length c] 26)).alloc (.cells #[.slice none 0 0] 24)) ∧ ((w.alloc (.cells #[.bool true, .string t, .slice ad xs.length c] 26)).alloc (.cells #[.slice none 0 0] 24)).heap.size = w.heap.size + 2) := ⟨b1, hB, hz⟩
    clear b1 hB hz hnm
    go_enter Try.func37, Try.ntmps37
    go_wp2_with fail
    refine (HC.out _ H1.out.2.1).mono ?_
    rintro e w2 ⟨⟨ad', l', c', rfl, hrd⟩, hb2⟩
    have bk2 := H1.out.1.below hb2 H1.out.1.lt
    have q0 := bk2.cell 0
    have f0 := bk2.frozen 0
    simp only [List.getElem?_toArray, List.getElem?_cons_zero] at q0
    have l2 := bk2.lt
    have HR : Hid (RdP w2 (w.heap.size + 2 ≤ ·) n xs (.slice ad' l' c') ∧ Bk w2 (w.heap.size + 1) #[.slice none 0 0] 24 ∧ Below w.heap.size w w2) := ⟨by rw [H1.out.2.2] at hrd; exact hrd, bk2, H1.out.2.1.trans (hb2.mono H1.out.2.1.size)⟩
    clear hrd hb2 bk2 H1 HC
    go_wp2_with fail
    go_ret
    refine ⟨rfl, ⟨ad', l', c', HR.out.2.1.set 0 _ rfl, ?_⟩, HR.out.2.2.setCell (p := ⟨w.heap.size + 1, 0, none⟩) (by simp) _⟩
    show RdP _ _ _ xs _
    exact HR.out.1.same fun b hb => Below.heap_setCell _ _ _ b (by have : w.heap.size + 2 ≤ b := hb; show b ≠ w.heap.size + 1; omega)
structure EX where
  it : IT
  ad : Option Addr
  l : Nat
  c : Nat
def xenc (x : EX) : Array Value := #[.agg #[.bool x.it.list, .string x.it.text, .slice x.ad x.l x.c]]
def xgd (n : Nat) (ys : List IT) (B : Nat) (pre : List EX) (x : EX) (A : World) : Prop := RdP A (B ≤ ·) n x.it.items (.slice x.ad x.l x.c) ∧ pre.length < ys.length ∧ (pre ++ [x]).map EX.it = ys.take (pre.length + 1)
def XS (ys : List IT) (xs : List EX) : Prop := xs.map EX.it = ys
def XP (ys : List IT) (xs : List EX) : Prop := xs.length ≤ ys.length ∧ xs.map EX.it = ys.take xs.length
theorem RdP.kpl {N o p B : Nat} {A C : World} (hB : 0 < B) (ho : o < B) (hp : p < B) (hk : KpL N o p A C) : ∀ {n : Nat} {xs : List IT} {v : Value}, RdP A (fun b => B ≤ b ∧ b < N) n xs v → RdP C (fun b => B ≤ b ∧ b < N) n xs v
  | 0, _, _, h => h
  | n + 1, xs, v, h => by
    obtain ⟨hl, ad, cap, hv, h⟩ := h
    refine ⟨hl, ad, cap, hv, fun i hi => ?_⟩
    obtain ⟨b, off, ha, hP, a, l, c, h0, h1, h2, h3⟩ := h i hi
    obtain ⟨vs, t, hb⟩ : ∃ vs t, A.heap[b]? = some (.cells vs t) := by
      rcases hP.2 with h | h
      · exact absurd h.1 (by omega)
      · exact h
    have hP1 := hP.1
    have hc : C.heap[b]? = some (.cells vs t) := hk b vs t hP1.2 (by omega) (by omega) hb
    have e : C.heap[b]? = A.heap[b]? := hc.trans hb.symm
    exact ⟨b, off, ha, ⟨hP1, .inr ⟨vs, t, hc⟩⟩, a, l, c, (World.cell?_of_block e).trans h0, (World.cell?_of_block e).trans h1, (World.cell?_of_block e).trans h2, RdP.kpl hB ho hp hk h3⟩
end Go.Proofs.Ytliaegnhnnnojaa

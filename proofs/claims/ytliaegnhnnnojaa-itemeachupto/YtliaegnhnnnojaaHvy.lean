import Derived.Test.YtliaegnhnnnojaaItW
import Derived.Test.YtliaegnhnnnojaaApI
set_option linter.unusedSimpArgs false
set_option linter.unusedVariables false
namespace Go.Proofs.Ytliaegnhnnnojaa
open Go.RowKit

/-! tarnlaw4.heavy, and the page's Item, by contract. -/
theorem Rd.alloc {w : World} {n : Nat} {xs : List IT} {v : Value} (h : Rd w n xs v) (o : Obj) : Rd (w.alloc o) n xs v := h.below ((Below.refl _ w).alloc (Nat.le_refl _) o)
def askv (a : IT) (ad : Option Addr) (l c : Nat) (S : ByteArray) : Value := .agg #[.bool a.list, .string a.text, .slice ad l c, .string S]
theorem ask_cells {w : World} {b : Nat} {x y z u : Value} {t : TypeId} (h : Bk w b #[x, y, z, u] t) : w.cell? ⟨b, 0, none⟩ = some x ∧ w.cell? ⟨b, 1, none⟩ = some y ∧ w.cell? ⟨b, 2, none⟩ = some z ∧ w.cell? ⟨b, 3, none⟩ = some u := by
  refine ⟨(h.cell 0).trans ?_, (h.cell 1).trans ?_, (h.cell 2).trans ?_, (h.cell 3).trans ?_⟩ <;> simp
set_option maxRecDepth 100000 in
theorem heavy (n : Nat) (a : IT) (ad : Option Addr) (l c : Nat) (S : ByteArray) (w : World) (hr : Rd w n a.items (.slice ad l c)) (hw : a.wt ≤ 1099511627776) (hS : S.size ≤ 1099511627776) :
    Calls Try.prog 11 #[.agg #[.bool a.list, .string a.text, .slice ad l c, .string S]] w fun e w' => (∃ b, e = .returned (.bool b) ∧ (b = false → a.wt ≤ 70000 ∧ S.size ≤ 70000)) ∧ Below w.heap.size w w' := by
  have hdp := dp_wt a
  have HW : Hid (∀ W, Below w.heap.size w W → Calls Try.prog 32 #[.agg #[.bool a.list, .string a.text, .slice ad l c]] W fun e w' => (∃ r : Nat, e = .returned (.int .i64 r) ∧ r ≤ a.wt ∧ (r < 1048576 → r = a.wt)) ∧ Below W.heap.size W w') := fun W hW => itemWeight n a _ W (hr.below hW) (by omega)
  have HD : Hid (∀ W, Below w.heap.size w W → Calls Try.prog 33 #[.agg #[.bool a.list, .string a.text, .slice ad l c]] W fun e w' => e = .returned (.int .i64 (a.dp : Int)) ∧ Below W.heap.size W w') := fun W hW => itemDeep n a _ W (hr.below hW) (by omega)
  have bA := Bk.new w #[.bool a.list, .string a.text, .slice ad l c, .string S] 28
  have HB : Hid (Below w.heap.size w (w.alloc (.cells #[.bool a.list, .string a.text, .slice ad l c, .string S] 28)) ∧ Bk (w.alloc (.cells #[.bool a.list, .string a.text, .slice ad l c, .string S] 28)) w.heap.size #[.bool a.list, .string a.text, .slice ad l c, .string S] 28) := ⟨(Below.refl _ w).alloc (Nat.le_refl _) _, bA⟩
  clear hr bA
  go_enter Try.func11, Try.ntmps11
  go_wp2_with fail
  refine (HW.out _ HB.out.1).mono ?_
  rintro e w1 ⟨⟨r, rfl, hr1, hr2⟩, hb1⟩
  have hB1 := HB.out.1.trans (hb1.mono (by simp))
  have b1 := HB.out.2.below hb1 HB.out.2.lt
  obtain ⟨c0, c1, c2, c3⟩ := ask_cells b1
  have H1 : Hid (Below w.heap.size w w1 ∧ Bk w1 w.heap.size #[.bool a.list, .string a.text, .slice ad l c, .string S] 28) := ⟨hB1, b1⟩
  have HR : Hid (r ≤ a.wt ∧ (r < 1048576 → r = a.wt)) := ⟨hr1, hr2⟩
  have hr60 : r ≤ 1099511627776 := by omega
  clear hB1 b1 hb1 hr1 hr2
  by_cases hrg : r ≤ 70000
  · have hrg' : decide ((70000 : Int) < (r : Int)) = false := decide_eq_false (by omega)
    have hd60 : a.dp ≤ 1099511627776 := by omega
    by_cases hdg : a.dp ≤ 40
    · have hdg' : decide ((40 : Int) < (a.dp : Int)) = false := decide_eq_false (by omega)
      by_cases hsg : S.size ≤ 70000
      · have hsg' : decide ((70000 : Int) < (S.size : Int)) = false := decide_eq_false (by omega)
        go_wp2_with (go_at_call 33; refine (HD.out _ H1.out.1).mono ?_; rintro e w2 ⟨rfl, hb2⟩; obtain ⟨d0, d1, d2, d3⟩ := ask_cells (H1.out.2.below hb2 H1.out.2.lt))
        go_ret
        exact ⟨⟨false, rfl, fun _ => ⟨by have := HR.out.2 (by omega); omega, hsg⟩⟩, H1.out.1.trans (hb2.mono H1.out.1.size)⟩
      · have hsg' : decide ((70000 : Int) < (S.size : Int)) = true := decide_eq_true (by omega)
        go_wp2_with (go_at_call 33; refine (HD.out _ H1.out.1).mono ?_; rintro e w2 ⟨rfl, hb2⟩; obtain ⟨d0, d1, d2, d3⟩ := ask_cells (H1.out.2.below hb2 H1.out.2.lt))
        go_ret
        exact ⟨⟨true, rfl, fun h => by cases h⟩, H1.out.1.trans (hb2.mono H1.out.1.size)⟩
    · have hdg' : decide ((40 : Int) < (a.dp : Int)) = true := decide_eq_true (by omega)
      go_wp2_with (go_at_call 33; refine (HD.out _ H1.out.1).mono ?_; rintro e w2 ⟨rfl, hb2⟩; obtain ⟨d0, d1, d2, d3⟩ := ask_cells (H1.out.2.below hb2 H1.out.2.lt))
      go_ret
      exact ⟨⟨true, rfl, fun h => by cases h⟩, H1.out.1.trans (hb2.mono H1.out.1.size)⟩
  · have hrg' : decide ((70000 : Int) < (r : Int)) = true := decide_eq_true (by omega)
    go_wp2_with fail
    go_ret
    exact ⟨⟨true, rfl, fun h => by cases h⟩, H1.out.1⟩
end Go.Proofs.Ytliaegnhnnnojaa

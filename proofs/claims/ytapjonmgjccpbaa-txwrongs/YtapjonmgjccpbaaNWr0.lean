import Derived.Test.YtapjonmgjccpbaaJ21
import Derived.Test.YtapjonmgjccpbaaJ16
import Derived.Deep.DeepCutAuto
set_option linter.unusedSimpArgs false
set_option linter.unusedVariables false
set_option maxRecDepth 100000
namespace Go.Proofs.Ytapjonmgjccpbaa
open Go.RowKit

/-! tarnref1.Most; tarnlaw7.TxWrongs, walked. -/
def MX : Nat := 115792089237316195423570985008687907853269984665640564039457584007913129639935
theorem lb_MX : lb MX 0 = 18446744073709551615 ∧ lb MX 1 = 18446744073709551615 ∧ lb MX 2 = 18446744073709551615 ∧ lb MX 3 = 18446744073709551615 := by
  refine ⟨?_, ?_, ?_, ?_⟩ <;> decide +kernel
theorem rmost (w : World) : Calls Try.prog 25 #[] w fun e w' => e = .returned (.agg (A4 18446744073709551615 18446744073709551615 18446744073709551615 18446744073709551615)) ∧ Below w.heap.size w w' := by
  go_enter Try.func25, Try.ntmps25
  go_wp2_with fail
  refine bodyPost_ret (v := .agg (A4 18446744073709551615 18446744073709551615 18446744073709551615 18446744073709551615)) ?_ rfl ⟨rfl, ?_⟩
  · have b := Bk.new w (A4 18446744073709551615 18446744073709551615 18446744073709551615 18446744073709551615) 26
    have u0 := b.cell 0
    have u1 := b.cell 1
    have u2 := b.cell 2
    have u3 := b.cell 3
    simp only [List.getElem?_toArray, List.getElem?_cons_zero, List.getElem?_cons_succ] at u0 u1 u2 u3
    simp [results, Try.results25, go_sem, u0, u1, u2, u3]
  · exact (Below.refl _ _).alloc (Nat.le_refl _) _
/-- A transaction that lies in a block, and may not be. -/
structure Bad (w W : World) (X : Nat) : Prop where
  ex : ∃ t aH aB cH cB, Bk W X (txc t (.slice aH t.hs.length cH) (.slice aB t.bs.length cB)) 30 ∧ RT W t (.slice aH t.hs.length cH) (.slice aB t.bs.length cB) ∧ TXw t ∧ ¬ TxOk t
  hB : Below w.heap.size w W
theorem plainW (f n : Int) (p : Nat) (hf : -9223372036854775808 ≤ f ∧ f ≤ 9223372036854775807) (hn : -9223372036854775808 ≤ n ∧ n ≤ 9223372036854775807) (hp : p < 18446744073709551616) : TXw (plain f n p) := by
  have hm : mk (blp bB) < 18446744073709551616 := by show mk (blp bB) < _; exact mk_lt _
  have h64 : (18446744073709551616 : Nat) < M256 := by decide +kernel
  have h2 : 2 * p % 18446744073709551616 < 18446744073709551616 := Nat.mod_lt _ (by omega)
  refine ⟨by show p < M256; omega, by show 2 * p % 18446744073709551616 < M256; omega, by show p < M256; omega, by show 0 < M256; decide +kernel, hf, hn, ⟨by show (-9223372036854775808 : Int) ≤ 1; omega, by show (1 : Int) ≤ 9223372036854775807; omega⟩, fun x hx => ?_, fun x hx => ?_⟩
  · have : x = mk (blp bB) := by simpa [plain] using hx
    rw [this]
    exact hm
  · have : x = bB := by simpa [plain] using hx
    rw [this]
    decide
theorem plain_fit (f n : Int) (p : Nat) : fitT (plain f n p) = 0 := by
  unfold fitT fitE
  have h1 : cnts ((plain f n p).bs.length : Nat) = true ∧ (plain f n p).hs.length = (plain f n p).bs.length := ⟨by rfl, rfl⟩
  rw [if_pos h1]
  have e : prs (fun i => (plain f n p).hs.getD i 0) (fun i => (plain f n p).bs.getD i ByteArray.empty) (plain f n p).bs.length = [(mk (blp bB), bB)] := rfl
  rw [e]
  have e1 : [(mk (blp bB), bB)].any big = false := by show (decide (64 < bB.size) || false) = false; decide
  have e2 : [(mk (blp bB), bB)].any unfit = false := by show (decide (mk (blp bB) ≠ mk (blp bB)) || false) = false; simp
  rw [e1, e2]
  rfl
theorem plain_cos0 : cosE (plain 0 0 0) = 0 := by
  refine if_pos ⟨⟨by decide, by decide⟩, ⟨by decide, by decide⟩, ⟨by decide, by decide⟩, by decide, plain_fit _ _ _, by decide +kernel⟩
theorem plain_cos7 : cosE (plain 7 1099511627776 5) = 0 := by
  refine if_pos ⟨⟨by decide, by decide⟩, ⟨by decide, by decide⟩, ⟨by decide, by decide⟩, by decide, plain_fit _ _ _, by decide +kernel⟩
theorem mk_b : mk (blp bB) ≠ 5 := by decide +kernel
theorem bad9 : fitT { plain 3 4 5 with hs := [5] } ≠ 0 := by
  unfold fitT fitE
  rw [if_pos ⟨by rfl, rfl⟩]
  have e : prs (fun i => ({ plain 3 4 5 with hs := [5] } : TX).hs.getD i 0) (fun i => ({ plain 3 4 5 with hs := [5] } : TX).bs.getD i ByteArray.empty) ({ plain 3 4 5 with hs := [5] } : TX).bs.length = [(5, bB)] := rfl
  rw [e]
  have e1 : [(5, bB)].any big = false := by show (decide (64 < bB.size) || false) = false; decide
  have e2 : [((5 : Nat), bB)].any unfit = true := by show (decide (mk (blp bB) ≠ 5) || false) = true; rw [decide_eq_true mk_b]; rfl
  rw [e1, e2]
  decide
def z65 : ByteArray := ⟨Array.replicate 65 0⟩
end Go.Proofs.Ytapjonmgjccpbaa

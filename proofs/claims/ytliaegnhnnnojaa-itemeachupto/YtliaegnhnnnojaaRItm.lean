import Derived.Test.YtliaegnhnnnojaaRRaw
set_option linter.unusedSimpArgs false
set_option linter.unusedVariables false
namespace Go.Proofs.Ytliaegnhnnnojaa
open Go.RowKit

/-! The page's Item by contract. -/
def itS (a : IT) : ByteArray := if ItOk a then st a.raw else st []
theorem st_nil : st [] = (⟨#[]⟩ : ByteArray) := rfl
set_option maxRecDepth 100000 in
theorem ritem (n : Nat) (a : IT) (ad : Option Addr) (l c : Nat) (w : World) (hr : Rd w n a.items (.slice ad l c)) (hw : a.wt ≤ 1099511627776) :
    Calls Try.prog 38 #[.agg #[.bool a.list, .string a.text, .slice ad l c]] w fun e w' => e = .returned (.tuple #[.string (itS a), .bool (decide (ItOk a))]) ∧ Below w.heap.size w w' := by
  have hdp := dp_wt a
  have hpd := pd_dp a
  have HD : Hid (∀ W, Below w.heap.size w W → Calls Try.prog 49 #[.agg #[.bool a.list, .string a.text, .slice ad l c]] W fun e w' => e = .returned (.int .i64 (a.pd : Int)) ∧ Below W.heap.size W w') := fun W hW => pdeep n a _ W (hr.below hW) (by omega)
  have HR : Hid (∀ W, Below w.heap.size w W → Calls Try.prog 50 #[.agg #[.bool a.list, .string a.text, .slice ad l c]] W fun e w' => (∃ r, e = .returned (.string r) ∧ RawR a r) ∧ Below W.heap.size W w') := fun W hW => raw n a ad l c W (hr.below hW) (by omega)
  have bA := Bk.new w #[.bool a.list, .string a.text, .slice ad l c] 26
  have HB : Hid (Below w.heap.size w (w.alloc (.cells #[.bool a.list, .string a.text, .slice ad l c] 26)) ∧ Bk (w.alloc (.cells #[.bool a.list, .string a.text, .slice ad l c] 26)) w.heap.size #[.bool a.list, .string a.text, .slice ad l c] 26) := ⟨(Below.refl _ w).alloc (Nat.le_refl _) _, bA⟩
  clear hr bA
  by_cases hp : a.pd ≤ 16
  · have hp' : ¬ (16 : Int) < (a.pd : Int) := by omega
    go_enter Try.func38, Try.ntmps38
    go_wp2_with (first | (go_at_call 49; refine (HD.out _ HB.out.1).mono ?_; rintro e w1 ⟨rfl, hb1⟩; have hB1 : Hid (Below w.heap.size w w1) := HB.out.1.trans (hb1.mono (by simp)); obtain ⟨c0, c1, c2⟩ := box_cells (HB.out.2.below hb1 HB.out.2.lt)))
    refine (HR.out _ hB1.out).mono ?_
    rintro e w2 ⟨⟨r, rfl, hrr⟩, hb2⟩
    have HRR : Hid (RawR a r) := hrr
    have hrl := hrr.le
    clear hrr
    by_cases hg : r.size ≤ 65536
    · have hg' : ¬ (65536 : Int) < (r.size : Int) := by omega
      go_wp2_with fail
      go_ret2
      have hok : ItOk a := ⟨hp, by
        by_cases h1 : a.raw.length ≤ 131072
        · have := HRR.out.exact h1; rw [this, st_size] at hg; exact hg
        · have := HRR.out.great (by omega); omega⟩
      have : r = st a.raw := HRR.out.exact (by have := hok.2; omega)
      refine ⟨?_, hB1.out.trans (hb2.mono hB1.out.size)⟩
      rw [itS, if_pos hok, decide_eq_true hok, ← this]; rfl
    · have hg' : (65536 : Int) < (r.size : Int) := by omega
      go_wp2_with fail
      go_ret2
      have hno : ¬ ItOk a := fun h => by
        have := HRR.out.exact (by have := h.2; omega)
        rw [this, st_size] at hg
        exact hg h.2
      refine ⟨?_, hB1.out.trans (hb2.mono hB1.out.size)⟩
      rw [itS, if_neg hno, decide_eq_false hno]; rfl
  · have hp' : (16 : Int) < (a.pd : Int) := by omega
    have hno : ¬ ItOk a := fun h => hp h.1
    have HE : Hid (itS a = st [] ∧ decide (ItOk a) = false) := ⟨by rw [itS, if_neg hno], decide_eq_false hno⟩
    clear hno
    go_enter Try.func38, Try.ntmps38
    go_wp2_with (go_at_call 49; refine (HD.out _ HB.out.1).mono ?_; rintro e w1 ⟨rfl, hb1⟩)
    go_ret2
    exact ⟨by rw [HE.out.1, HE.out.2]; rfl, HB.out.1.trans (hb1.mono (by simp))⟩
end Go.Proofs.Ytliaegnhnnnojaa

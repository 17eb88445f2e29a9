import Derived.Test.YtliaegnhnnnojaaKnd
set_option linter.unusedSimpArgs false
set_option linter.unusedVariables false
namespace Go.Proofs.Ytliaegnhnnnojaa
open Go.RowKit

theorem itemTexts_walk (n : Nat) (v : Value) (qs : List Q4) (w : World) (hq : Sq w n v qs) (hs : Small qs) :
    Calls Try.prog 7 #[v] w fun e w' => e = .returned (.bool true) ∧ Below w.heap.size w w' := by
  have H : Hid (Calls Try.prog 22 #[v, .bool false] w fun e w' => e = .returned (.bool true) ∧ Below w.heap.size w w') := kind_walk n v qs false w hq hs
  clear hq hs
  go_enter Try.func7, Try.ntmps7
  go_wp2_with (go_at_call 22; refine H.out.mono ?_; rintro e w1 ⟨rfl, hb1⟩)
  go_ret
  exact ⟨rfl, hb1⟩
theorem itemLists_walk (n : Nat) (v : Value) (qs : List Q4) (w : World) (hq : Sq w n v qs) (hs : Small qs) :
    Calls Try.prog 8 #[v] w fun e w' => e = .returned (.bool true) ∧ Below w.heap.size w w' := by
  have H : Hid (Calls Try.prog 22 #[v, .bool true] w fun e w' => e = .returned (.bool true) ∧ Below w.heap.size w w') := kind_walk n v qs true w hq hs
  clear hq hs
  go_enter Try.func8, Try.ntmps8
  go_wp2_with (go_at_call 22; refine H.out.mono ?_; rintro e w1 ⟨rfl, hb1⟩)
  go_ret
  exact ⟨rfl, hb1⟩
end Go.Proofs.Ytliaegnhnnnojaa

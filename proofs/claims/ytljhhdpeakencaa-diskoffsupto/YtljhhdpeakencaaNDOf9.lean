import Derived.Test.YtljhhdpeakencaaJ12
set_option linter.unusedSimpArgs false
set_option linter.unusedVariables false
namespace Go.Proofs.Ytljhhdpeakencaa
open Go.RowKit

/-! tarnlaw9.DiskOffs, walked. -/
set_option maxRecDepth 100000 in
set_option maxHeartbeats 1000000 in
theorem diskOffs_walk (w : World) (fv lv : Value) (ls : List (List UInt8)) (xs : List Ac) (hF : Rl w fv ls) (hL : La w lv xs) (hn : ls.length ≤ 1048576) (hs : ∀ l ∈ ls, l.length ≤ 1048576) :
    Calls Try.prog 10 #[.agg #[fv, lv]] w fun e w' => e = .returned (.bool true) ∧ Below w.heap.size w w' := by
  have HC : Hid (∀ W, Below w.heap.size w W → Calls Try.prog 52 #[.agg #[fv, lv], .int .i64 10] W fun e w' => e = .returned (.bool true) ∧ Below W.heap.size W w') := fun W hW => calls_walk W fv lv ls xs 10 (hF.below hW) (hL.below hW) hn hs (by decide)
  obtain ⟨fa, fc, rfl, hF9⟩ := hF
  obtain ⟨la, lc, rfl, hlc, hlm, hat⟩ := hL
  clear hF9 hat
  go_enter Try.func10, Try.ntmps10
  go_wp2_with (go_at_call 52; refine stop9 ?_)
  unfold Hold9
  refine Calls.mono (HC.out _ ((Below.refl _ _).alloc (Nat.le_refl _) _)) ?_
  rintro e w3 ⟨rfl, hb3⟩
  have HB : Hid (Below w.heap.size w w3) := ((Below.refl w.heap.size w).alloc (Nat.le_refl _) _).trans (hb3.mono (by simp))
  clear hb3
  go_wp2_with fail
  go_ret
  exact ⟨rfl, HB.out⟩
end Go.Proofs.Ytljhhdpeakencaa

/- Whatever script comes in: whichever of the first twelve calls behind the first Put of the disk fails, the shelf tells so from there on, puts and deletes nothing more, tells what it told before; opened anew behind a crash it has all that was put, and at most one text more. No condition. -/
import Derived.Test.YtjbhegakgdcldaaJ11
import Derived.Test.YtjbhegakgdcldaaNSFls
set_option linter.unusedSimpArgs false
set_option linter.unusedVariables false
namespace Go.Proofs.Ytjbhegakgdcldaa
open Go.ChangeShapes Go.WideShapes Go.ChangeAt Go.RowKit


set_option maxRecDepth 100000 in
theorem shelfFails_lifted (os : Os) (started : os.Started) (H : Type) (enc : TypeId × Value → H) :
    ReturnsInHanded {} Try.checked os 5 .any (Rows.shelfFailsSpec.pre6 enc Try.prog Try.f5 Rows.shelfFailsRow.domain false) (Rows.shelfFailsSpec.post enc Try.prog Try.f5 false true false false) := by
  refine returnsInHanded_of_change (C := Try.checked) own started (by kernel_rfl) Try.func5
    (ChangeSpec.witness6 (enc := enc) (C := Try.checked) false ⟨#[], #[.agg #[.int .i64 0, .int .i64 0, .slice none 0 0, .slice none 0 0]], []⟩ 8 (by kernel_rfl) (by kernel_rfl) (by kernel_rfl) (by kernel_rfl)) ?_
  intro W base args ds gs before hval0 hW hcnd _
  have hval : ∀ (j : Nat) t v, Try.f5.params[j]? = some t → args[j]? = some v → Value.okWide Try.prog W .any base t v := hval0
  have hW' := hW
  obtain ⟨p, q, hA0, hV, rfl, hfz, hnd⟩ := hW
  have hA : DataW.TrodAll enc Try.prog W 0 (fun _ => true) true Try.f5.params.toList args.toList ds p := hA0
  rw [Try.params5] at hA hval
  obtain ⟨v0, vs0, d0, ds0, p0, q0, hargs, rfl, rfl, h0, r0⟩ := trodAll_cons hA
  obtain ⟨rfl, rfl, rfl⟩ := trodAll_nil r0
  obtain rfl : args = #[v0] := by cases args; simp_all
  obtain ⟨rfl, rfl⟩ := trodVars_none hV
  obtain ⟨cs, rfl, hcs⟩ := okWide_struct Try.underlying25 (hval 0 25 v0 rfl rfl)
  have k0 := h0
  have lt0 : ∀ x ∈ p0, x.block < W.heap.size := by obtain ⟨m, hm⟩ := k0; exact DataW.trod_lt m _ _ _ hm
  obtain ⟨k, f, la, lm, lc, ov, ecs, hlm⟩ : ∃ k f la lm lc ov, cs = #[.int .i64 k, .int .i64 f, .slice la lm lc, ov] ∧ lm ≤ 9223372036854775807 := by
    obtain ⟨m, hm⟩ := h0
    obtain ⟨k, f, lv, ov, x2, x3, e, _, _, ⟨m1, h1⟩, _⟩ := script10_of_trod hm
    obtain ⟨la, lm, lc, rfl, hl⟩ := acts10_sl h1
    exact ⟨k, f, la, lm, lc, ov, by apply Array.ext'; exact e, hl⟩
  subst ecs
  clear hA0 hval0
  refine (shelfFails_walk W (.int .i64 k) (.int .i64 f) ov la lm lc hlm).mono fun e W' ⟨he, bel⟩ => ?_
  subst he
  exact ⟨_, rfl, _, _, _, [], _, [], hW', trodAll_mk1 (shut_bool Try.underlying4 _), (trodAll_cons_mk (Below.trod laidOut (by kernel_rfl) (of_decide_eq_true (by kernel_rfl)) k0 bel lt0) trodAll_mk0), rfl, bel.frame _, fun h => by cases h⟩

theorem shelfFails_holds : Rows.ShelfFailsSaid :=
  OpenClaim.holds_of_wide 5 Try.f5 rfl rfl rfl rfl rfl rfl rfl ⟨rfl, rfl, rfl, rfl, rfl⟩ rfl rfl rfl rfl rfl (by kernel_rfl) Try.func5 (by kernel_rfl)
    (of_decide_eq_true (by kernel_rfl)) (by unfold Func.isWrapper; first | (rw [if_pos (by decide +kernel)]; kernel_rfl) | (rw [if_neg (by decide +kernel)]; exact ⟨rfl, rfl⟩))
    (fun os started H enc _ => shelfFails_lifted os started H enc)
#print axioms shelfFails_holds
end Go.Proofs.Ytjbhegakgdcldaa

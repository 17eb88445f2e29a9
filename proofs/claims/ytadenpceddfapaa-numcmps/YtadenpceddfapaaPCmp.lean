import Derived.Test.YtadenpceddfapaaWakes
import Derived.Test.YtadenpceddfapaaAll
import Derived.Test.YtadenpceddfapaaPCmp0
import Derived.Test.YtadenpceddfapaaCmp
import Derived.Test.YtadenpceddfapaaRCmp
import Derived.Deep.RegionHeld
import Derived.Deep.DeepCutAuto
set_option linter.unusedSimpArgs false
set_option linter.unusedVariables false
namespace Go.Proofs.Ytadenpceddfapaa
open Go.RowKit



/-- The eight cells that a question about two numbers reads, and that nothing below has turned. -/
def Eight (wr : World) (b p q n m : Nat) (w : World) : Prop :=
  w.cell? ⟨b, p, none⟩ = some (.int .u64 (lb n 0)) ∧ w.cell? ⟨b, p + 1, none⟩ = some (.int .u64 (lb n 1)) ∧ w.cell? ⟨b, p + 2, none⟩ = some (.int .u64 (lb n 2)) ∧ w.cell? ⟨b, p + 3, none⟩ = some (.int .u64 (lb n 3)) ∧
  w.cell? ⟨b, q, none⟩ = some (.int .u64 (lb m 0)) ∧ w.cell? ⟨b, q + 1, none⟩ = some (.int .u64 (lb m 1)) ∧ w.cell? ⟨b, q + 2, none⟩ = some (.int .u64 (lb m 2)) ∧ w.cell? ⟨b, q + 3, none⟩ = some (.int .u64 (lb m 3)) ∧ Below wr.heap.size wr w
theorem Eight.below {wr : World} {b p q n m : Nat} {w w' : World} (h : Eight wr b p q n m w) (hb : Below w.heap.size w w') : Eight wr b p q n m w' := by
  obtain ⟨h0, h1, h2, h3, h4, h5, h6, h7, h8⟩ := h
  have hl := cell_lt h0
  have hs := h8.size
  exact ⟨below_at hb hl h0, below_at hb hl h1, below_at hb hl h2, below_at hb hl h3, below_at hb hl h4, below_at hb hl h5, below_at hb hl h6, below_at hb hl h7, h8.trans (hb.mono hs)⟩
theorem Eight.drew {wr : World} {b p q n m : Nat} {w : World} (h : Eight wr b p q n m w) : Eight wr b p q n m w.drew :=
  h.below ((Below.refl _ w).drew)
theorem cmp_bd (n m : Nat) : -1 ≤ cmpV n m ∧ cmpV n m ≤ 1 := by
  unfold cmpV
  split <;> (try split) <;> omega
theorem cmp_neg (n m : Nat) : cmpV n m = - cmpV m n := by
  unfold cmpV
  split <;> split <;> (try split) <;> (try split) <;> omega
set_option maxRecDepth 100000 in
set_option maxHeartbeats 2000000 in
theorem pairs_cmp (v : Value) (ns : List Nat) (w : World) (hs : Sl w v ns) :
    Calls Try.prog 36 #[v, .int .i64 2] w fun e w' => e = .returned (.bool true) ∧ Below w.heap.size w w' := by
  go_enter Try.func36, Try.ntmps36
  go_wp2_with (go_at_call 13; refine (all_x v ns w hs).mono ?_; rintro e w1 ⟨v1, rfl, hs1, hb1⟩)
  clear hs
  obtain ⟨xs, hxs⟩ : ∃ xs, xs = ends ++ ns.take 12 := ⟨_, rfl⟩
  rw [← hxs] at hs1
  clear hxs
  obtain ⟨ad, cap, rfl, hat⟩ := hs1.at
  have HA : Hid (∀ i (hi : i < xs.length), ∃ b off, ad = some ⟨b, off, none⟩ ∧ w1.cell? ⟨b, off + i * 4, none⟩ = some (.int .u64 (lb xs[i] 0)) ∧ w1.cell? ⟨b, off + i * 4 + 1, none⟩ = some (.int .u64 (lb xs[i] 1)) ∧ w1.cell? ⟨b, off + i * 4 + 2, none⟩ = some (.int .u64 (lb xs[i] 2)) ∧ w1.cell? ⟨b, off + i * 4 + 3, none⟩ = some (.int .u64 (lb xs[i] 3))) := hat
  have HS : Hid (Sl w1 (.slice ad xs.length cap) xs) := hs1
  have hlen : xs.length ≤ 9223372036854775807 := hs1.2.1
  have hsz1 := hb1.size
  clear hat hs1
  go_wp2_with fail
  go_loopw [6] (fun i wr => ∃ k : Nat, k ≤ xs.length ∧ i = .int .i64 k ∧ Below w1.heap.size w1 wr) (fun i _ => xs.length - (intOf i).toNat)
  case atStart => exact ⟨0, by omega, rfl, Below.refl _ _⟩
  case round =>
    obtain ⟨i, hi, rfl, hbo⟩ := hrel
    obtain ⟨wo, rfl⟩ : ∃ wo : World, wo = wr := ⟨_, rfl⟩
    by_cases hlt : i < xs.length
    · go_wp2_with fail
      go_loopw [7] (fun j wr => ∃ k : Nat, k ≤ xs.length ∧ j = .int .i64 k ∧ Below w1.heap.size w1 wr) (fun j _ => xs.length - (intOf j).toNat)
      case atStart => exact ⟨0, by omega, rfl, hbo⟩
      case round =>
        clear hbo
        obtain ⟨k, hk, rfl, hbk⟩ := hrel
        by_cases hlt2 : k < xs.length
        · have hszr := hbk.size
          obtain ⟨b, off, rfl, hc0, hc1, hc2, hc3⟩ := HA.out i hlt
          obtain ⟨b', off', hab, hd0, hd1, hd2, hd3⟩ := HA.out k hlt2
          obtain ⟨rfl, rfl⟩ : b = b' ∧ off = off' := by simpa using hab
          have Hn : Hid (xs[i] < M256) := HS.out.1 _ (List.getElem_mem hlt)
          have Hm : Hid (xs[k] < M256) := HS.out.1 _ (List.getElem_mem hlt2)
          generalize xs[i] = n at hc0 hc1 hc2 hc3 Hn
          generalize xs[k] = m at hd0 hd1 hd2 hd3 Hm
          have hE : Eight wr b (off + i * 4) (off + k * 4) n m wr := ⟨below_at hbk (cell_lt hc0) hc0, below_at hbk (cell_lt hc0) hc1, below_at hbk (cell_lt hc0) hc2, below_at hbk (cell_lt hc0) hc3, below_at hbk (cell_lt hc0) hd0, below_at hbk (cell_lt hc0) hd1, below_at hbk (cell_lt hc0) hd2, below_at hbk (cell_lt hc0) hd3, Below.refl _ _⟩
          clear hc0 hc1 hc2 hc3 hd0 hd1 hd2 hd3 hab
          have hcc : (cmpV n m == cmpV n m) = true := by simp
          have hng : (cmpV n m == IntKind.i64.wrap (-cmpV m n)) = true := by rw [cmp_neg n m, beq_iff_eq, IntKind.wrap_i64]; have := cmp_bd m n; omega
          have HX : ∀ x, (x = n ∨ x = m) → x < M256 := fun x hx => hx.elim (fun e => e ▸ Hn.out) (fun e => e ▸ Hm.out)
          go_upto_region 19 with fail
          go_region_held (fun w' => w'.cell? ⟨b, off + i * 4, none⟩ = some (.int .u64 (lb n 0)) ∧ w'.cell? ⟨b, off + i * 4 + 1, none⟩ = some (.int .u64 (lb n 1)) ∧ w'.cell? ⟨b, off + i * 4 + 2, none⟩ = some (.int .u64 (lb n 2)) ∧ w'.cell? ⟨b, off + i * 4 + 3, none⟩ = some (.int .u64 (lb n 3)) ∧ w'.cell? ⟨b, off + k * 4, none⟩ = some (.int .u64 (lb m 0)) ∧ w'.cell? ⟨b, off + k * 4 + 1, none⟩ = some (.int .u64 (lb m 1)) ∧ w'.cell? ⟨b, off + k * 4 + 2, none⟩ = some (.int .u64 (lb m 2)) ∧ w'.cell? ⟨b, off + k * 4 + 3, none⟩ = some (.int .u64 (lb m 3)) ∧ Below wr.heap.size wr w') (first | exact Eight.drew hE | exact hE | (trace_state; fail)) (first | (go_at_call 19; refine (cmp _ _ ?_ ?_ _).mono ?_; (exact HX _ (by first | exact Or.inl rfl | exact Or.inr rfl)); (exact HX _ (by first | exact Or.inl rfl | exact Or.inr rfl)); rintro e w2 ⟨rfl, hb2⟩; (first | (have hE := Eight.below (Eight.drew hE) hb2) | (have hE := Eight.below hE hb2))) | (go_at_call 20; refine (rcmp _ _ ?_ ?_ _).mono ?_; (exact HX _ (by first | exact Or.inl rfl | exact Or.inr rfl)); (exact HX _ (by first | exact Or.inl rfl | exact Or.inr rfl)); rintro e w2 ⟨rfl, hb2⟩; (first | (have hE := Eight.below (Eight.drew hE) hb2) | (have hE := Eight.below hE hb2))))
          have hbx : Below wr.heap.size wr _ := hE.2.2.2.2.2.2.2.2
          clear hE hb2
          go_wp2_with fail
          go_roundw
          case rel => exact ⟨k + 1, by omega, by go_num, hbk.trans (hbx.mono hszr)⟩
          case measure => simp [intOf]; omega
        · go_wp2_with fail
          go_roundw
          case rel => exact ⟨i + 1, by omega, by go_num, hbk⟩
          case measure => simp [intOf]; omega
    · have hszo := hbo.size
      go_wp2_with (go_at_call 21; refine (wakes _).mono ?_; rintro e w4 ⟨rfl, hb4⟩)
      go_ret
      exact ⟨rfl, (hb1.trans (hbo.mono (by omega))).trans (hb4.mono (by omega))⟩
end Go.Proofs.Ytadenpceddfapaa

import Derived.Test.YtjbhegakgdcldaaShW
import Derived.Test.YtjbhegakgdcldaaJ11
import Derived.BigQuiet
set_option linter.unusedSimpArgs false
set_option linter.unusedVariables false
set_option maxRecDepth 100000
namespace Go.Proofs.Ytjbhegakgdcldaa
open Go.RowKit Go.Shelf
attribute [local go_sem] Oper.semAt_some

/-! tarnlaw10.heavy, of whatever script. -/
structure Ac10 where
  d : Int
  n : Int
  s : ByteArray
  pv : Value
/-- A slice of acts, as the walk reads it. -/
def La10 (W : World) (v : Value) (q : Nat → Ac10) (len : Nat) : Prop :=
  len ≤ maxLen ∧ ∃ ad cap, v = .slice ad len cap ∧ ∀ i, i < len → (∃ b off, ad = some ⟨b, off, none⟩ ∧ W.cell? ⟨b, off + i * 4, none⟩ = some (.int .i64 (q i).d) ∧ W.cell? ⟨b, off + i * 4 + 1, none⟩ = some (.int .i64 (q i).n) ∧ W.cell? ⟨b, off + i * 4 + 2, none⟩ = some (.string (q i).s) ∧ W.cell? ⟨b, off + i * 4 + 3, none⟩ = some (q i).pv) ∧
    (q i).s.size ≤ maxLen ∧ (-9223372036854775808 ≤ (q i).d ∧ (q i).d ≤ 9223372036854775807) ∧ (-9223372036854775808 ≤ (q i).n ∧ (q i).n ≤ 9223372036854775807) ∧ ∃ pa pl pc, (q i).pv = .slice pa pl pc ∧ pl ≤ maxLen
theorem La10.below {w w' : World} {v : Value} {q : Nat → Ac10} {len : Nat} (h : La10 w v q len) (hb : Below w.heap.size w w') : La10 w' v q len := by
  obtain ⟨h1, ad, cap, hv, h2⟩ := h
  refine ⟨h1, ad, cap, hv, fun i hi => ?_⟩
  obtain ⟨⟨b, off, e, c0, c1, c2, c3⟩, h3⟩ := h2 i hi
  exact ⟨⟨b, off, e, (hb.cell (cell_lt' c0)).trans c0, (hb.cell (cell_lt' c1)).trans c1, (hb.cell (cell_lt' c2)).trans c2, (hb.cell (cell_lt' c3)).trans c3⟩, h3⟩
def HvQ (W : World) (e : Ending) (w' : World) : Prop := (∃ c, e = .returned (.bool c)) ∧ Below W.heap.size W w'
set_option maxHeartbeats 4000000 in
theorem heavy10 (W : World) (kv fv : Value) (v : Value) (q : Nat → Ac10) (len : Nat) (oa : Option Addr) (ol oc : Nat) (h : La10 W v q len) (hol : ol ≤ maxLen) :
    Calls Try.prog 19 #[.agg #[kv, fv, v, .slice oa ol oc]] W (HvQ W) := by
  have hlen := h.1
  unfold maxLen at hlen hol
  obtain ⟨ad, cp, rfl⟩ : ∃ ad cap, v = .slice ad len cap := by obtain ⟨_, ad, cap, e, _⟩ := h; exact ⟨ad, cap, e⟩
  go_enter Try.func19, Try.ntmps19
  go_upto_region 1 with fail
  obtain ⟨W0, hW0⟩ : ∃ W0, W0 = W.alloc (.cells #[kv, fv, .slice ad len cp, .slice oa ol oc] 25) := ⟨_, rfl⟩
  rw [← hW0]
  have hX : Bk W0 W.heap.size #[kv, fv, .slice ad len cp, .slice oa ol oc] 25 := by rw [hW0]; exact Bk.new _ _ _
  have HB0 : Hid (Below W.heap.size W W0) := by show Below _ _ _; rw [hW0]; exact (Below.refl _ _).alloc (Nat.le_refl _) _
  have HL : Hid (∀ i, i < len → (∃ b off, ad = some ⟨b, off, none⟩ ∧ W0.cell? ⟨b, off + i * 4, none⟩ = some (.int .i64 (q i).d) ∧ W0.cell? ⟨b, off + i * 4 + 1, none⟩ = some (.int .i64 (q i).n) ∧ W0.cell? ⟨b, off + i * 4 + 2, none⟩ = some (.string (q i).s) ∧ W0.cell? ⟨b, off + i * 4 + 3, none⟩ = some (q i).pv) ∧
    (q i).s.size ≤ maxLen ∧ ∃ pa pl pc, (q i).pv = .slice pa pl pc ∧ pl ≤ maxLen) := by
    obtain ⟨_, ad', cp', e, h2⟩ := h.below HB0.out
    simp at e
    obtain ⟨rfl, rfl⟩ := e
    intro i hi
    exact ⟨(h2 i hi).1, (h2 i hi).2.1, (h2 i hi).2.2.2.2⟩
  clear hW0 h
  have x2 := hX.cell 2
  have x3 := hX.cell 3
  have xf2 := hX.frozen 2
  have xf3 := hX.frozen 3
  have xl := hX.lt
  simp only [List.getElem?_toArray, List.getElem?_cons_zero, List.getElem?_cons_succ] at x2 x3
  clear hX
  go_wp2_with fail
  go_loopw [3, 4] (fun n i wr => ∃ (k : Nat) (z : Int), k ≤ len ∧ i = .int .i64 (k : Int) ∧ n = .int .i64 z ∧ Hid (Below W0.heap.size W0 wr)) (fun n i _ => len - (intOf i).toNat)
  case atStart => exact ⟨0, _, by omega, rfl, rfl, Below.refl _ _⟩
  case round =>
    obtain ⟨k, z, hk, rfl, rfl, HB⟩ := hrel
    have hb := HB.out
    replace x2 := (hb.cell (cell_lt' x2)).trans x2
    replace x3 := (hb.cell (cell_lt' x3)).trans x3
    clear hb
    by_cases hlt : k < len
    · have hlt' : (k : Int) < (len : Int) := by omega
      obtain ⟨⟨b, off, rfl, -, -, c2, c3⟩, hs, pa, pl, pc, hpv, hpl⟩ := HL.out k hlt
      rw [hpv] at c3
      have hb := HB.out
      replace c2 := (hb.cell (cell_lt' c2)).trans c2
      replace c3 := (hb.cell (cell_lt' c3)).trans c3
      clear hb hpv HL
      generalize (q k).s = s at *
      by_cases hz : z < 1048576
      · go_wp2_with fail
        go_quiet (fail)
        go_wp2_with fail
        go_roundw
        case rel => exact ⟨k + 1, _, by omega, by go_num, rfl, bdrewN HB.out _⟩
        case measure => simp [intOf]; omega
      · go_wp2_with fail
        all_goals (go_ret; exact ⟨⟨_, rfl⟩, HB0.out.trans (HB.out.mono HB0.out.size)⟩)
    · have hlt' : ¬ (k : Int) < (len : Int) := by omega
      go_wp2_with fail
      all_goals (go_ret; exact ⟨⟨_, rfl⟩, HB0.out.trans (HB.out.mono HB0.out.size)⟩)
end Go.Proofs.Ytjbhegakgdcldaa

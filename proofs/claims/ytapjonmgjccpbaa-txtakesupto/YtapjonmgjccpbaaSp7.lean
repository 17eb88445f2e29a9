import Derived.Test.YtapjonmgjccpbaaJ9
set_option linter.unusedSimpArgs false
set_option linter.unusedVariables false
namespace Go.Proofs.Ytapjonmgjccpbaa
open Go.RowKit

/-! tarnlaw0.Tx: an answer is written over. -/
set_option maxRecDepth 100000 in
set_option maxHeartbeats 2000000 in
theorem spoilTx (t : TX) (aH aB : Option Addr) (cH cB base : Nat) (w : World) (ho : OT w base t (.slice aH t.hs.length cH) (.slice aB t.bs.length cB)) (hb : base ≤ w.heap.size) (h1 : t.hs.length ≤ 1000000) (h2 : t.bs.length ≤ 1000000) :
    Calls Try.prog 15 #[.agg (txc t (.slice aH t.hs.length cH) (.slice aB t.bs.length cB))] w fun e w' => (∃ v, e = .returned v) ∧ Below base w w' := by
  obtain ⟨wr, hwr⟩ : ∃ wr, wr = w.alloc (.cells (txc t (.slice aH t.hs.length cH) (.slice aB t.bs.length cB)) 30) := ⟨_, rfl⟩
  have HA : Hid (0 < t.hs.length → ∃ g, aH = some ⟨g, 0, none⟩ ∧ base ≤ g ∧ g < w.heap.size ∧ t.hs.length ≤ cH) := fun hp => by
    obtain ⟨g, cap, e, h3, _, h4, h5⟩ := ho.h.shape1 hp
    simp at e
    exact ⟨g, e.1, h4, h5, by omega⟩
  have HC : Hid (0 < t.bs.length → ∃ g, aB = some ⟨g, 0, none⟩ ∧ base ≤ g ∧ g < w.heap.size ∧ t.bs.length ≤ cB) := fun hp => by
    obtain ⟨g, cap, e, h3, _, h4, h5⟩ := ho.b.shape1 hp
    simp at e
    exact ⟨g, e.1, h4, h5, by omega⟩
  have HO : Hid (OT w base t (.slice aH t.hs.length cH) (.slice aB t.bs.length cB)) := ho
  clear ho
  go_enter Try.func15, Try.ntmps15
  go_upto_region 1 with fail
  rw [← hwr]
  have bX : Bk wr w.heap.size (txc t (.slice aH t.hs.length cH) (.slice aB t.bs.length cB)) 30 := by rw [hwr]; exact Bk.new _ _ _
  have hB : Below base w wr := by rw [hwr]; exact (Below.refl _ _).alloc hb _
  have ho : OT wr base t (.slice aH t.hs.length cH) (.slice aB t.bs.length cB) := by rw [hwr]; exact ⟨HO.out.h.alloc _, HO.out.b.alloc _⟩
  clear hwr HO
  obtain ⟨X, hX⟩ : ∃ X, X = w.heap.size := ⟨_, rfl⟩
  have HX : Hid (X = w.heap.size) := hX
  rw [← hX] at bX ⊢
  clear hX
  go_wp2_with fail
  go_loopw [2] (fun i wq => ∃ (k : Nat) (ys : List Nat), k ≤ t.hs.length ∧ i = .int .i64 (k : Int) ∧ ys.length = t.hs.length ∧ Hid (Or 24 cU wq base (.slice aH t.hs.length cH) ys ∧ Or 9 cS wq base (.slice aB t.bs.length cB) t.bs ∧ Bk wq X (txc t (.slice aH t.hs.length cH) (.slice aB t.bs.length cB)) 30 ∧ Below base w wq)) (fun i _ => t.hs.length - (intOf i).toNat)
  case atStart => exact ⟨0, t.hs, by omega, rfl, rfl, ho.h, ho.b, bX, hB⟩
  case round =>
    clear ho bX hB
    obtain ⟨k, ys, hk, rfl, hyl, HI⟩ := hrel
    have x19 := HI.out.2.2.1.cell 19
    have x20 := HI.out.2.2.1.cell 20
    simp only [List.getElem?_toArray, List.getElem?_cons_zero, List.getElem?_cons_succ] at x19 x20
    have lX := HI.out.2.2.1.lt
    by_cases hlt : k < t.hs.length
    · have hlt' : (k : Int) < (t.hs.length : Int) := by omega
      obtain ⟨g, rfl, hg1, hg2, hg3⟩ := HA.out (by omega)
      have hr : Or 24 cU wr base (.slice (some ⟨g, 0, none⟩) ys.length cH) ys := by rw [hyl]; exact HI.out.1
      have hc := hr.cell k (by omega)
      have hf := hr.frozen k
      have hs := hr.set k 99
      rw [hyl] at hs
      have hgX : g ≠ X := by rw [HX.out]; omega
      have hap := HI.out.1.apart HI.out.2.1 (by decide)
      have hw2 := HI.out.2.1.other ⟨g, k, none⟩ (.int .u64 99) (by
        rcases (HI.out.2.1.apart HI.out.1 (by decide)) with h | h
        · exact .inl h
        · exact .inr (fun e => h (by rw [e]; rfl)))
      have lg : g < wr.heap.size := cell_lt' hc
      have HS : Hid (Or 24 cU (wr.setCell ⟨g, k, none⟩ (.int .u64 99)) base (.slice (some ⟨g, 0, none⟩) t.hs.length cH) (ys.set k 99) ∧ Or 9 cS (wr.setCell ⟨g, k, none⟩ (.int .u64 99)) base (.slice aB t.bs.length cB) t.bs) := ⟨hs, hw2⟩
      generalize cU ys[k] = cv at hc
      clear hr hs hw2 hap
      go_wp2_with fail
      go_roundw
      case rel => exact ⟨k + 1, ys.set k 99, by omega, by go_num, by simpa using hyl, HS.out.1, HS.out.2, HI.out.2.2.1.other (by show X ≠ g; omega) _, HI.out.2.2.2.setCell (p := ⟨g, k, none⟩) hg1 _⟩
      case measure => simp [intOf]; omega
    · have hlt' : ¬ (k : Int) < (t.hs.length : Int) := by omega
      go_upto_region 5 with fail
      obtain ⟨w1, rfl⟩ : ∃ w1 : World, w1 = wr := ⟨_, rfl⟩
      clear x19 x20 hlt hlt' lX
      go_wp2_with fail
      go_loopw [3] (fun i wq => ∃ (k : Nat) (zs : List ByteArray), k ≤ t.bs.length ∧ i = .int .i64 (k : Int) ∧ zs.length = t.bs.length ∧ Hid (Or 9 cS wq base (.slice aB t.bs.length cB) zs ∧ Bk wq X (txc t (.slice aH t.hs.length cH) (.slice aB t.bs.length cB)) 30 ∧ Below base w wq)) (fun i _ => t.bs.length - (intOf i).toNat)
      case atStart => exact ⟨0, t.bs, by omega, rfl, rfl, HI.out.2⟩
      case round =>
        clear HI hk
        obtain ⟨k2, zs, hk, rfl, hzl, HI⟩ := hrel
        have x20 := HI.out.2.1.cell 20
        simp only [List.getElem?_toArray, List.getElem?_cons_zero, List.getElem?_cons_succ] at x20
        have lX := HI.out.2.1.lt
        by_cases hlt : k2 < t.bs.length
        · have hlt' : (k2 : Int) < (t.bs.length : Int) := by omega
          obtain ⟨g, rfl, hg1, hg2, hg3⟩ := HC.out (by omega)
          have hr : Or 9 cS wr base (.slice (some ⟨g, 0, none⟩) zs.length cB) zs := by rw [hzl]; exact HI.out.1
          have hc := hr.cell k2 (by omega)
          have hf := hr.frozen k2
          have hs := hr.set k2 ⟨#[63]⟩
          rw [hzl] at hs
          have hgX : g ≠ X := by rw [HX.out]; omega
          have lg : g < wr.heap.size := cell_lt' hc
          have HS : Hid (Or 9 cS (wr.setCell ⟨g, k2, none⟩ (.string ⟨#[63]⟩)) base (.slice (some ⟨g, 0, none⟩) t.bs.length cB) (zs.set k2 ⟨#[63]⟩)) := hs
          generalize cS zs[k2] = cv at hc
          clear hr hs
          go_wp2_with fail
          go_roundw
          case rel => exact ⟨k2 + 1, zs.set k2 ⟨#[63]⟩, by omega, by go_num, by simpa using hzl, HS.out, HI.out.2.1.other (by show X ≠ g; omega) _, HI.out.2.2.setCell (p := ⟨g, k2, none⟩) hg1 _⟩
          case measure => simp [intOf]; omega
        · have hlt' : ¬ (k2 : Int) < (t.bs.length : Int) := by omega
          go_wp2_with fail
          go_end0
          exact ⟨⟨_, rfl⟩, HI.out.2.2⟩
end Go.Proofs.Ytapjonmgjccpbaa

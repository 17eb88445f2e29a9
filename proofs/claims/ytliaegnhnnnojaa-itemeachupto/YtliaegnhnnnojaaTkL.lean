import Derived.Test.YtliaegnhnnnojaaTake
import Derived.Test.YtliaegnhnnnojaaCmp
import Derived.Test.YtliaegnhnnnojaaWr
set_option linter.unusedSimpArgs false
set_option linter.unusedVariables false
namespace Go.Proofs.Ytliaegnhnnnojaa
open Go.RowKit

/-! item.takeLength by contract. -/
def tlGood (s : ByteArray) : Bool := tkGood s && (decide (55 < tkV s) && decide (tkV s ≤ 65536))
def tlN (s : ByteArray) : Nat := if tlGood s then tkV s else 0
def tlE (s : ByteArray) : Int := if tlGood s then 0 else 1
theorem cmpV_le (n m : Nat) : (cmpV n m ≤ 0) ↔ n ≤ m := by unfold cmpV; split <;> (try split) <;> omega
theorem cmpV_gt (n m : Nat) : (0 < cmpV n m) ↔ m < n := by unfold cmpV; split <;> (try split) <;> omega
theorem c4 {w : World} {b : Nat} {x y z u : Value} {t : TypeId} (h : Bk w b #[x, y, z, u] t) : w.cell? ⟨b, 0, none⟩ = some x ∧ w.cell? ⟨b, 1, none⟩ = some y ∧ w.cell? ⟨b, 2, none⟩ = some z ∧ w.cell? ⟨b, 3, none⟩ = some u := by
  refine ⟨(h.cell 0).trans ?_, (h.cell 1).trans ?_, (h.cell 2).trans ?_, (h.cell 3).trans ?_⟩ <;> simp
set_option maxRecDepth 100000 in
set_option maxHeartbeats 1000000 in
theorem takeLength (s : ByteArray) (w : World) :
    Calls Try.prog 52 #[.string s] w fun e w' => e = .returned (.tuple #[.int .i64 (tlN s : Int), .int .i64 (tlE s)]) ∧ Below w.heap.size w w' := by
  have hT : Hid (∀ w, Calls Try.prog 59 #[.string s] w fun e w' => e = .returned (.tuple #[V (tkV s), .int .i64 (tkE s)]) ∧ Below w.heap.size w w') := fun w => take s w
  have hlt := tkV_lt s
  cases hg : tkGood s with
  | false =>
    have HE : Hid (tlN s = 0 ∧ tlE s = 1) := by constructor <;> simp [tlN, tlE, tlGood, hg]
    have he : tkE s = 1 := by simp [tkE, hg]
    rw [he] at hT
    clear he hg
    go_enter Try.func52, Try.ntmps52
    go_wp2_with (go_at_call 59; refine (hT.out _).mono ?_; rintro e w1 ⟨rfl, hb1⟩)
    go_ret2
    exact ⟨by rw [HE.out.1, HE.out.2]; rfl, hb1.alloc hb1.size _⟩
  | true =>
    have he : tkE s = 0 := by simp [tkE, hg]
    rw [he] at hT
    have HE : Hid (tlN s = (if 55 < tkV s ∧ tkV s ≤ 65536 then tkV s else 0) ∧ tlE s = (if 55 < tkV s ∧ tkV s ≤ 65536 then 0 else 1)) := by constructor <;> simp [tlN, tlE, tlGood, hg]
    clear he hg
    generalize tkV s = N at *
    have HN : Hid (N < M256) := hlt
    clear hlt
    have h55 : Hid (∀ w, Calls Try.prog 60 #[V N, .agg (A4 55 0 0 0)] w fun e W' => e = .returned (.int .i64 (cmpV N 55)) ∧ Below w.heap.size w W') := fun w => by have := cmp N 55 HN.out (by decide) w; rw [V_small 55 (by omega)] at this; exact this
    have h65 : Hid (∀ w, Calls Try.prog 60 #[V N, .agg (A4 65536 0 0 0)] w fun e W' => e = .returned (.int .i64 (cmpV N 65536)) ∧ Below w.heap.size w W') := fun w => by have := cmp N 65536 HN.out (by decide) w; rw [V_small 65536 (by omega)] at this; exact this
    have k1 := cmpV_le N 55
    have k2 := cmpV_gt N 65536
    generalize cmpV N 55 = A at *
    generalize cmpV N 65536 = B at *
    by_cases c1 : N ≤ 55
    · have d1 : decide (A ≤ 0) = true := decide_eq_true (k1.2 c1)
      have HR : Hid (tlN s = 0 ∧ tlE s = 1) := by have := HE.out; rw [if_neg (by omega), if_neg (by omega)] at this; exact this
      clear k1 k2 c1 HE
      go_enter Try.func52, Try.ntmps52
      go_wp2_with (first | (go_at_call 59; refine (hT.out _).mono ?_; rintro e w1 ⟨rfl, hb1⟩) | (go_at_call 60; refine (h55.out _).mono ?_; rintro e w2 ⟨rfl, hb2⟩))
      go_ret2
      exact ⟨by rw [HR.out.1, HR.out.2]; rfl, (hb1.alloc hb1.size _).trans (hb2.mono (by simp; have := hb1.size; omega))⟩
    · have d1 : decide (A ≤ 0) = false := decide_eq_false (fun h => c1 (k1.1 h))
      by_cases c2 : 65536 < N
      · have d2 : decide (0 < B) = true := decide_eq_true (k2.2 c2)
        have HR : Hid (tlN s = 0 ∧ tlE s = 1) := by have := HE.out; rw [if_neg (by omega), if_neg (by omega)] at this; exact this
        clear k1 k2 c1 c2 HE
        go_enter Try.func52, Try.ntmps52
        go_wp2_with (go_at_call 59; refine (hT.out _).mono ?_; rintro e w1 ⟨rfl, hb1⟩; have bN := Bk.new w1 #[.int .u64 (lb N 0), .int .u64 (lb N 1), .int .u64 (lb N 2), .int .u64 (lb N 3)] 93)
        refine (h55.out _).mono ?_
        rintro e w2 ⟨rfl, hb2⟩
        have bN2 := bN.below hb2 bN.lt
        obtain ⟨n0, n1, n2, n3⟩ := c4 bN2
        have lN2 := bN2.lt
        go_wp2_with fail
        refine (h65.out _).mono ?_
        rintro e w3 ⟨rfl, hb3⟩
        obtain ⟨m0, m1, m2, m3⟩ := c4 (bN2.below hb3 lN2)
        have hBB : Below w.heap.size w w3 := ((hb1.alloc hb1.size _).trans (hb2.mono (by simp; have := hb1.size; omega))).trans (hb3.mono (by have := hb1.size; have := hb2.size; simp at this; omega))
        clear n0 n1 n2 n3 bN bN2 hb2 hb3
        go_wp2_with fail
        go_ret2
        exact ⟨by rw [HR.out.1, HR.out.2]; rfl, hBB⟩
      · have d2 : decide (0 < B) = false := decide_eq_false (fun h => c2 (k2.1 h))
        have HR : Hid (tlN s = N ∧ tlE s = 0) := by have := HE.out; rw [if_pos (by omega), if_pos (by omega)] at this; exact this
        have hl0 : lb N 0 = (N : Int) := (lb_small N (by omega)).1
        have hN64 : N ≤ 65536 := by omega
        have hwr : IntKind.i64.wrap (lb N 0) = (N : Int) := by rw [hl0, IntKind.wrap_i64]; omega
        clear k1 k2 c1 c2 HE hl0
        go_enter Try.func52, Try.ntmps52
        go_wp2_with (go_at_call 59; refine (hT.out _).mono ?_; rintro e w1 ⟨rfl, hb1⟩; have bN := Bk.new w1 #[.int .u64 (lb N 0), .int .u64 (lb N 1), .int .u64 (lb N 2), .int .u64 (lb N 3)] 93)
        refine (h55.out _).mono ?_
        rintro e w2 ⟨rfl, hb2⟩
        have bN2 := bN.below hb2 bN.lt
        obtain ⟨n0, n1, n2, n3⟩ := c4 bN2
        have lN2 := bN2.lt
        go_wp2_with fail
        refine (h65.out _).mono ?_
        rintro e w3 ⟨rfl, hb3⟩
        obtain ⟨m0, m1, m2, m3⟩ := c4 (bN2.below hb3 lN2)
        have hBB : Below w.heap.size w w3 := ((hb1.alloc hb1.size _).trans (hb2.mono (by simp; have := hb1.size; omega))).trans (hb3.mono (by have := hb1.size; have := hb2.size; simp at this; omega))
        clear n0 n1 n2 n3 bN bN2 hb2 hb3
        go_wp2_with fail
        go_ret2
        exact ⟨by rw [HR.out.1, HR.out.2]; first | rfl | (simp [hwr]; done), hBB⟩
end Go.Proofs.Ytliaegnhnnnojaa

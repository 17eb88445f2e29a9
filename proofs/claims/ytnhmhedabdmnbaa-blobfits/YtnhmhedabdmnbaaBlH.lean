import Derived.Test.YtnhmhedabdmnbaaMkR
set_option linter.unusedSimpArgs false
set_option linter.unusedVariables false
namespace Go.Proofs.Ytnhmhedabdmnbaa
open Go.RowKit

/-! blob.Hash, blob.Gas, blob.counts; the page's Hash. -/
def bl (b : ByteArray) : ByteArray := ⟨#[98, 108, 111, 98]⟩ ++ b
theorem bl_size (b : ByteArray) : (bl b).size = b.size + 4 := by
  unfold bl
  rw [ByteArray.size_append]
  show 4 + b.size = _
  omega
def hV (b : ByteArray) : Nat := if 64 < b.size then 0 else mk (bl b)
def hE (b : ByteArray) : Int := if 64 < b.size then 2 else 0
theorem hV_lt (b : ByteArray) : hV b < 18446744073709551616 := by
  unfold hV
  split
  · omega
  · exact mk_lt _
set_option maxRecDepth 100000 in
set_option maxHeartbeats 1000000 in
theorem hash (b : ByteArray) (w : World) :
    Calls Try.prog 6 #[.string b] w fun e w' => e = .returned (.tuple #[.int .u64 (hV b : Int), .int .i64 (hE b)]) ∧ Below w.heap.size w w' := by
  by_cases h : 64 < b.size
  · have h' : 64 < (b.size : Int) := by omega
    have HV : Hid (hV b = 0 ∧ hE b = 2) := ⟨if_pos h, if_pos h⟩
    go_enter Try.func6, Try.ntmps6
    go_wp2
    go_ret2
    exact ⟨by rw [HV.out.1, HV.out.2]; rfl, Below.refl _ _⟩
  · have h' : ¬ 64 < (b.size : Int) := by omega
    have HV : Hid (hV b = mk (bl b) ∧ hE b = 0) := ⟨if_neg h, if_neg h⟩
    have HM : Hid (∀ w, Calls Try.prog 15 #[.string (⟨#[98, 108, 111, 98]⟩ ++ b)] w fun e w' => e = .returned (.int .u64 (mk (bl b) : Int)) ∧ Below w.heap.size w w') := fun w => mark (bl b) (by rw [bl_size]; omega) w
    go_enter Try.func6, Try.ntmps6
    go_wp2_with fail
    refine (HM.out _).mono ?_
    rintro e w1 ⟨rfl, hb1⟩
    go_wp2
    go_ret2
    exact ⟨by rw [HV.out.1, HV.out.2]; rfl, hb1⟩
set_option maxRecDepth 100000 in
set_option maxHeartbeats 1000000 in
theorem rhash (b : ByteArray) (hb : b.size ≤ 4611686018427387000) (w : World) :
    Calls Try.prog 8 #[.string b] w fun e w' => e = .returned (.int .u64 (mk (bl b) : Int)) ∧ w' = w := by
  have HM : Hid (∀ w, Calls Try.prog 16 #[.string (⟨#[98, 108, 111, 98]⟩ ++ b)] w fun e w' => e = .returned (.int .u64 (mk (bl b) : Int)) ∧ w' = w) := fun w => rmarkq (bl b) (by rw [bl_size]; omega) w
  go_enter Try.func8, Try.ntmps8
  go_wp2_with fail
  refine (HM.out _).mono ?_
  rintro e w1 ⟨rfl, rfl⟩
  go_wp2
  go_ret
  exact ⟨rfl, rfl⟩
def cnts (n : Int) : Bool := decide (1 ≤ n) && decide (n ≤ 4)
theorem counts (n : Int) (w : World) : Calls Try.prog 17 #[.int .i64 n] w fun e w' => e = .returned (.bool (cnts n)) ∧ w' = w := by
  by_cases h1 : 1 ≤ n
  · by_cases h2 : n ≤ 4
    · have HC : Hid (cnts n = true) := by show _ = _; simp [cnts, h1, h2]
      go_enter Try.func17, Try.ntmps17
      go_wp2
      go_ret
      exact ⟨by rw [HC.out]; rfl, rfl⟩
    · have HC : Hid (cnts n = false) := by show _ = _; simp [cnts, h2]
      go_enter Try.func17, Try.ntmps17
      go_wp2
      go_ret
      exact ⟨by rw [HC.out]; rfl, rfl⟩
  · have HC : Hid (cnts n = false) := by show _ = _; simp [cnts, h1]
    go_enter Try.func17, Try.ntmps17
    go_wp2
    go_ret
    exact ⟨by rw [HC.out]; rfl, rfl⟩
def gasV (n : Int) : Int := if cnts n then n * 131072 else 0
def gasE (n : Int) : Int := if cnts n then 0 else 1
theorem gas (n : Int) (w : World) : Calls Try.prog 11 #[.int .i64 n] w fun e w' => e = .returned (.tuple #[.int .i64 (gasV n), .int .i64 (gasE n)]) ∧ w' = w := by
  have hc := fun w => counts n w
  cases h : cnts n with
  | false =>
    have HV : Hid (gasV n = 0 ∧ gasE n = 1) := ⟨by unfold gasV; rw [h]; rfl, by unfold gasE; rw [h]; rfl⟩
    rw [h] at hc
    have HC : Hid (∀ w, Calls Try.prog 17 #[.int .i64 n] w fun e w' => e = .returned (.bool false) ∧ w' = w) := hc
    clear hc
    go_enter Try.func11, Try.ntmps11
    go_wp2_with fail
    refine (HC.out _).mono ?_
    rintro e w1 ⟨rfl, rfl⟩
    go_wp2
    go_ret2
    exact ⟨by rw [HV.out.1, HV.out.2]; rfl, rfl⟩
  | true =>
    have HV : Hid (gasV n = n * 131072 ∧ gasE n = 0) := ⟨by unfold gasV; rw [h]; rfl, by unfold gasE; rw [h]; rfl⟩
    rw [h] at hc
    have HC : Hid (∀ w, Calls Try.prog 17 #[.int .i64 n] w fun e w' => e = .returned (.bool true) ∧ w' = w) := hc
    have hn : 1 ≤ n ∧ n ≤ 4 := by simpa [cnts] using h
    have hw : IntKind.i64.wrap (n * 131072) = n * 131072 := by rw [IntKind.wrap_i64]; omega
    clear hc
    go_enter Try.func11, Try.ntmps11
    go_wp2_with fail
    refine (HC.out _).mono ?_
    rintro e w1 ⟨rfl, rfl⟩
    go_wp2
    go_ret2
    exact ⟨by rw [HV.out.1, HV.out.2]; rfl, rfl⟩
end Go.Proofs.Ytnhmhedabdmnbaa

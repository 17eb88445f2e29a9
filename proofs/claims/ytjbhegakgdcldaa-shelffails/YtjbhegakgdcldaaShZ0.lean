import Derived.Test.YtjbhegakgdcldaaShY
import Derived.Test.YtjbhegakgdcldaaCpS
set_option linter.unusedSimpArgs false
set_option linter.unusedVariables false
set_option maxRecDepth 100000
namespace Go.Proofs.Ytjbhegakgdcldaa
open Go.RowKit Go.Shelf

/-! tarnref0.InStrings. -/
abbrev SL (w : World) (v : Value) (l : List ByteArray) : Prop := Ss w v (fun i => l.getD i ByteArray.empty) l.length
/-- Where a text lies first. -/
def idxS (s : ByteArray) : List ByteArray → Int
  | [] => -1
  | x :: l => if x = s then 0 else if idxS s l < 0 then -1 else idxS s l + 1
theorem idxS_no (s : ByteArray) : ∀ l : List ByteArray, (∀ x ∈ l, x ≠ s) → idxS s l = -1
  | [], _ => rfl
  | x :: l, h => by
    have := idxS_no s l (fun y hy => h y (by simp [hy]))
    unfold idxS
    rw [if_neg (h x (by simp)), this, if_pos (by omega)]
theorem idxS_at (s : ByteArray) : ∀ (l : List ByteArray) (k : Nat), k < l.length → (∀ j, j < k → l.getD j ByteArray.empty ≠ s) → l.getD k ByteArray.empty = s → idxS s l = k
  | [], k, h, _, _ => by simp at h
  | x :: l, 0, _, _, e => by
    unfold idxS
    rw [if_pos (by simpa using e)]
    rfl
  | x :: l, k + 1, h, hn, e => by
    have := idxS_at s l k (by simpa using h) (fun j hj => by have := hn (j + 1) (by omega); simpa using this) (by simpa using e)
    unfold idxS
    rw [if_neg (by have := hn 0 (by omega); simpa using this), this, if_neg (by omega)]
    omega
set_option maxHeartbeats 1000000 in
theorem inStr10 (v : Value) (l : List ByteArray) (s : ByteArray) (w : World) (hv : SL w v l) :
    Calls Try.prog 39 #[v, .string s] w fun r w' => r = .returned (.int .i64 (idxS s l)) ∧ Below w.heap.size w w' := by
  obtain ⟨l1, -, a1, c1, rfl, h1⟩ := hv
  unfold maxLen at l1
  have H1 : Hid (∀ i, i < l.length → ∃ b off, a1 = some ⟨b, off, none⟩ ∧ w.cell? ⟨b, off + i, none⟩ = some (cS (l.getD i ByteArray.empty))) := h1
  clear h1
  go_enter Try.func39, Try.ntmps39
  go_wp2_with fail
  go_loopw [5] (fun i wr => ∃ k : Nat, k ≤ l.length ∧ i = .int .i64 (k : Int) ∧ Hid (∀ j, j < k → l.getD j ByteArray.empty ≠ s) ∧ Below w.heap.size w wr) (fun i _ => l.length - (intOf i).toNat)
  case atStart => exact ⟨0, by omega, rfl, fun j hj => absurd hj (by omega), Below.refl _ _⟩
  case round =>
    obtain ⟨k, hk, rfl, HAll, hb⟩ := hrel
    by_cases hlt : k < l.length
    · have hlt' : (k : Int) < (l.length : Int) := by omega
      obtain ⟨b, off, rfl, hc⟩ := H1.out k hlt
      replace hc := (hb.cell (cell_lt' hc)).trans hc
      by_cases he : l.getD k ByteArray.empty = s
      · have HE : Hid (idxS s l = k) := idxS_at s l k hlt HAll.out he
        rw [he] at hc
        clear he
        have hq : (s.toList == s.toList) = true := beq_self_eq_true _
        go_wp2_with fail
        go_ret
        exact ⟨by rw [HE.out]; rfl, hb⟩
      · have HE : Hid (l.getD k ByteArray.empty ≠ s) := he
        generalize l.getD k ByteArray.empty = x at hc he
        have hq : (x.toList == s.toList) = false := by rw [beq_eq_false_iff_ne]; exact fun h => he (bytes_ij h)
        clear he
        go_wp2_with fail
        go_roundw
        case rel =>
          refine ⟨k + 1, by omega, by go_num, fun j hj => ?_, hb⟩
          rcases Nat.lt_or_ge j k with h | h
          · exact HAll.out j h
          · obtain rfl : j = k := by omega
            exact HE.out
        case measure => simp [intOf]; omega
    · have hlt' : ¬ (k : Int) < (l.length : Int) := by omega
      have HN : Hid (idxS s l = -1) := idxS_no s l fun x hx => by
        obtain ⟨j, hj, e⟩ := List.mem_iff_getElem.1 hx
        have := HAll.out j (by omega)
        rw [← e]
        simpa [hj] using this
      go_wp2_with fail
      go_ret
      exact ⟨by rw [HN.out]; rfl, hb⟩
end Go.Proofs.Ytjbhegakgdcldaa

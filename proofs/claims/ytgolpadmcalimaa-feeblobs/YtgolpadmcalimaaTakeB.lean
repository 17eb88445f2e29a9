import Derived.Test.YtgolpadmcalimaaTakeM
import Derived.Test.YtgolpadmcalimaaWakes
import Derived.Laws.Bits64b
set_option linter.unusedSimpArgs false
set_option linter.unusedVariables false
namespace Go.Proofs.Ytgolpadmcalimaa
open Go.RowKit

theorem idx_str (s : ByteArray) (i : Int) (j : Nat) (hj : j < s.size) (e : i = j) (w : World) : (Instr.index 9 (.string s) (.int .i64 i)).run Try.prog w = .ok (.int .u8 (s[j].toNat : Int)) w := by
  subst e
  rw [run_index_string w 9 s .i64 j Try.underlying9, dif_pos ⟨by omega, by omega⟩]
  rfl
theorem or_byte (m c k : Nat) (hk : k < 32) (hc : c < 256) (h0 : by8 m k = 0) : Go.bits BinOp.or IntKind.u64 (lb m (k / 8)) (IntKind.u64.wrap (IntKind.u64.wrap (c : Int) * 2 ^ (8 * (k % 8)))) = lb m (k / 8) + c * 2 ^ (8 * (k % 8)) := by
  have h1 := by8_eq m k hk
  rw [h0] at h1
  have hb := lb_bd m (k / 8)
  obtain ⟨a, ha⟩ := Int.eq_ofNat_of_zero_le hb.1
  rw [ha] at h1 hb ⊢
  have hr : k % 8 < 8 := Nat.mod_lt _ (by omega)
  generalize k % 8 = r at *
  have e1 : IntKind.u64.wrap (c : Int) = c := by rw [IntKind.wrap_u64]; omega
  have e2 : (c : Int) * 2 ^ (8 * r) = ((c * 2 ^ (8 * r) : Nat) : Int) := by push_cast; rfl
  have h3 : a / 2 ^ (8 * r) % 256 = 0 := by
    have h7 : ((a / 2 ^ (8 * r) % 256 : Nat) : Int) = 0 := by rw [Int.natCast_emod, Int.natCast_ediv, Int.natCast_pow]; exact h1
    omega
  have h4 : c * 2 ^ (8 * r) < 18446744073709551616 := by
    have h5 : (2 : Nat) ^ (8 * r) ≤ 2 ^ 56 := Nat.pow_le_pow_right (by omega) (by omega)
    have h6 : c * 2 ^ (8 * r) ≤ 255 * 2 ^ 56 := Nat.mul_le_mul (by omega) h5
    omega
  rw [e1, e2]
  generalize hy : c * 2 ^ (8 * r) = y at *
  have e3 : IntKind.u64.wrap (y : Int) = y := by rw [IntKind.wrap_u64]; omega
  rw [e3, bits_or_u64_nat a y (by omega) h4, ← hy, or_add a c r hc h3]
  push_cast
  rfl
theorem byte_lt (b : UInt8) : b.toNat < 256 := b.toNat_lt
theorem data_len (s : ByteArray) : s.data.toList.length = s.size := rfl
/-- One byte more from the end on. -/
theorem drop_step (s : ByteArray) (k : Nat) (h : k < s.size) : takeV (s.data.toList.drop (s.size - (k + 1))) = takeV (s.data.toList.drop (s.size - k)) + s[s.size - 1 - k].toNat * 2 ^ (8 * k) := by
  have e : s.size - (k + 1) = s.size - 1 - k := by omega
  rw [e, List.drop_eq_getElem_cons (by rw [data_len]; omega), takeV_cons]
  have e2 : s.size - 1 - k + 1 = s.size - k := by omega
  have e3 : (s.data.toList.drop (s.size - k)).length = k := by rw [List.length_drop, data_len]; omega
  rw [e2, e3, Nat.add_comm]
  rfl
theorem drop_lt (s : ByteArray) (k : Nat) (h : k ≤ s.size) : takeV (s.data.toList.drop (s.size - k)) < 2 ^ (8 * k) := by
  have := takeV_lt (s.data.toList.drop (s.size - k))
  rw [List.length_drop, data_len, show s.size - (s.size - k) = k by omega] at this
  exact this
theorem ne_of_size (s : ByteArray) (hp : 0 < s.size) : ¬ s.toList = [] := by
  intro h
  rw [ByteArray.toList_eq] at h
  have := congrArg List.length h
  simp at this
  rw [this] at hp
  simp at hp
theorem takeV_sM (s : ByteArray) (h : s.size ≤ 32) : takeV s.data.toList < M256 := takeV_M _ (by rw [data_len]; exact h)
end Go.Proofs.Ytgolpadmcalimaa

import Derived.Test.YtliaegnhnnnojaaText
import Derived.Test.YtliaegnhnnnojaaSml
import Derived.Laws.Bits64b
set_option linter.unusedSimpArgs false
set_option linter.unusedVariables false
namespace Go.Proofs.Ytliaegnhnnnojaa
open Go.RowKit

/-! Which number some bytes are. -/
def takeV (l : List UInt8) : Nat := l.foldl (fun a b => a * 256 + b.toNat) 0
theorem foldl_take (l : List UInt8) (a : Nat) : l.foldl (fun a b => a * 256 + b.toNat) a = a * 2 ^ (8 * l.length) + takeV l := by
  induction l generalizing a with
  | nil => simp [takeV]
  | cons b t ih =>
    unfold takeV
    rw [List.foldl_cons, List.foldl_cons, ih, ih]
    simp only [Nat.zero_mul, Nat.zero_add, List.length_cons, Nat.mul_add, Nat.pow_add, Nat.add_mul, Nat.mul_one]
    have : a * 256 * 2 ^ (8 * t.length) = a * (2 ^ (8 * t.length) * 2 ^ 8) := by rw [Nat.mul_assoc, Nat.mul_comm 256]
    omega
theorem takeV_cons (b : UInt8) (t : List UInt8) : takeV (b :: t) = b.toNat * 2 ^ (8 * t.length) + takeV t := by
  have := foldl_take t b.toNat
  unfold takeV
  rw [List.foldl_cons]
  simp only [Nat.zero_mul, Nat.zero_add]
  exact this
theorem takeV_snoc (t : List UInt8) (b : UInt8) : takeV (t ++ [b]) = takeV t * 256 + b.toNat := by
  simp [takeV]
theorem takeV_lt (l : List UInt8) : takeV l < 2 ^ (8 * l.length) := by
  induction l with
  | nil => simp [takeV]
  | cons b t ih =>
    rw [takeV_cons, List.length_cons, Nat.mul_add, Nat.pow_add]
    have hb := b.toNat_lt
    have : (b.toNat + 1) * 2 ^ (8 * t.length) ≤ 256 * 2 ^ (8 * t.length) := Nat.mul_le_mul_right _ (by omega)
    rw [Nat.add_mul] at this
    omega
theorem takeV_M (l : List UInt8) (h : l.length ≤ 32) : takeV l < M256 := by
  have h1 := takeV_lt l
  have h2 : (2 : Nat) ^ (8 * l.length) ≤ 2 ^ 256 := Nat.pow_le_pow_right (by omega) (by omega)
  have h3 : (2 : Nat) ^ 256 = M256 := by decide
  omega
/-- A byte into bits that are 0. -/
theorem or_add (a c r : Nat) (hc : c < 256) (ha : a / 2 ^ (8 * r) % 256 = 0) : a ||| c * 2 ^ (8 * r) = a + c * 2 ^ (8 * r) := by
  have hp := Nat.two_pow_pos (8 * r)
  have h1 : a = 2 ^ (8 * r + 8) * (a / 2 ^ (8 * r + 8)) + a % 2 ^ (8 * r) := by
    have e1 : a / 2 ^ (8 * r) = 256 * (a / 2 ^ (8 * r) / 256) := by omega
    have e2 : a / 2 ^ (8 * r) / 256 = a / 2 ^ (8 * r + 8) := by rw [Nat.div_div_eq_div_mul, Nat.pow_add]
    have e3 := Nat.div_add_mod a (2 ^ (8 * r))
    rw [e1, e2, ← Nat.mul_assoc] at e3
    have e4 : (2 : Nat) ^ (8 * r + 8) = 2 ^ (8 * r) * 256 := by rw [Nat.pow_add]
    rw [← e4] at e3
    exact e3.symm
  have hlo : a % 2 ^ (8 * r) < 2 ^ (8 * r) := Nat.mod_lt _ hp
  generalize a / 2 ^ (8 * r + 8) = hi at h1
  generalize a % 2 ^ (8 * r) = lo at h1 hlo
  subst h1
  have hlo2 : lo < 2 ^ (8 * r + 8) := by rw [Nat.pow_add]; omega
  have h2 : 2 ^ (8 * r) * c + lo < 2 ^ (8 * r + 8) := by
    rw [Nat.pow_add]
    have : 2 ^ (8 * r) * (c + 1) ≤ 2 ^ (8 * r) * 2 ^ 8 := Nat.mul_le_mul_left _ (by omega)
    rw [Nat.mul_add] at this
    omega
  rw [Nat.two_pow_add_eq_or_of_lt hlo2, Nat.or_assoc, Nat.or_comm lo, Nat.mul_comm c, ← Nat.two_pow_add_eq_or_of_lt hlo, ← Nat.two_pow_add_eq_or_of_lt h2, ← Nat.two_pow_add_eq_or_of_lt hlo2]
  omega
theorem by8_low (m k : Nat) (h : m < 2 ^ (8 * k)) : by8 m k = 0 := by
  unfold by8
  rw [Nat.div_eq_of_lt h]; rfl
theorem by8_high (t k : Nat) : by8 (t * 2 ^ (8 * (k + 1))) k = 0 := by
  unfold by8
  rw [Nat.mul_add, Nat.pow_add]
  have : t * (2 ^ (8 * k) * 2 ^ (8 * 1)) / 2 ^ (8 * k) = t * 2 ^ (8 * 1) := by
    rw [Nat.mul_comm (2 ^ (8 * k)), ← Nat.mul_assoc]
    exact Nat.mul_div_cancel _ (Nat.two_pow_pos _)
  rw [this]
  omega
/-- A limb, with a byte more. -/
theorem limb_byte (m c k : Nat) (hm : m + c * 2 ^ (8 * k) < M256) (hk : k < 32) (hc : c < 256) (h0 : by8 m k = 0) :
    (A4 (lb m 0) (lb m 1) (lb m 2) (lb m 3)).setIfInBounds (k / 8) (.int .u64 (lb m (k / 8) + c * 2 ^ (8 * (k % 8)))) = A4 (lb (m + c * 2 ^ (8 * k)) 0) (lb (m + c * 2 ^ (8 * k)) 1) (lb (m + c * 2 ^ (8 * k)) 2) (lb (m + c * 2 ^ (8 * k)) 3) := by
  have h1 := by8_eq m k hk
  rw [h0] at h1
  have hb := lb_bd m (k / 8)
  have hmM : m < M256 := by omega
  have hv := lb_val m hmM
  have hl := lb_lim m
  have ek : 8 * k = 64 * (k / 8) + 8 * (k % 8) := by omega
  have hr : k % 8 < 8 := Nat.mod_lt _ (by omega)
  have hq : k / 8 = 0 ∨ k / 8 = 1 ∨ k / 8 = 2 ∨ k / 8 = 3 := by omega
  rw [ek, Nat.pow_add]
  generalize k % 8 = r at *
  generalize k / 8 = q at *
  have hr8 : r = 0 ∨ r = 1 ∨ r = 2 ∨ r = 3 ∨ r = 4 ∨ r = 5 ∨ r = 6 ∨ r = 7 := by omega
  have hlt : lb m q + c * 2 ^ (8 * r) < 18446744073709551616 := by
    rcases hr8 with rfl | rfl | rfl | rfl | rfl | rfl | rfl | rfl <;> simp only [Nat.reduceMul, Int.reducePow, Nat.mul_zero, Int.pow_zero] at h1 ⊢ <;> omega
  have hnn : 0 ≤ (c : Int) * 2 ^ (8 * r) := Int.mul_nonneg (by omega) (Int.le_of_lt (Int.pow_pos (by omega)))
  have hcast : ((c * 2 ^ (8 * r) : Nat) : Int) = (c : Int) * 2 ^ (8 * r) := by push_cast; rfl
  generalize hy : (c : Int) * 2 ^ (8 * r) = y at *
  generalize hyn : c * 2 ^ (8 * r) = yn at *
  have key : ∀ x0 x1 x2 x3 : Int, Lim x0 x1 x2 x3 → val x0 x1 x2 x3 = ((m + c * (2 ^ (64 * q) * 2 ^ (8 * r)) : Nat) : Int) → A4 x0 x1 x2 x3 = A4 (lb (m + c * (2 ^ (64 * q) * 2 ^ (8 * r))) 0) (lb (m + c * (2 ^ (64 * q) * 2 ^ (8 * r))) 1) (lb (m + c * (2 ^ (64 * q) * 2 ^ (8 * r))) 2) (lb (m + c * (2 ^ (64 * q) * 2 ^ (8 * r))) 3) := by
    intro x0 x1 x2 x3 h5 h6
    obtain ⟨e0, e1, e2, e3⟩ := lb_of _ _ _ _ _ h5 h6
    rw [← e0, ← e1, ← e2, ← e3]
  have hmul : c * (2 ^ (64 * q) * 2 ^ (8 * r)) = 2 ^ (64 * q) * yn := by rw [← hyn, Nat.mul_left_comm]
  rcases hq with rfl | rfl | rfl | rfl
  · refine Eq.trans ?_ (key (lb m 0 + y) (lb m 1) (lb m 2) (lb m 3) ?_ ?_)
    · rfl
    · unfold Lim at *; omega
    · rw [hmul]; unfold val at *; simp only [Nat.mul_zero, Nat.pow_zero]; omega
  · refine Eq.trans ?_ (key (lb m 0) (lb m 1 + y) (lb m 2) (lb m 3) ?_ ?_)
    · rfl
    · unfold Lim at *; omega
    · rw [hmul]; unfold val at *; simp only [Nat.reduceMul, Nat.reducePow]; omega
  · refine Eq.trans ?_ (key (lb m 0) (lb m 1) (lb m 2 + y) (lb m 3) ?_ ?_)
    · rfl
    · unfold Lim at *; omega
    · rw [hmul]; unfold val at *; simp only [Nat.reduceMul, Nat.reducePow]; omega
  · refine Eq.trans ?_ (key (lb m 0) (lb m 1) (lb m 2) (lb m 3 + y) ?_ ?_)
    · rfl
    · unfold Lim at *; omega
    · rw [hmul]; unfold val at *; simp only [Nat.reduceMul, Nat.reducePow]; omega
end Go.Proofs.Ytliaegnhnnnojaa

set_option linter.unusedSimpArgs false
set_option linter.unusedVariables false
namespace Go.Proofs.Ytliaegnhnnnojaa
open Go.RowKit

theorem idx_str (s : ByteArray) (i : Int) (j : Nat) (hj : j < s.size) (e : i = j) (w : World) : (Instr.index 9 (.string s) (.int .i64 i)).run Try.prog w = .ok (.int .u8 (s[j].toNat : Int)) w := by
  subst e
  rw [run_index_string w 9 s .i64 j Try.underlying9, dif_pos ⟨by omega, by omega⟩]
  rfl
theorem or_byte (m c k : Nat) (hk : k < 32) (hc : c < 256) (h0 : by8 m k = 0) : Go.bits BinOp.or IntKind.u64 (lb m (k / 8)) (IntKind.u64.wrap (IntKind.u64.wrap (c : Int) * 2 ^ (8 * (k % 8)))) = lb m (k / 8) + c * 2 ^ (8 * (k % 8)) := by
  have h1 := by8_eq m k hk
  rw [h0] at h1
  have hb := lb_bd m (k / 8)
  obtain ⟨a, ha⟩ := Int.eq_ofNat_of_zero_le hb.1
  rw [ha] at h1 hb ⊢
  have hr : k % 8 < 8 := Nat.mod_lt _ (by omega)
  generalize k % 8 = r at *
  have e1 : IntKind.u64.wrap (c : Int) = c := by rw [IntKind.wrap_u64]; omega
  have e2 : (c : Int) * 2 ^ (8 * r) = ((c * 2 ^ (8 * r) : Nat) : Int) := by push_cast; rfl
  have h3 : a / 2 ^ (8 * r) % 256 = 0 := by
    have h7 : ((a / 2 ^ (8 * r) % 256 : Nat) : Int) = 0 := by rw [Int.natCast_emod, Int.natCast_ediv, Int.natCast_pow]; exact h1
    omega
  have h4 : c * 2 ^ (8 * r) < 18446744073709551616 := by
    have h5 : (2 : Nat) ^ (8 * r) ≤ 2 ^ 56 := Nat.pow_le_pow_right (by omega) (by omega)
    have h6 : c * 2 ^ (8 * r) ≤ 255 * 2 ^ 56 := Nat.mul_le_mul (by omega) h5
    omega
  rw [e1, e2]
  generalize hy : c * 2 ^ (8 * r) = y at *
  have e3 : IntKind.u64.wrap (y : Int) = y := by rw [IntKind.wrap_u64]; omega
  rw [e3, bits_or_u64_nat a y (by omega) h4, ← hy, or_add a c r hc h3]
  push_cast
  rfl
theorem byte_lt (b : UInt8) : b.toNat < 256 := b.toNat_lt
theorem data_len (s : ByteArray) : s.data.toList.length = s.size := rfl
/-- One byte more from the end on. -/
theorem drop_step (s : ByteArray) (k : Nat) (h : k < s.size) : takeV (s.data.toList.drop (s.size - (k + 1))) = takeV (s.data.toList.drop (s.size - k)) + s[s.size - 1 - k].toNat * 2 ^ (8 * k) := by
  have e : s.size - (k + 1) = s.size - 1 - k := by omega
  rw [e, List.drop_eq_getElem_cons (by rw [data_len]; omega), takeV_cons]
  have e2 : s.size - 1 - k + 1 = s.size - k := by omega
  have e3 : (s.data.toList.drop (s.size - k)).length = k := by rw [List.length_drop, data_len]; omega
  rw [e2, e3, Nat.add_comm]
  rfl
theorem drop_lt (s : ByteArray) (k : Nat) (h : k ≤ s.size) : takeV (s.data.toList.drop (s.size - k)) < 2 ^ (8 * k) := by
  have := takeV_lt (s.data.toList.drop (s.size - k))
  rw [List.length_drop, data_len, show s.size - (s.size - k) = k by omega] at this
  exact this
theorem ne_of_size (s : ByteArray) (hp : 0 < s.size) : ¬ s.toList = [] := by
  intro h
  rw [ByteArray.toList_eq] at h
  have := congrArg List.length h
  simp at this
  rw [this] at hp
  simp at hp
theorem takeV_sM (s : ByteArray) (h : s.size ≤ 32) : takeV s.data.toList < M256 := takeV_M _ (by rw [data_len]; exact h)
end Go.Proofs.Ytliaegnhnnnojaa

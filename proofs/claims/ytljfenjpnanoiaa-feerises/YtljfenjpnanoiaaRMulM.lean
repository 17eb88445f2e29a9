import Derived.Test.YtljfenjpnanoiaaMulM
import Derived.Test.YtljfenjpnanoiaaTakeB
set_option linter.unusedSimpArgs false
set_option linter.unusedVariables false
namespace Go.Proofs.Ytljfenjpnanoiaa
open Go.RowKit

/-! The page's own products: digits of 32 bits. -/
def d32 (i : Nat) : Nat := 2 ^ (32 * i)
theorem d32_pos (i : Nat) : 0 < d32 i := Nat.two_pow_pos _
theorem d32_succ (i : Nat) : d32 (i + 1) = d32 i * 4294967296 := by unfold d32; rw [Nat.mul_add, Nat.pow_add]
theorem d32_add (i j : Nat) : d32 (i + j) = d32 i * d32 j := by unfold d32; rw [Nat.mul_add, Nat.pow_add]
theorem d32_8 : d32 8 = M256 := by decide
def dg (n i : Nat) : Nat := n / d32 i % 4294967296
theorem dg_lt (n i : Nat) : dg n i < 4294967296 := Nat.mod_lt _ (by omega)
theorem dmod_succ (n i : Nat) : n % d32 (i + 1) = n % d32 i + dg n i * d32 i := by
  unfold dg; rw [d32_succ, Nat.mod_mul, Nat.mul_comm (d32 i)]
/-- The number of some digits, the lowest first. -/
def valD : List Nat → Nat
  | [] => 0
  | d :: t => d + 4294967296 * valD t
theorem valD_set (L : List Nat) (p v : Nat) (hp : p < L.length) : valD (L.set p v) + L[p] * d32 p = valD L + v * d32 p := by
  induction L generalizing p with
  | nil => simp at hp
  | cons d t ih =>
    cases p with
    | zero => simp [valD, d32]; omega
    | succ p =>
      have hp' : p < t.length := by simpa using hp
      have := ih p hp'
      simp only [List.set_cons_succ, valD, List.getElem_cons_succ, d32_succ]
      have e1 : t[p] * (d32 p * 4294967296) = 4294967296 * (t[p] * d32 p) := by rw [← Nat.mul_assoc, Nat.mul_comm]
      have e2 : v * (d32 p * 4294967296) = 4294967296 * (v * d32 p) := by rw [← Nat.mul_assoc, Nat.mul_comm]
      rw [e1, e2]
      omega
theorem valD_ge (L : List Nat) (p : Nat) (hp : p < L.length) : L[p] * d32 p ≤ valD L := by
  have := valD_set L p 0 hp
  omega
theorem valD_take (L : List Nat) (p : Nat) (hp : p < L.length) : valD (L.take (p + 1)) = valD (L.take p) + L[p] * d32 p := by
  induction L generalizing p with
  | nil => simp at hp
  | cons d t ih =>
    cases p with
    | zero => simp [valD, d32]
    | succ p =>
      have hp' : p < t.length := by simpa using hp
      have := ih p hp'
      simp only [List.take_succ_cons, valD, List.getElem_cons_succ, d32_succ]
      rw [this]
      have e1 : t[p] * (d32 p * 4294967296) = 4294967296 * (t[p] * d32 p) := by rw [← Nat.mul_assoc, Nat.mul_comm]
      rw [e1]
      omega
theorem valD_zero (L : List Nat) (h : ∀ d ∈ L, d = 0) : valD L = 0 := by
  induction L with
  | nil => rfl
  | cons d t ih =>
    have h1 := h d (by simp)
    have h2 := ih (fun x hx => h x (by simp [hx]))
    simp [valD, h1, h2]
theorem valD_append (a b : List Nat) : valD (a ++ b) = valD a + d32 a.length * valD b := by
  induction a with
  | nil => simp [valD, d32]
  | cons d t ih =>
    simp only [List.cons_append, valD, ih, List.length_cons, d32_succ]
    rw [Nat.mul_add, ← Nat.mul_assoc, Nat.mul_comm 4294967296 (d32 t.length)]
    omega
theorem valD_lt (L : List Nat) (h : ∀ d ∈ L, d < 4294967296) : valD L < d32 L.length := by
  induction L with
  | nil => simp [valD, d32]
  | cons d t ih =>
    have h1 := h d (by simp)
    have h2 := ih (fun x hx => h x (by simp [hx]))
    simp only [valD, List.length_cons, d32_succ]
    omega
/-- What stands when k digits of the i-th row are done. -/
def RRow (i k n m : Nat) (L : List Nat) (c : Nat) : Prop :=
  L.length = 16 ∧ (∀ d ∈ L, d < 4294967296) ∧ (∀ p (h : p < L.length), i + 8 ≤ p → L[p] = 0) ∧ c < 4294967296 ∧
    valD L + c * d32 (i + k) = n % d32 i * m + dg n i * (m % d32 k) * d32 i
theorem rrow_start (i n m : Nat) (L : List Nat) (h1 : L.length = 16) (h2 : ∀ d ∈ L, d < 4294967296) (h3 : ∀ p (h : p < L.length), i + 8 ≤ p → L[p] = 0) (h : valD L = n % d32 i * m) : RRow i 0 n m L 0 := by
  refine ⟨h1, h2, h3, by omega, ?_⟩
  have e : d32 0 = 1 := rfl
  rw [h, e, Nat.mod_one]; simp
theorem mem_set {L : List Nat} {p v : Nat} (h : ∀ d ∈ L, d < 4294967296) (hv : v < 4294967296) : ∀ d ∈ L.set p v, d < 4294967296 := by
  intro d hd
  rcases List.mem_or_eq_of_mem_set hd with h1 | h1
  · exact h d h1
  · omega
theorem rrow_step (i k n m : Nat) (L : List Nat) (c : Nat) (hi : i < 8) (hk : k < 8) (h : RRow i k n m L c) (hp : i + k < L.length) :
    RRow i (k + 1) n m (L.set (i + k) ((L[i + k] + dg n i * dg m k + c) % 4294967296)) ((L[i + k] + dg n i * dg m k + c) / 4294967296) := by
  obtain ⟨h1, h2, h3, h4, h5⟩ := h
  have hd := h2 L[i + k] (List.getElem_mem hp)
  have ha := dg_lt n i
  have hb := dg_lt m k
  have hab : dg n i * dg m k ≤ 4294967295 * 4294967295 := Nat.mul_le_mul (by omega) (by omega)
  refine ⟨by simp [h1], mem_set h2 (Nat.mod_lt _ (by omega)), ?_, by omega, ?_⟩
  · intro p hp' hge
    rw [List.getElem_set_ne (by omega)]
    exact h3 p (by simpa using hp') hge
  · have hs := valD_set L (i + k) ((L[i + k] + dg n i * dg m k + c) % 4294967296) hp
    rw [show i + (k + 1) = i + k + 1 by omega, d32_succ, dmod_succ m k]
    have e1 : dg n i * (m % d32 k + dg m k * d32 k) * d32 i = dg n i * (m % d32 k) * d32 i + dg n i * dg m k * d32 (i + k) := by
      rw [d32_add, Nat.mul_add, Nat.add_mul, Nat.mul_assoc (dg n i) (dg m k), Nat.mul_comm (d32 i), Nat.mul_assoc (dg n i) (dg m k * d32 k), Nat.mul_assoc (dg m k)]
    rw [e1, ← Nat.add_assoc, ← h5]
    generalize valD (L.set (i + k) ((L[i + k] + dg n i * dg m k + c) % 4294967296)) = X at *
    generalize L[i + k] = l at *
    generalize dg n i * dg m k = t at *
    generalize d32 (i + k) = q at *
    have hT : (l + t + c) % 4294967296 + (l + t + c) / 4294967296 * 4294967296 = l + t + c := by omega
    have hTq := congrArg (· * q) hT
    simp only [Nat.add_mul] at hTq
    have e2 : (l + t + c) / 4294967296 * (q * 4294967296) = (l + t + c) / 4294967296 * 4294967296 * q := by rw [Nat.mul_assoc, Nat.mul_comm q]
    rw [e2]
    generalize (l + t + c) % 4294967296 * q = z1 at *
    generalize (l + t + c) / 4294967296 * 4294967296 * q = z2 at *
    generalize l * q = z3 at *
    generalize t * q = z4 at *
    generalize c * q = z5 at *
    omega
theorem rrow_end (i n m : Nat) (L : List Nat) (c : Nat) (hi : i < 8) (hm : m < M256) (h : RRow i 8 n m L c) :
    (L.set (i + 8) c).length = 16 ∧ (∀ d ∈ L.set (i + 8) c, d < 4294967296) ∧ (∀ p (h : p < (L.set (i + 8) c).length), i + 1 + 8 ≤ p → (L.set (i + 8) c)[p] = 0) ∧ valD (L.set (i + 8) c) = n % d32 (i + 1) * m := by
  obtain ⟨h1, h2, h3, h4, h5⟩ := h
  refine ⟨by simp [h1], mem_set h2 h4, ?_, ?_⟩
  · intro p hp hge
    rw [List.getElem_set_ne (by omega)]
    exact h3 p (by simpa using hp) (by omega)
  · have hs := valD_set L (i + 8) c (by omega)
    rw [h3 (i + 8) (by omega) (by omega), Nat.zero_mul, Nat.add_zero] at hs
    rw [hs, h5, d32_8, Nat.mod_eq_of_lt hm, dmod_succ, Nat.add_mul, Nat.mul_assoc (dg n i) m, Nat.mul_comm m (d32 i), ← Nat.mul_assoc]
/-- A field of bits into bits that are 0. -/
theorem or_field (a c s wd : Nat) (hc : c < 2 ^ wd) (ha : a / 2 ^ s % 2 ^ wd = 0) : a ||| c * 2 ^ s = a + c * 2 ^ s := by
  have hp := Nat.two_pow_pos s
  have hw := Nat.two_pow_pos wd
  have h1 : a = 2 ^ (s + wd) * (a / 2 ^ (s + wd)) + a % 2 ^ s := by
    have e1 : a / 2 ^ s = 2 ^ wd * (a / 2 ^ s / 2 ^ wd) := by have := Nat.div_add_mod (a / 2 ^ s) (2 ^ wd); omega
    have e2 : a / 2 ^ s / 2 ^ wd = a / 2 ^ (s + wd) := by rw [Nat.div_div_eq_div_mul, Nat.pow_add]
    have e3 := Nat.div_add_mod a (2 ^ s)
    rw [e1, e2, ← Nat.mul_assoc, ← Nat.pow_add] at e3
    exact e3.symm
  have hlo : a % 2 ^ s < 2 ^ s := Nat.mod_lt _ hp
  generalize a / 2 ^ (s + wd) = hi at h1
  generalize a % 2 ^ s = lo at h1 hlo
  subst h1
  have hlo2 : lo < 2 ^ (s + wd) := by
    have : 2 ^ s ≤ 2 ^ (s + wd) := Nat.pow_le_pow_right (by omega) (by omega)
    omega
  have h2 : 2 ^ s * c + lo < 2 ^ (s + wd) := by
    rw [Nat.pow_add]
    have : 2 ^ s * (c + 1) ≤ 2 ^ s * 2 ^ wd := Nat.mul_le_mul_left _ (by omega)
    rw [Nat.mul_add] at this
    omega
  rw [Nat.two_pow_add_eq_or_of_lt hlo2, Nat.or_assoc, Nat.or_comm lo, Nat.mul_comm c, ← Nat.two_pow_add_eq_or_of_lt hlo, ← Nat.two_pow_add_eq_or_of_lt h2, ← Nat.two_pow_add_eq_or_of_lt hlo2]
  omega
/-- Half a limb more. -/
theorem half_step (X c i : Nat) (hi : i < 8) (hX : X < d32 i) (hc : c < 4294967296) :
    (A4 (lb X 0) (lb X 1) (lb X 2) (lb X 3)).setIfInBounds (i / 2) (.int .u64 (Go.bits BinOp.or IntKind.u64 (lb X (i / 2)) (IntKind.u64.wrap ((c : Int) * 2 ^ (32 * (i % 2)))))) = A4 (lb (X + c * d32 i) 0) (lb (X + c * d32 i) 1) (lb (X + c * d32 i) 2) (lb (X + c * d32 i) 3) := by
  have hX8 : X < M256 := by
    have : d32 i ≤ d32 8 := by unfold d32; exact Nat.pow_le_pow_right (by omega) (by omega)
    rw [d32_8] at this; omega
  have hl : lb X (i / 2) = ((X / q64 (i / 2) % 18446744073709551616 : Nat) : Int) := rfl
  have hr : i % 2 = 0 ∨ i % 2 = 1 := by omega
  have hd : d32 i = q64 (i / 2) * 2 ^ (32 * (i % 2)) := by unfold d32 q64; rw [← Nat.pow_add]; congr 1; omega
  have hpow : (2 : Nat) ^ (32 * (i % 2)) = 1 ∨ (2 : Nat) ^ (32 * (i % 2)) = 4294967296 := by rcases hr with e | e <;> rw [e] <;> simp
  have hcast : (c : Int) * 2 ^ (32 * (i % 2)) = ((c * 2 ^ (32 * (i % 2)) : Nat) : Int) := by rw [Int.natCast_mul, Int.natCast_pow]; rfl
  have hlt : c * 2 ^ (32 * (i % 2)) < 18446744073709551616 := by rcases hpow with e | e <;> rw [e] <;> omega
  have hdiv : X / q64 (i / 2) < 2 ^ (32 * (i % 2)) := by
    rw [Nat.div_lt_iff_lt_mul (q64_pos _), Nat.mul_comm, ← hd]; exact hX
  have hw : IntKind.u64.wrap ((c : Int) * 2 ^ (32 * (i % 2))) = ((c * 2 ^ (32 * (i % 2)) : Nat) : Int) := by rw [hcast, IntKind.wrap_u64]; omega
  have hmod : X / q64 (i / 2) % 18446744073709551616 = X / q64 (i / 2) := Nat.mod_eq_of_lt (by rcases hpow with e | e <;> rw [e] at hdiv <;> omega)
  have hor : Go.bits BinOp.or IntKind.u64 (lb X (i / 2)) (IntKind.u64.wrap ((c : Int) * 2 ^ (32 * (i % 2)))) = lb X (i / 2) + ((c * 2 ^ (32 * (i % 2)) : Nat) : Int) := by
    rw [hw, hl, bits_or_u64_nat _ _ (Nat.mod_lt _ (by omega)) hlt, or_field _ c (32 * (i % 2)) 32 (by omega) ?_, Int.natCast_add]
    rw [hmod, Nat.div_eq_of_lt hdiv]
  rw [hor]
  have hb : 0 ≤ lb X (i / 2) + ((c * 2 ^ (32 * (i % 2)) : Nat) : Int) ∧ lb X (i / 2) + ((c * 2 ^ (32 * (i % 2)) : Nat) : Int) < 18446744073709551616 := by
    rw [hl, hmod]; rcases hpow with e | e <;> rw [e] at hdiv ⊢ <;> omega
  obtain ⟨P', hP', hset, hval⟩ := set_limb X (i / 2) _ (by omega) hb hX8
  rw [hset]
  have e : P' = X + c * d32 i := by
    rw [hd, Nat.mul_comm (q64 (i / 2)), ← Nat.mul_assoc]
    have : (P' : Int) = X + ((c * 2 ^ (32 * (i % 2)) * q64 (i / 2) : Nat) : Int) := by
      rw [hval, show lb X (i / 2) + ((c * 2 ^ (32 * (i % 2)) : Nat) : Int) - lb X (i / 2) = ((c * 2 ^ (32 * (i % 2)) : Nat) : Int) by omega, Int.natCast_mul (c * 2 ^ (32 * (i % 2)))]
    omega
  rw [e]
end Go.Proofs.Ytljfenjpnanoiaa

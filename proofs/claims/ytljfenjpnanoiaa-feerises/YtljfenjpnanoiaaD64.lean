import Derived.Test.YtljfenjpnanoiaaD64M
import Derived.Test.YtljfenjpnanoiaaLen
import Derived.Test.YtljfenjpnanoiaaMul64
import Derived.Deep.RegionWith
import Derived.Deep.DeepCutAuto
import Derived.Deep.CutBlock
set_option linter.unusedSimpArgs false
set_option linter.unusedVariables false
namespace Go.Proofs.Ytljfenjpnanoiaa
open Go.RowKit

theorem lz64 (x : Int) (w : World) (h0 : 0 ≤ x) (h1 : x ≤ 18446744073709551615) :
    Calls Try.prog 51 #[.int .u64 x] w fun e w' => e = .returned (.int .i64 (64 - (bl x.toNat : Int))) ∧ w' = w := by
  have hl : bl x.toNat ≤ 64 := (bl_iff _ _).2 (by omega)
  have he := fun w => len64 x w h0 h1
  rw [bitLen_bl x.toNat (by omega)] at he
  clear h0 h1
  go_enter Try.func51, Try.ntmps51
  go_wp2_with (go_at_call 42; refine (he _).mono ?_; rintro e w1 ⟨rfl, rfl⟩)
  go_ret
  exact ⟨rfl, rfl⟩
set_option maxRecDepth 100000 in
set_option maxHeartbeats 1000000 in
theorem div64_small (lo y : Nat) (w : World) (hl : lo < 18446744073709551616) (hy : 0 < y) :
    Calls Try.prog 44 #[.int .u64 0, .int .u64 lo, .int .u64 y] w fun e w' => e = .returned (.tuple #[.int .u64 (lo / y : Nat), .int .u64 (lo % y : Nat)]) ∧ ∃ n, w' = w.drewN n := by
  have h0 : ((y : Int) == 0) = false := by simp; omega
  have h1 : ¬ (y : Int) = 0 := by omega
  have h2 : ¬ (y : Int) ≤ 0 := by omega
  have HE : Hid (IntKind.u64.wrap ((lo : Int).tdiv (y : Int)) = ((lo / y : Nat) : Int)) := by
    have : lo / y ≤ lo := Nat.div_le_self _ _
    rw [Int.tdiv_eq_ediv_of_nonneg (by omega), ← Int.natCast_ediv, Hid, IntKind.wrap_u64]
    generalize lo / y = q at *
    omega
  clear hl
  go_enter Try.func44, Try.ntmps44
  go_wp2
  go_quiet (fail)
  go_wp2
  go_ret2
  refine ⟨?_, _, rfl⟩
  rw [← HE.out]
  rfl
/-- The words that Div64 works with. -/
structure DW (hi lo y s Y U L y1 y0 l1 l0 : Nat) : Prop where
  eY : IntKind.u64.wrap ((y : Int) * 2 ^ s) = (Y : Int)
  ey1 : (Y : Int) / 4294967296 = (y1 : Int)
  ey0 : Go.bits BinOp.and IntKind.u64 (Y : Int) 4294967295 = (y0 : Int)
  eU : Go.bits BinOp.or IntKind.u64 (IntKind.u64.wrap ((hi : Int) * 2 ^ s)) ((lo : Int) / 2 ^ (64 - s)) = (U : Int)
  eL : IntKind.u64.wrap ((lo : Int) * 2 ^ s) = (L : Int)
  el1 : (L : Int) / 4294967296 = (l1 : Int)
  el0 : Go.bits BinOp.and IntKind.u64 (L : Int) 4294967295 = (l0 : Int)
  vY : Y = y * 2 ^ s
  vU : (hi * 18446744073709551616 + lo) * 2 ^ s = U * 18446744073709551616 + L
  sY : Y = y1 * 4294967296 + y0
  sL : L = l1 * 4294967296 + l0
  b1 : 2147483648 ≤ y1 ∧ y1 < 4294967296
  b0 : y0 < 4294967296
  c1 : l1 < 4294967296
  c0 : l0 < 4294967296
  bU : U < Y
  bY : Y < 18446744073709551616
theorem dw_of (hi lo y s : Nat) (hl : lo < 18446744073709551616) (hy : hi < y) (hy2 : y < 18446744073709551616) (hs : s < 64) (hsb : (64 : Int) - (bl y : Int) = s) : ∃ Y U L y1 y0 l1 l0, DW hi lo y s Y U L y1 y0 l1 l0 := by
  have hp : 2 ^ (bl y) * 2 ^ s = 18446744073709551616 := by rw [← Nat.pow_add, show bl y + s = 64 by omega]
  have hp1 : 2 ^ (bl y - 1) * 2 ^ s = 9223372036854775808 := by rw [← Nat.pow_add, show bl y - 1 + s = 63 by omega]
  have hlt : y < 2 ^ bl y := (bl_iff y (bl y)).1 (Nat.le_refl _)
  have hge : 2 ^ (bl y - 1) ≤ y := by
    apply Nat.le_of_not_lt
    intro h
    have := (bl_iff y (bl y - 1)).2 h
    omega
  have hY1 : y * 2 ^ s < 18446744073709551616 := by rw [← hp]; exact Nat.mul_lt_mul_of_pos_right hlt (Nat.two_pow_pos s)
  have hY0 : 9223372036854775808 ≤ y * 2 ^ s := by rw [← hp1]; exact Nat.mul_le_mul_right _ hge
  have hup := k_hi hi lo s (by omega) hl
  have hUY : hi * 2 ^ s + lo / 2 ^ (64 - s) < y * 2 ^ s := by
    have a : (hi * 18446744073709551616 + lo) * 2 ^ s < (y * 18446744073709551616) * 2 ^ s := Nat.mul_lt_mul_of_pos_right (by omega) (Nat.two_pow_pos s)
    have b : (y * 18446744073709551616) * 2 ^ s = y * 2 ^ s * 18446744073709551616 := Nat.mul_right_comm _ _ _
    rw [hup, b] at a
    generalize hi * 2 ^ s + lo / 2 ^ (64 - s) = p at *
    generalize y * 2 ^ s = r at *
    generalize lo * 2 ^ s % 18446744073709551616 = t at *
    omega
  have hlo : lo / 2 ^ (64 - s) < 2 ^ s := by
    rw [Nat.div_lt_iff_lt_mul (Nat.two_pow_pos _), ← Nat.pow_add, show s + (64 - s) = 64 by omega]; exact hl
  have hpw : ∀ a : Nat, (a : Int) * 2 ^ s = ((a * 2 ^ s : Nat) : Int) := fun a => by rw [Int.natCast_mul, Int.natCast_pow]; rfl
  have hdv : (lo : Int) / 2 ^ (64 - s) = ((lo / 2 ^ (64 - s) : Nat) : Int) := by rw [Int.natCast_ediv, Int.natCast_pow]; rfl
  have hmod : lo * 2 ^ s % 18446744073709551616 < 18446744073709551616 := Nat.mod_lt _ (by omega)
  have or_e : Go.bits BinOp.or IntKind.u64 (IntKind.u64.wrap ((hi : Int) * 2 ^ s)) ((lo : Int) / 2 ^ (64 - s)) = ((hi * 2 ^ s + lo / 2 ^ (64 - s) : Nat) : Int) := by
    rw [hpw, hdv]
    have hw : IntKind.u64.wrap ((hi * 2 ^ s : Nat) : Int) = ((hi * 2 ^ s : Nat) : Int) := by
      rw [IntKind.wrap_u64]
      generalize hi * 2 ^ s = a at *
      generalize lo / 2 ^ (64 - s) = b at *
      generalize y * 2 ^ s = c at *
      omega
    have hor : (hi * 2 ^ s) ||| (lo / 2 ^ (64 - s)) = hi * 2 ^ s + lo / 2 ^ (64 - s) := by
      rw [Nat.mul_comm]; exact (Nat.two_pow_add_eq_or_of_lt hlo hi).symm
    rw [hw, bits_or_u64_nat _ _ (by generalize hi * 2 ^ s = a at *; generalize lo / 2 ^ (64 - s) = b at *; generalize y * 2 ^ s = c at *; omega) (by generalize hi * 2 ^ s = a at *; generalize lo / 2 ^ (64 - s) = b at *; generalize y * 2 ^ s = c at *; omega), hor]
  have wY : IntKind.u64.wrap ((y * 2 ^ s : Nat) : Int) = ((y * 2 ^ s : Nat) : Int) := by
    rw [IntKind.wrap_u64]; generalize y * 2 ^ s = c at *; omega
  have wL : IntKind.u64.wrap ((lo * 2 ^ s : Nat) : Int) = ((lo * 2 ^ s % 18446744073709551616 : Nat) : Int) := by
    rw [IntKind.wrap_u64]; generalize lo * 2 ^ s = c at *; omega
  refine ⟨y * 2 ^ s, hi * 2 ^ s + lo / 2 ^ (64 - s), lo * 2 ^ s % 18446744073709551616, y * 2 ^ s / 4294967296, y * 2 ^ s % 4294967296, lo * 2 ^ s % 18446744073709551616 / 4294967296, lo * 2 ^ s % 18446744073709551616 % 4294967296, ?_⟩
  have wY' : IntKind.u64.wrap ((y : Int) * 2 ^ s) = ((y * 2 ^ s : Nat) : Int) := by rw [hpw]; exact wY
  have wL' : IntKind.u64.wrap ((lo : Int) * 2 ^ s) = ((lo * 2 ^ s % 18446744073709551616 : Nat) : Int) := by rw [hpw]; exact wL
  clear wY wL hpw
  generalize hYe : y * 2 ^ s = Y at *
  generalize lo * 2 ^ s % 18446744073709551616 = L at *
  generalize hi * 2 ^ s + lo / 2 ^ (64 - s) = U at *
  exact { eY := wY', ey1 := by omega, ey0 := by rw [and32 _ (by omega)]; omega, eU := or_e, eL := wL', el1 := by omega, el0 := by rw [and32 _ (by omega)]; omega, vY := hYe.symm, vU := hup, sY := by omega, sL := by omega, b1 := by omega, b0 := by omega, c1 := by omega, c0 := by omega, bU := hUY, bY := hY1 }
theorem eQ64 (U y1 : Nat) (hU : U < 18446744073709551616) (h1 : 2147483648 ≤ y1) : IntKind.u64.wrap ((U : Int) / (y1 : Int)) = ((U / y1 : Nat) : Int) := by
  have : U / y1 ≤ U := Nat.div_le_self _ _
  rw [IntKind.wrap_u64, ← Int.natCast_ediv]
  generalize U / y1 = q at *
  omega
theorem eR64 (U y1 : Nat) (hU : U < 18446744073709551616) (h1 : 2147483648 ≤ y1) : IntKind.u64.wrap ((U : Int) - IntKind.u64.wrap (((U / y1 : Nat) : Int) * (y1 : Int))) = ((U % y1 : Nat) : Int) := by
  have hd : U / y1 * y1 + U % y1 = U := by rw [Nat.mul_comm]; exact Nat.div_add_mod U y1
  have e : ((U / y1 : Nat) : Int) * (y1 : Int) = ((U / y1 * y1 : Nat) : Int) := (Int.natCast_mul _ _).symm
  rw [e]
  generalize U / y1 * y1 = p at *
  generalize U % y1 = r at *
  simp only [IntKind.wrap_u64]; omega
theorem eM64 (a b : Nat) (ha : a ≤ 4294967296) (hb : b < 4294967296) : IntKind.u64.wrap ((a : Int) * (b : Int)) = ((a * b : Nat) : Int) ∧ a * b < 18446744073709551616 := by
  have h : a * b ≤ 4294967296 * b := Nat.mul_le_mul_right _ ha
  have e : (a : Int) * (b : Int) = ((a * b : Nat) : Int) := (Int.natCast_mul _ _).symm
  rw [e]
  generalize a * b = p at *
  simp only [IntKind.wrap_u64]; omega
theorem eX64 (U l1 q Y : Nat) (hY : Y < 18446744073709551616) (h : U * 4294967296 + l1 = q * Y + (U * 4294967296 + l1) % Y) (hp : 0 < Y) : IntKind.u64.wrap (IntKind.u64.wrap (IntKind.u64.wrap ((U : Int) * 4294967296) + (l1 : Int)) - IntKind.u64.wrap ((q : Int) * (Y : Int))) = (((U * 4294967296 + l1) % Y : Nat) : Int) := by
  have hm : (U * 4294967296 + l1) % Y < Y := Nat.mod_lt _ hp
  have e : (q : Int) * (Y : Int) = ((q * Y : Nat) : Int) := (Int.natCast_mul _ _).symm
  rw [e]
  generalize (U * 4294967296 + l1) % Y = r at *
  generalize q * Y = p at *
  simp only [IntKind.wrap_u64]; omega
theorem dw_end (hi lo y s Y U L y1 y0 l1 l0 : Nat) (hy : hi < y) (hy2 : y < 18446744073709551616) (hl : lo < 18446744073709551616) (h : DW hi lo y s Y U L y1 y0 l1 l0) (q1 q0 r0 : Nat) (e1 : q1 = (U * 4294967296 + l1) / Y) (e0 : q0 = ((U * 4294967296 + l1) % Y * 4294967296 + l0) / Y) (er : r0 = ((U * 4294967296 + l1) % Y * 4294967296 + l0) % Y) :
    IntKind.u64.wrap (IntKind.u64.wrap ((q1 : Int) * 4294967296) + (q0 : Int)) = ((hi * 18446744073709551616 + lo) / y : Nat) ∧ (r0 : Int) / 2 ^ s = ((hi * 18446744073709551616 + lo) % y : Nat) := by
  have hyp : 0 < y := by omega
  have hYp : 0 < Y := by have := h.bU; omega
  obtain ⟨a, b⟩ := k_two U l1 l0 Y q1 ((U * 4294967296 + l1) % Y) h.c0 hYp (k_left U l1 Y q1 e1)
  rw [← e0] at a
  rw [← er] at b
  have hN : U * 18446744073709551616 + l1 * 4294967296 + l0 = (hi * 18446744073709551616 + lo) * 2 ^ s := by rw [h.vU, h.sL, Nat.add_assoc]
  obtain ⟨u1, u2⟩ := k_up (hi * 18446744073709551616 + lo) y s hyp
  rw [hN, h.vY, u1] at a
  rw [hN, h.vY, u2] at b
  have hq : (hi * 18446744073709551616 + lo) / y < 18446744073709551616 := (Nat.div_lt_iff_lt_mul hyp).2 (by omega)
  refine ⟨?_, ?_⟩
  · rw [← a] at hq ⊢
    simp only [IntKind.wrap_u64]
    omega
  · rw [b]
    have : (((hi * 18446744073709551616 + lo) % y * 2 ^ s : Nat) : Int) / 2 ^ s = (((hi * 18446744073709551616 + lo) % y * 2 ^ s / 2 ^ s : Nat) : Int) := by rw [Int.natCast_ediv, Int.natCast_pow]; rfl
    rw [this, Nat.mul_div_cancel _ (Nat.two_pow_pos s)]
set_option maxRecDepth 100000 in
set_option maxHeartbeats 1000000 in
theorem div64_great (hi lo y : Nat) (w : World) (hh : 0 < hi) (hl : lo < 18446744073709551616) (hy : hi < y) (hy2 : y < 18446744073709551616) (s : Nat) (hs : s < 64) (hsb : (64 : Int) - (bl y : Int) = s) :
    Calls Try.prog 44 #[.int .u64 hi, .int .u64 lo, .int .u64 y] w fun e w' => e = .returned (.tuple #[.int .u64 ((hi * 18446744073709551616 + lo) / y : Nat), .int .u64 ((hi * 18446744073709551616 + lo) % y : Nat)]) ∧ w' = w := by
  have hz := fun w => lz64 y w (by omega) (by omega)
  rw [Int.toNat_natCast, hsb] at hz
  obtain ⟨Y, U, L, y1, y0, l1, l0, hD⟩ := dw_of hi lo y s hl hy hy2 hs hsb
  have HD : Hid (DW hi lo y s Y U L y1 y0 l1 l0) := hD
  have HF : Hid (∀ q1 q0 r0 : Nat, q1 = (U * 4294967296 + l1) / Y → q0 = ((U * 4294967296 + l1) % Y * 4294967296 + l0) / Y → r0 = ((U * 4294967296 + l1) % Y * 4294967296 + l0) % Y → IntKind.u64.wrap (IntKind.u64.wrap ((q1 : Int) * 4294967296) + (q0 : Int)) = ((hi * 18446744073709551616 + lo) / y : Nat) ∧ (r0 : Int) / 2 ^ s = ((hi * 18446744073709551616 + lo) % y : Nat)) := dw_end hi lo y s Y U L y1 y0 l1 l0 hy hy2 hl hD
  have h0 : ((y : Int) == 0) = false := by simp; omega
  have h0' : ((hi : Int) == 0) = false := by simp; omega
  have h1 : ¬ (y : Int) = 0 := by omega
  have h2 : ¬ (y : Int) ≤ (hi : Int) := by omega
  clear hl hy2 hsb hD
  go_enter Try.func44, Try.ntmps44
  go_upto_region 15 with (go_at_call 51; refine (hz _).mono ?_; rintro e w1 ⟨rfl, rfl⟩)
  rw [HD.out.eY, HD.out.ey1, HD.out.ey0, HD.out.eU, HD.out.eL, HD.out.el1, HD.out.el0]
  have hy1 : 2147483648 ≤ (y1 : Int) := by have := HD.out.b1; omega
  have hy1' : (y1 : Int) < 4294967296 := by have := HD.out.b1; omega
  have hy1z : ¬ (y1 : Int) = 0 := by omega
  have hy1b : ((y1 : Int) == 0) = false := by simp; omega
  go_upto_block 0 with fail
  have hU64 : U < 18446744073709551616 := by have := HD.out.bU; have := HD.out.bY; omega
  rw [eQ64 U y1 hU64 HD.out.b1.1, eR64 U y1 hU64 HD.out.b1.1]
  have hst : Hid (KInv U l1 y1 y0 (U / y1) (U % y1) ∧ U % y1 < 4294967296) := k_start U l1 y1 y0 HD.out.b1.1 HD.out.b1.2 HD.out.b0 (by have := HD.out.bU; have := HD.out.sY; omega) HD.out.c1
  clear hU64
  go_cut [15, 16] (fun q r wx => ∃ Q : Nat, q = .int .u64 (Q : Int) ∧ Q = (U * 4294967296 + l1) / (y1 * 4294967296 + y0) ∧ wx = w1)
  case first =>
    go_wp2_with fail
    go_loop [15, 16] (fun q r => ∃ Q R : Nat, q = .int .u64 (Q : Int) ∧ r = .int .u64 (R : Int) ∧ KInv U l1 y1 y0 Q R ∧ R < 4294967296) (fun q _ => (intOf q).toNat)
    case atStart => exact ⟨_, _, rfl, rfl, hst.out.1, hst.out.2⟩
    case round =>
      obtain ⟨Q, R, rfl, rfl, hK, hR⟩ := hrel
      have HK : Hid (KInv U l1 y1 y0 Q R) := hK
      have hQb : (Q : Int) ≤ 4294967297 := by have := hK.2.1; omega
      clear hK
      by_cases hq : 4294967296 ≤ (Q : Int)
      · have ho := k_over HD.out.b1.1 HD.out.b0 (by have := HD.out.bU; have := HD.out.sY; omega) HD.out.c1 HK.out (.inl (by omega))
        have Ho : Hid (1 ≤ Q ∧ KInv U l1 y1 y0 (Q - 1) (R + y1) ∧ Q - 1 ≤ 4294967296) := ho
        clear ho
        by_cases hb : 4294967296 ≤ (R : Int) + (y1 : Int)
        · go_wp2
          go_meet
          case rel => exact ⟨Q - 1, by go_num, k_break HD.out.b1.1 HD.out.b0 Ho.out.2.1 Ho.out.2.2 (by omega), rfl⟩
        · go_wp2
          go_round
          case rel => exact ⟨Q - 1, R + y1, by go_num, by go_num, Ho.out.2.1, by omega⟩
          case measure => simp [intOf]; omega
      · obtain ⟨em, bm⟩ := eM64 Q y0 (by omega) HD.out.b0
        obtain ⟨P, hP⟩ : ∃ P, P = Q * y0 := ⟨_, rfl⟩
        rw [← hP] at em bm
        have HP : Hid (P = Q * y0) := hP
        have hcm : ((l1 : Nat) : Int) < 4294967296 := by have := HD.out.c1; omega
        clear bm hP
        by_cases ht : 4294967296 * (R : Int) + (l1 : Int) < (P : Int)
        · have ho := k_over HD.out.b1.1 HD.out.b0 (by have := HD.out.bU; have := HD.out.sY; omega) HD.out.c1 HK.out (.inr (by rw [← HP.out]; omega))
          have Ho : Hid (1 ≤ Q ∧ KInv U l1 y1 y0 (Q - 1) (R + y1) ∧ Q - 1 ≤ 4294967296) := ho
          clear ho
          have hQ1 : 1 ≤ (Q : Int) := by have := Ho.out.1; omega
          by_cases hb : 4294967296 ≤ (R : Int) + (y1 : Int)
          · go_wp2
            go_meet
            case rel => exact ⟨Q - 1, by go_num, k_break HD.out.b1.1 HD.out.b0 Ho.out.2.1 Ho.out.2.2 (by omega), rfl⟩
          · go_wp2
            go_round
            case rel => exact ⟨Q - 1, R + y1, by go_num, by go_num, Ho.out.2.1, by omega⟩
            case measure => simp [intOf]; omega
        · go_wp2
          go_meet
          case rel => exact ⟨Q, rfl, k_stop HD.out.b1.1 HK.out (by rw [← HP.out]; omega), rfl⟩
  case rest =>
    obtain ⟨Q1, rfl, hQ1, rfl⟩ := hcut
    have HQ1 : Hid (Q1 = (U * 4294967296 + l1) / Y) := by rw [HD.out.sY]; exact hQ1
    clear hQ1 hst
    go_upto_region 22 with fail
    rw [eX64 U l1 Q1 Y HD.out.bY (k_left U l1 Y Q1 HQ1.out) (by have := HD.out.bU; omega)]
    have hXY : (U * 4294967296 + l1) % Y < Y := Nat.mod_lt _ (by have := HD.out.bU; omega)
    obtain ⟨X, hX⟩ : ∃ X, X = (U * 4294967296 + l1) % Y := ⟨_, rfl⟩
    rw [← hX] at hXY HF ⊢
    clear hX
    have HX : Hid (X < Y) := hXY
    clear hXY
    go_upto_block 2 with fail
    have hX64 : X < 18446744073709551616 := by have := HX.out; have := HD.out.bY; omega
    rw [eQ64 X y1 hX64 HD.out.b1.1, eR64 X y1 hX64 HD.out.b1.1]
    have hst : Hid (KInv X l0 y1 y0 (X / y1) (X % y1) ∧ X % y1 < 4294967296) := k_start X l0 y1 y0 HD.out.b1.1 HD.out.b1.2 HD.out.b0 (by have := HX.out; have := HD.out.sY; omega) HD.out.c0
    clear hX64
    go_cut [18, 16] (fun q r wx => ∃ Q : Nat, q = .int .u64 (Q : Int) ∧ Q = (X * 4294967296 + l0) / (y1 * 4294967296 + y0) ∧ wx = wc)
    case first =>
      go_wp2_with fail
      go_loop [18, 16] (fun q r => ∃ Q R : Nat, q = .int .u64 (Q : Int) ∧ r = .int .u64 (R : Int) ∧ KInv X l0 y1 y0 Q R ∧ R < 4294967296) (fun q _ => (intOf q).toNat)
      case atStart => exact ⟨_, _, rfl, rfl, hst.out.1, hst.out.2⟩
      case round =>
        obtain ⟨Q, R, rfl, rfl, hK, hR⟩ := hrel
        have HK : Hid (KInv X l0 y1 y0 Q R) := hK
        have hQb : (Q : Int) ≤ 4294967297 := by have := hK.2.1; omega
        clear hK
        by_cases hq : 4294967296 ≤ (Q : Int)
        · have ho := k_over HD.out.b1.1 HD.out.b0 (by have := HX.out; have := HD.out.sY; omega) HD.out.c0 HK.out (.inl (by omega))
          have Ho : Hid (1 ≤ Q ∧ KInv X l0 y1 y0 (Q - 1) (R + y1) ∧ Q - 1 ≤ 4294967296) := ho
          clear ho
          by_cases hb : 4294967296 ≤ (R : Int) + (y1 : Int)
          · go_wp2
            go_meet
            case rel => exact ⟨Q - 1, by go_num, k_break HD.out.b1.1 HD.out.b0 Ho.out.2.1 Ho.out.2.2 (by omega), rfl⟩
          · go_wp2
            go_round
            case rel => exact ⟨Q - 1, R + y1, by go_num, by go_num, Ho.out.2.1, by omega⟩
            case measure => simp [intOf]; omega
        · obtain ⟨em, bm⟩ := eM64 Q y0 (by omega) HD.out.b0
          obtain ⟨P, hP⟩ : ∃ P, P = Q * y0 := ⟨_, rfl⟩
          rw [← hP] at em bm
          have HP : Hid (P = Q * y0) := hP
          have hcm : ((l0 : Nat) : Int) < 4294967296 := by have := HD.out.c0; omega
          clear bm hP
          by_cases ht : 4294967296 * (R : Int) + (l0 : Int) < (P : Int)
          · have ho := k_over HD.out.b1.1 HD.out.b0 (by have := HX.out; have := HD.out.sY; omega) HD.out.c0 HK.out (.inr (by rw [← HP.out]; omega))
            have Ho : Hid (1 ≤ Q ∧ KInv X l0 y1 y0 (Q - 1) (R + y1) ∧ Q - 1 ≤ 4294967296) := ho
            clear ho
            have hQ1 : 1 ≤ (Q : Int) := by have := Ho.out.1; omega
            by_cases hb : 4294967296 ≤ (R : Int) + (y1 : Int)
            · go_wp2
              go_meet
              case rel => exact ⟨Q - 1, by go_num, k_break HD.out.b1.1 HD.out.b0 Ho.out.2.1 Ho.out.2.2 (by omega), rfl⟩
            · go_wp2
              go_round
              case rel => exact ⟨Q - 1, R + y1, by go_num, by go_num, Ho.out.2.1, by omega⟩
              case measure => simp [intOf]; omega
          · go_wp2
            go_meet
            case rel => exact ⟨Q, rfl, k_stop HD.out.b1.1 HK.out (by rw [← HP.out]; omega), rfl⟩
    case rest =>
      obtain ⟨Q0, rfl, hQ0, rfl⟩ := hcut
      have HQ0 : Hid (Q0 = (X * 4294967296 + l0) / Y) := by rw [HD.out.sY]; exact hQ0
      clear hQ0 hst
      go_wp2
      go_ret2
      refine ⟨?_, rfl⟩
      have hF := HF.out Q1 Q0 _ HQ1.out HQ0.out rfl
      rw [← hF.1, ← hF.2, ← eX64 X l0 Q0 Y HD.out.bY (k_left X l0 Y Q0 HQ0.out) (by have := HD.out.bU; omega)]
      rfl
theorem div64 (hi lo y : Nat) (w : World) (hl : lo < 18446744073709551616) (hy : hi < y) (hy2 : y < 18446744073709551616) :
    Calls Try.prog 44 #[.int .u64 hi, .int .u64 lo, .int .u64 y] w fun e w' => e = .returned (.tuple #[.int .u64 ((hi * 18446744073709551616 + lo) / y : Nat), .int .u64 ((hi * 18446744073709551616 + lo) % y : Nat)]) ∧ ∃ n, w' = w.drewN n := by
  by_cases h0 : hi = 0
  · subst h0
    have := div64_small lo y w hl (by omega)
    simpa using this
  · have hb : bl y ≤ 64 := (bl_iff _ _).2 (by omega)
    have hb0 : 0 < bl y := by
      apply Nat.pos_of_ne_zero
      intro h
      have := (bl_iff y 0).1 (by omega)
      omega
    obtain ⟨s, hs⟩ : ∃ s : Nat, s = 64 - bl y := ⟨_, rfl⟩
    exact (div64_great hi lo y w (by omega) hl hy hy2 s (by omega) (by omega)).mono fun e w' h => ⟨h.1, 0, h.2⟩
end Go.Proofs.Ytljfenjpnanoiaa

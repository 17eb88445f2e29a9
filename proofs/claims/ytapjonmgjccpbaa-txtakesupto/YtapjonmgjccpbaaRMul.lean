import Derived.Test.YtapjonmgjccpbaaJ12
import Derived.Deep.RegionHeld
import Derived.Deep.DeepCutAuto
set_option linter.unusedSimpArgs false
set_option linter.unusedVariables false
namespace Go.Proofs.Ytapjonmgjccpbaa
open Go.RowKit

def outA (L : List Nat) : Array Value := (L.map fun (d : Nat) => Value.int .u64 (d : Int)).toArray
theorem outA_get (L : List Nat) (p : Nat) (hp : p < L.length) : (outA L)[p]? = some (.int .u64 (L[p] : Int)) := by
  simp [outA, hp]
theorem outA_set (L : List Nat) (p v : Nat) : (outA L).setIfInBounds p (.int .u64 (v : Int)) = outA (L.set p v) := by
  simp [outA, List.map_set]
theorem dig_eq (n i : Nat) (hi : i < 8) : Go.bits BinOp.and IntKind.u64 (lb n (i / 2) / 2 ^ (32 * (i % 2))) 4294967295 = (dg n i : Int) := by
  have hl : lb n (i / 2) = ((n / q64 (i / 2) % 18446744073709551616 : Nat) : Int) := rfl
  have hr : i % 2 = 0 ∨ i % 2 = 1 := by omega
  have hd : d32 i = q64 (i / 2) * 2 ^ (32 * (i % 2)) := by unfold d32 q64; rw [← Nat.pow_add]; congr 1; omega
  rw [hl]
  unfold dg
  rw [hd, ← Nat.div_div_eq_div_mul]
  generalize n / q64 (i / 2) = z
  rcases hr with e | e <;> rw [e] <;> simp only [Nat.mul_zero, Nat.mul_one, Int.pow_zero, Nat.pow_zero, Int.reducePow, Nat.reducePow] <;> rw [and32 _ (by omega)] <;> omega
set_option maxHeartbeats 1000000 in
theorem digit_x (n i : Nat) (hi : i < 8) (w : World) :
    Calls Try.prog 101 #[V n, .int .i64 i] w fun e w' => e = .returned (.int .u64 (dg n i)) ∧ Below w.heap.size w w' := by
  have hk := fun W => lb_cells (Bk.new W (A4 (lb n 0) (lb n 1) (lb n 2) (lb n 3)) 26) (i / 2) (by omega)
  have HD : Hid (_ = _) := dig_eq n i hi
  go_enter Try.func101, Try.ntmps101
  go_wp2
  go_ret
  exact ⟨by rw [← HD.out]; rfl, (Below.refl _ _).alloc (Nat.le_refl _) _⟩
/-- The nine cells that a digit's step reads. -/
def Nine (A B C p l n m : Nat) (w' : World) : Prop := w'.cell? ⟨A, 0, none⟩ = some (.int .u64 (lb n 0)) ∧ w'.cell? ⟨A, 1, none⟩ = some (.int .u64 (lb n 1)) ∧ w'.cell? ⟨A, 2, none⟩ = some (.int .u64 (lb n 2)) ∧ w'.cell? ⟨A, 3, none⟩ = some (.int .u64 (lb n 3)) ∧ w'.cell? ⟨B, 0, none⟩ = some (.int .u64 (lb m 0)) ∧ w'.cell? ⟨B, 1, none⟩ = some (.int .u64 (lb m 1)) ∧ w'.cell? ⟨B, 2, none⟩ = some (.int .u64 (lb m 2)) ∧ w'.cell? ⟨B, 3, none⟩ = some (.int .u64 (lb m 3)) ∧ w'.cell? ⟨C, p, none⟩ = some (.int .u64 (l : Int))
theorem Nine.below {A B C p l n m : Nat} {w w' : World} (h : Nine A B C p l n m w) (hb : Below w.heap.size w w') : Nine A B C p l n m w' := by
  obtain ⟨h0, h1, h2, h3, h4, h5, h6, h7, h8⟩ := h
  exact ⟨below_at hb (cell_lt h0) h0, below_at hb (cell_lt h1) h1, below_at hb (cell_lt h2) h2, below_at hb (cell_lt h3) h3, below_at hb (cell_lt h4) h4, below_at hb (cell_lt h5) h5, below_at hb (cell_lt h6) h6, below_at hb (cell_lt h7) h7, below_at hb (cell_lt h8) h8⟩
theorem Nine.drew {A B C p l n m : Nat} {w : World} (h : Nine A B C p l n m w) : Nine A B C p l n m w.drew := h.below ((Below.refl _ w).drew)
theorem sum_fits (l a b c : Nat) (hl : l < 4294967296) (ha : a < 4294967296) (hb : b < 4294967296) (hc : c < 4294967296) :
    IntKind.u64.wrap (IntKind.u64.wrap ((l : Int) + IntKind.u64.wrap ((a : Int) * (b : Int))) + (c : Int)) = ((l + a * b + c : Nat) : Int) ∧ l + a * b + c < 18446744073709551616 := by
  have hab : a * b ≤ 4294967295 * 4294967295 := Nat.mul_le_mul (by omega) (by omega)
  rw [← Int.natCast_mul]
  generalize a * b = t at *
  simp only [IntKind.wrap_u64]
  omega
theorem over_lem (l q nm M : Nat) (h0 : ¬ l = 0) (h2 : M ≤ q) (h1 : l * q ≤ nm) : ¬ nm < M :=
  Nat.not_lt.2 (Nat.le_trans h2 (Nat.le_trans (Nat.le_mul_of_pos_left q (Nat.pos_of_ne_zero h0)) h1))
theorem d32_over (i : Nat) : M256 ≤ d32 (i + 8) := by
  rw [d32_add, d32_8]; exact Nat.le_mul_of_pos_left _ (d32_pos i)
theorem over_digit (L : List Nat) (n m i : Nat) (hp8 : i + 8 < L.length) (h0 : ¬ (L[i + 8]'hp8) = 0) (hv : valD L = n * m) : ¬ n * m < M256 := by
  have h1 := valD_ge L (i + 8) hp8
  rw [hv] at h1
  exact over_lem _ _ _ _ h0 (d32_over i) h1
set_option maxRecDepth 100000 in
set_option maxHeartbeats 4000000 in
theorem rmul (n m : Nat) (hn : n < M256) (hm : m < M256) (w : World) :
    Calls Try.prog 76 #[V n, V m] w fun e w' => e = .returned (.tuple #[V (mulV n m), .bool (mulOk n m)]) ∧ Below w.heap.size w w' := by
  have Hn : Hid (n < M256) := hn
  have Hm : Hid (m < M256) := hm
  clear hn hm
  go_enter Try.func76, Try.ntmps76
  go_wp2
  go_loopw [7] (fun ii wr => ∃ (i : Nat) (L : List Nat), i ≤ 8 ∧ ii = .int .i64 i ∧ Bk wr w.heap.size (A4 (lb n 0) (lb n 1) (lb n 2) (lb n 3)) 26 ∧ Bk wr (w.heap.size + 1) (A4 (lb m 0) (lb m 1) (lb m 2) (lb m 3)) 26 ∧ Bk wr (w.heap.size + 1 + 1) (A4 0 0 0 0) 26 ∧ Bk wr (w.heap.size + 1 + 1 + 1) (outA L) 144 ∧ Below w.heap.size w wr ∧ Hid (L.length = 16 ∧ (∀ d ∈ L, d < 4294967296) ∧ (∀ p (h : p < L.length), i + 8 ≤ p → L[p] = 0) ∧ valD L = n % d32 i * m)) (fun ii _ => 8 - (intOf ii).toNat)
  case atStart =>
    refine ⟨0, List.replicate 16 0, by omega, rfl, ?_, ?_, ?_, ?_, ?_, ?_⟩
    · exact (((Bk.new _ _ _).alloc _).alloc _).alloc _
    · exact ((Bk.new' _ _ _ (by simp)).alloc _).alloc _
    · exact (Bk.new' _ _ _ (by simp)).alloc _
    · exact Bk.new' _ (outA (List.replicate 16 0)) 144 (by simp)
    · exact ((((Below.refl _ _).alloc (Nat.le_refl _) _).alloc (by simp) _).alloc (by simp; omega) _).alloc (by simp; omega) _
    · refine ⟨rfl, fun d hd => by rw [List.eq_of_mem_replicate hd]; omega, fun p h _ => List.getElem_replicate h, ?_⟩
      have e : d32 0 = 1 := rfl
      rw [e, Nat.mod_one, Nat.zero_mul]; rfl
  case round =>
    obtain ⟨i, L, hi8, rfl, ha, hb, hz, hx, hbl, hinv⟩ := hrel
    by_cases hi : i < 8
    · obtain ⟨wo, rfl⟩ : ∃ wo : World, wo = wr := ⟨_, rfl⟩
      have hdi : decide ((i : Int) < 8) = true := by simp; omega
      go_wp2
      go_loopw [8, 9] (fun cc kk wr => ∃ (k : Nat) (L : List Nat) (c : Nat), k ≤ 8 ∧ kk = .int .i64 k ∧ cc = .int .u64 (c : Int) ∧ Bk wr w.heap.size (A4 (lb n 0) (lb n 1) (lb n 2) (lb n 3)) 26 ∧ Bk wr (w.heap.size + 1) (A4 (lb m 0) (lb m 1) (lb m 2) (lb m 3)) 26 ∧ Bk wr (w.heap.size + 1 + 1) (A4 0 0 0 0) 26 ∧ Bk wr (w.heap.size + 1 + 1 + 1) (outA L) 144 ∧ Below w.heap.size w wr ∧ Hid (RRow i k n m L c)) (fun _ kk _ => 8 - (intOf kk).toNat)
      case atStart => exact ⟨0, L, 0, by omega, rfl, rfl, ha, hb, hz, hx, hbl, rrow_start i n m L hinv.out.1 hinv.out.2.1 hinv.out.2.2.1 hinv.out.2.2.2⟩
      case round =>
        clear ha hb hz hx hbl hinv
        obtain ⟨k, L, c, hk8, rfl, rfl, ha, hb, hz, hx, hbl, hinv⟩ := hrel
        have hL16 : L.length = 16 := hinv.out.1
        by_cases hk : k < 8
        · have hp : i + k < L.length := by omega
          have hik : i + k < 16 := by omega
          have hiki : (i : Int) + (k : Int) < 16 := by omega
          have hst := rrow_step i k n m L c hi hk hinv.out hp
          obtain ⟨hsum, hT⟩ := sum_fits L[i + k] (dg n i) (dg m k) c (hinv.out.2.1 _ (List.getElem_mem hp)) (dg_lt _ _) (dg_lt _ _) hinv.out.2.2.2.1
          have HST : Hid (RRow i (k + 1) n m (L.set (i + k) ((L[i + k] + dg n i * dg m k + c) % 4294967296)) ((L[i + k] + dg n i * dg m k + c) / 4294967296)) := hst
          have HSUM : Hid (_ = _) := hsum
          have hset := outA_set L (i + k) ((L[i + k] + dg n i * dg m k + c) % 4294967296)
          have HSET : Hid (_ = _) := hset
          have hN : Nine w.heap.size (w.heap.size + 1) (w.heap.size + 1 + 1 + 1) (i + k) L[i + k] n m wr := ⟨ha.cell 0, ha.cell 1, ha.cell 2, ha.cell 3, hb.cell 0, hb.cell 1, hb.cell 2, hb.cell 3, (hx.cell (i + k)).trans (outA_get L (i + k) hp)⟩
          generalize hTT : L[i + k] + dg n i * dg m k + c = TT at *
          have HSET : Hid ((outA L).setIfInBounds (i + k) (.int .u64 ((TT : Int) % 4294967296)) = outA (L.set (i + k) (TT % 4294967296))) := by rw [← hset, Int.natCast_emod]; rfl
          generalize L[i + k] = l at *
          have hbs : Below wr.heap.size wr wr := Below.refl _ _
          have HT : Hid (TT < 18446744073709551616) := hT
          have hT0 : (0 : Int) ≤ (TT : Int) := by omega
          have hand : Go.bits BinOp.and IntKind.u64 (TT : Int) 4294967295 = (TT : Int) % 4294967296 := and32 _ (by omega)
          have hnn : (0 : Int) ≤ (i : Int) + (k : Int) := by omega
          have hwr : IntKind.i64.wrap ((i : Int) + (k : Int)) = (i : Int) + (k : Int) := by rw [IntKind.wrap_i64]; omega
          have htn : ((i : Int) + (k : Int)).toNat = i + k := by omega
          clear hst hsum hset hinv hTT hT
          go_upto_region 9 with fail
          go_cut [10] (fun t wx => t = .int .u64 (TT : Int) ∧ Below wr.heap.size wr wx)
          case first =>
            go_region_held (fun w' => w'.cell? ⟨w.heap.size, 0, none⟩ = some (.int .u64 (lb n 0)) ∧ w'.cell? ⟨w.heap.size, 1, none⟩ = some (.int .u64 (lb n 1)) ∧ w'.cell? ⟨w.heap.size, 2, none⟩ = some (.int .u64 (lb n 2)) ∧ w'.cell? ⟨w.heap.size, 3, none⟩ = some (.int .u64 (lb n 3)) ∧ w'.cell? ⟨w.heap.size + 1, 0, none⟩ = some (.int .u64 (lb m 0)) ∧ w'.cell? ⟨w.heap.size + 1, 1, none⟩ = some (.int .u64 (lb m 1)) ∧ w'.cell? ⟨w.heap.size + 1, 2, none⟩ = some (.int .u64 (lb m 2)) ∧ w'.cell? ⟨w.heap.size + 1, 3, none⟩ = some (.int .u64 (lb m 3)) ∧ w'.cell? ⟨w.heap.size + 1 + 1 + 1, i + k, none⟩ = some (.int .u64 (l : Int))) (first | exact Nine.drew hN | exact hN) (first | (go_at_call 101; refine (digit_x _ _ ?_ _).mono ?_; omega; rintro e w2 ⟨rfl, hb2⟩; (first | (have hN := Nine.below (Nine.drew hN) hb2; have hbs := below_step hbs hb2) | (have hN := Nine.below hN hb2; have hbs := below_step2 hbs hb2))))
            go_wp2_with fail
            go_meet
            exact ⟨by rw [← HSUM.out], hbs⟩
          case rest =>
            obtain ⟨rfl, hbx⟩ := hcut
            obtain ⟨wz, rfl⟩ : ∃ wz : World, wz = wc := ⟨_, rfl⟩
            have hszz := hbx.size
            have ha := ha.below hbx ha.lt
            have hb := hb.below hbx hb.lt
            have hz := hz.below hbx hz.lt
            have hsr := hx.lt
            have hx := hx.below hbx hx.lt
            have hbl := hbl.trans (hbx.mono hbl.size)
            have hxc := (hx.cell (i + k)).trans (outA_get L (i + k) hp)
            have hxf := hx.frozen (i + k)
            go_wp2_with fail
            go_roundw
            case rel => exact ⟨k + 1, _, TT / 4294967296, by omega, by go_num, by rw [Int.natCast_ediv]; rfl, ha.other (by simp <;> omega) _, hb.other (by simp <;> omega) _, hz.other (by simp) _, hx.set _ _ HSET.out, hbl.setCell (by simp; omega) _, HST⟩
            case measure => simp [intOf]; omega
        · obtain rfl : k = 8 := by omega
          have he := rrow_end i n m L c hi Hm.out hinv.out
          have HE : Hid (_ ∧ _) := he
          have hxc := (hx.cell (i + 8)).trans (outA_get L (i + 8) (by omega))
          have hxf := hx.frozen (i + 8)
          clear he hinv
          go_wp2_with fail
          go_roundw
          case rel => exact ⟨i + 1, _, by omega, by go_num, ha.other (by simp <;> omega) _, hb.other (by simp <;> omega) _, hz.other (by simp) _, hx.set _ _ (outA_set L (i + 8) c), hbl.setCell (by simp; omega) _, HE⟩
          case measure => simp [intOf]; omega
    · obtain rfl : i = 8 := by omega
      obtain ⟨hL16, hLd, hL0, hval⟩ := hinv.out
      rw [d32_8, Nat.mod_eq_of_lt Hn.out] at hval
      have HLd : Hid (∀ d ∈ L, d < 4294967296) := hLd
      have HV : Hid (valD L = n * m) := hval
      obtain ⟨wo, rfl⟩ : ∃ wo : World, wo = wr := ⟨_, rfl⟩
      have hszo := hx.lt
      clear hLd hL0 hval hinv ha hb
      go_wp2
      go_loopw [12] (fun ii wr => ∃ (i X : Nat), i ≤ 8 ∧ ii = .int .i64 i ∧ Bk wr (w.heap.size + 1 + 1) (A4 0 0 0 0) 26 ∧ Bk wr (w.heap.size + 1 + 1 + 1) (outA L) 144 ∧ Bk wr wo.heap.size (A4 (lb X 0) (lb X 1) (lb X 2) (lb X 3)) 26 ∧ Below w.heap.size w wr ∧ Hid (X = valD (L.take i) ∧ ∀ p (h : p + 8 < L.length), p < i → L[p + 8] = 0)) (fun ii _ => 8 - (intOf ii).toNat)
      case atStart =>
        refine ⟨0, 0, by omega, rfl, hz.alloc _, hx.alloc _, ?_, hbl.alloc hbl.size _, ⟨rfl, fun p h hp => by omega⟩⟩
        simp only [lb_zero]
        exact Bk.new _ _ _
      case round =>
        clear hz hx hbl
        obtain ⟨i, X, hi8', rfl, hz, hx, hy, hbl, hinv⟩ := hrel
        by_cases hi : i < 8
        · have hp8 : i + 8 < L.length := by omega
          have hp0 : i < L.length := by omega
          have hc8 := (hx.cell (i + 8)).trans (outA_get L (i + 8) hp8)
          by_cases h0 : L[i + 8] = 0
          · have hst := half_step X L[i] i hi (by rw [hinv.out.1]; have := valD_lt (L.take i) (fun d hd => HLd.out d (List.mem_of_mem_take hd)); rw [List.length_take, Nat.min_eq_left (by omega)] at this; exact this) (HLd.out _ (List.getElem_mem hp0))
            have HI : Hid (X + L[i] * d32 i = valD (L.take (i + 1)) ∧ ∀ p (h : p + 8 < L.length), p < i + 1 → L[p + 8] = 0) := by
              refine ⟨by rw [hinv.out.1, valD_take L i hp0], fun p h hp => ?_⟩
              by_cases e : p < i
              · exact hinv.out.2 p h e
              · obtain rfl : p = i := by omega
                exact h0
            have hc0 := (hx.cell i).trans (outA_get L i hp0)
            have hyc := lb_cells hy (i / 2) (by omega)
            have hyf := hy.frozen (i / 2)
            rw [h0] at hc8
            generalize L[i] = l at hst HI hc0
            generalize X + l * d32 i = X' at hst HI
            have HS : Hid (Array.setIfInBounds (A4 (lb X 0) (lb X 1) (lb X 2) (lb X 3)) (i / 2) (Value.int IntKind.u64 (Go.bits BinOp.or IntKind.u64 (lb X (i / 2)) (IntKind.u64.wrap ((l : Int) * 2 ^ (32 * (i % 2)))))) = A4 (lb X' 0) (lb X' 1) (lb X' 2) (lb X' 3)) := hst
            have HL : Hid (L.length = 16) := hL16
            clear hst hinv h0 hp8 hp0 hL16
            have hne1 : w.heap.size + 1 + 1 ≠ wo.heap.size := by omega
            have hne2 : w.heap.size + 1 + 1 + 1 ≠ wo.heap.size := by omega
            have hle1 : w.heap.size ≤ wo.heap.size := by omega
            have hi2 : (0 : Int) ≤ (i : Int) / 2 := by omega
            have hi3 : (i : Int) / 2 < 4 := by omega
            have hi4 : ((i : Int) / 2).toNat = i / 2 := by omega
            have hi5 : (i : Int) < 16 := by omega
            have HH : Hid (Bk wr (w.heap.size + 1 + 1) (A4 0 0 0 0) 26 ∧ Bk wr (w.heap.size + 1 + 1 + 1) (outA L) 144 ∧ Bk wr wo.heap.size (A4 (lb X 0) (lb X 1) (lb X 2) (lb X 3)) 26) := ⟨hz, hx, hy⟩
            have HB : Hid (w.heap.size + 1 + 1 ≠ wo.heap.size ∧ w.heap.size + 1 + 1 + 1 ≠ wo.heap.size ∧ w.heap.size ≤ wo.heap.size) := ⟨hne1, hne2, hle1⟩
            clear hz hx hy hne1 hne2 hle1
            go_upto_region 18 with fail
            go_region
            go_wp2
            go_roundw
            case rel => exact ⟨i + 1, X', Nat.succ_le_of_lt hi, by go_num, (HH.out.1.other HB.out.1 _).drew, (HH.out.2.1.other HB.out.2.1 _).drew, (HH.out.2.2.set _ _ HS.out).drew, (hbl.setCell HB.out.2.2 _).drew, HI⟩
            case measure => simp [intOf]; omega
          · have hgt : (0 : Int) < ((L[i + 8] : Nat) : Int) := Int.natCast_pos.2 (Nat.pos_of_ne_zero h0)
            have HO : Hid (¬ n * m < M256) := over_digit L n m i hp8 h0 HV.out
            have hz0 := hz.cell 0
            have hz1 := hz.cell 1
            have hz2 := hz.cell 2
            have hz3 := hz.cell 3
            have hf0 := hz.frozen 0
            have hf1 := hz.frozen 1
            have hf2 := hz.frozen 2
            have hf3 := hz.frozen 3
            simp only [List.getElem?_toArray, List.getElem?_cons_zero, List.getElem?_cons_succ] at hz0 hz1 hz2 hz3
            generalize L[i + 8] = l8 at hc8 hgt
            have hdg : decide ((0 : Int) < (l8 : Int)) = true := by simpa using hgt
            have hle1 : w.heap.size ≤ w.heap.size + 1 + 1 := by omega
            clear hinv h0 hp8 hp0 hL16 hx hy hz HLd HV
            go_upto_if 57 with fail
            go_wp2
            refine bodyPost_ret (v := .tuple #[.agg (A4 0 0 0 0), .bool false]) ?_ rfl ⟨?_, ?_⟩
            · simp [results, Try.results76, go_sem, hz0, hz1, hz2, hz3]
            · have HO' := HO.out
              simp [mulV, mulOk, HO', lb_zero]
            · exact (((hbl.setCell (by simp; omega) _).setCell (by simp; omega) _).setCell (by simp; omega) _).setCell (by simp; omega) _
        · obtain rfl : i = 8 := by omega
          have HX : Hid (X = n * m ∧ X < M256) := by
            have h1 : valD L = X := by
              have h2 := valD_append (L.take 8) (L.drop 8)
              rw [List.take_append_drop] at h2
              rw [h2, valD_zero (L.drop 8) ?_, Nat.mul_zero, Nat.add_zero, hinv.out.1]
              intro d hd
              obtain ⟨p, hp, rfl⟩ := List.getElem_of_mem hd
              rw [List.length_drop] at hp
              rw [List.getElem_drop]
              have := hinv.out.2 p (by omega) (by omega)
              simpa [Nat.add_comm] using this
            refine ⟨by rw [← h1]; exact HV.out, ?_⟩
            have := valD_lt (L.take 8) (fun d hd => HLd.out d (List.mem_of_mem_take hd))
            rw [List.length_take, Nat.min_eq_left (by omega), ← hinv.out.1, d32_8] at this
            exact this
          have hz0 := hz.cell 0
          have hz1 := hz.cell 1
          have hz2 := hz.cell 2
          have hz3 := hz.cell 3
          have hf0 := hz.frozen 0
          have hf1 := hz.frozen 1
          have hf2 := hz.frozen 2
          have hf3 := hz.frozen 3
          simp only [List.getElem?_toArray, List.getElem?_cons_zero, List.getElem?_cons_succ] at hz0 hz1 hz2 hz3
          have hy0 := hy.cell 0
          have hy1 := hy.cell 1
          have hy2 := hy.cell 2
          have hy3 := hy.cell 3
          simp only [List.getElem?_toArray, List.getElem?_cons_zero, List.getElem?_cons_succ] at hy0 hy1 hy2 hy3
          clear hinv
          go_wp2
          refine bodyPost_ret (v := .tuple #[V X, .bool true]) ?_ rfl ⟨?_, ?_⟩
          · simp [results, Try.results76, go_sem, hz0, hz1, hz2, hz3]
          · obtain ⟨e1, e2⟩ := HX.out
            rw [e1] at e2
            rw [mulV, mulOk, if_pos e2, decide_eq_true e2, e1]
          · exact (((hbl.setCell (by simp; omega) _).setCell (by simp; omega) _).setCell (by simp; omega) _).setCell (by simp; omega) _
end Go.Proofs.Ytapjonmgjccpbaa

import Derived.Test.YtgolpadmcalimaaAsks
import Derived.Test.YtgolpadmcalimaaFake
import Derived.Test.YtgolpadmcalimaaFakeN
import Derived.Test.YtgolpadmcalimaaNext
import Derived.Test.YtgolpadmcalimaaExcess
import Derived.Test.YtgolpadmcalimaaBlob
import Derived.Test.YtgolpadmcalimaaWithin
import Derived.Test.YtgolpadmcalimaaWakes
import Derived.Deep.RegionWith
import Derived.Deep.DeepCutAuto
import Derived.Deep.CutBlock
import Derived.Deep.RegionHeld3
set_option linter.unusedSimpArgs false
set_option linter.unusedVariables false
namespace Go.Proofs.Ytgolpadmcalimaa
open Go.RowKit

/-- A number of a question, and one of a variable, cell by cell. -/
def Fb (b o B n m : Nat) (w' : World) : Prop := w'.cell? ⟨b, o + 4, none⟩ = some (.int .u64 (lb n 0)) ∧ w'.cell? ⟨b, o + 5, none⟩ = some (.int .u64 (lb n 1)) ∧ w'.cell? ⟨b, o + 6, none⟩ = some (.int .u64 (lb n 2)) ∧ w'.cell? ⟨b, o + 7, none⟩ = some (.int .u64 (lb n 3)) ∧ w'.cell? ⟨B, 0, none⟩ = some (.int .u64 (lb m 0)) ∧ w'.cell? ⟨B, 1, none⟩ = some (.int .u64 (lb m 1)) ∧ w'.cell? ⟨B, 2, none⟩ = some (.int .u64 (lb m 2)) ∧ w'.cell? ⟨B, 3, none⟩ = some (.int .u64 (lb m 3))
theorem Fb.below {b o B n m : Nat} {w w' : World} (h : Fb b o B n m w) (hb : Below w.heap.size w w') : Fb b o B n m w' := by
  obtain ⟨h0, h1, h2, h3, h4, h5, h6, h7⟩ := h
  exact ⟨below_at hb (cell_lt h0) h0, below_at hb (cell_lt h1) h1, below_at hb (cell_lt h2) h2, below_at hb (cell_lt h3) h3, below_at hb (cell_lt h4) h4, below_at hb (cell_lt h5) h5, below_at hb (cell_lt h6) h6, below_at hb (cell_lt h7) h7⟩
theorem Fb.drew {b o B n m : Nat} {w : World} (h : Fb b o B n m w) : Fb b o B n m w.drew := h
theorem Fb.alloc {b o B n m : Nat} {w : World} (h : Fb b o B n m w) (x : Obj) : Fb b o B n m (w.alloc x) := h.below ((Below.refl _ w).alloc (Nat.le_refl _) x)
theorem Fb.set {b o B n m : Nat} {w : World} (h : Fb b o B n m w) {x : Addr} (ha : b ≠ x.block) (hB : B ≠ x.block) (u : Value) : Fb b o B n m (w.setCell x u) := by
  have e : ∀ i, (w.setCell x u).cell? ⟨b, i, none⟩ = w.cell? ⟨b, i, none⟩ := fun i => World.cell?_of_block (Below.heap_setCell w x u b ha)
  have e' : ∀ i, (w.setCell x u).cell? ⟨B, i, none⟩ = w.cell? ⟨B, i, none⟩ := fun i => World.cell?_of_block (Below.heap_setCell w x u B hB)
  unfold Fb; simp only [e, e']; exact h
theorem may11 (w : World) : Calls Try.prog 20 #[.int .i64 1, .int .i64 1] w fun r w' => r = .returned (.bool true) ∧ w' = w := by
  go_enter Try.func20, Try.ntmps20
  go_wp2
  go_ret
  exact ⟨rfl, rfl⟩
theorem or_one (c : Nat) : 1 ≤ Go.bits BinOp.or IntKind.u64 (lb c 0) 1 ∧ Go.bits BinOp.or IntKind.u64 (lb c 0) 1 < 18446744073709551616 := by
  have hl := lb_bd c 0
  obtain ⟨x, hx⟩ := Int.eq_ofNat_of_zero_le hl.1
  rw [hx, show (1 : Int) = ((1 : Nat) : Int) from rfl, bits_or_u64_nat x 1 (by omega) (by omega)]
  have h1 : 1 ≤ x ||| 1 := Nat.right_le_or
  have h2 : x ||| 1 < 2 ^ 64 := Nat.or_lt_two_pow (by omega) (by omega)
  omega
theorem fake_flat (f d : Nat) (hf : f < 340282366920938463463374607431768211456) (hd : d < 18446744073709551616) (hd0 : 0 < d) (w : World) : Calls Try.prog 12 #[V f, .agg (A4 0 0 0 0), V d] w fun e w' => e = .returned (.tuple #[V f, .int .i64 0]) ∧ Below w.heap.size w w' := by
  have := fake f 0 d (by unfold M256; omega) (by decide) (by unfold M256; omega) hd0 w
  rw [V_zero] at this
  refine this.mono ?_
  rintro e w' ⟨⟨r, x, rfl, h⟩, hb⟩
  have hm : f * d < M256 := by
    have : f * d ≤ f * 18446744073709551616 := Nat.mul_le_mul_left _ (by omega)
    unfold M256; omega
  obtain ⟨rfl, rfl⟩ := h.one (fk_flat f d hm (by unfold M256; omega) hd0)
  exact ⟨rfl, hb⟩
theorem fake_zero (n d : Nat) (hn : n < M256) (hd : d < M256) (hd0 : 0 < d) (w : World) : Calls Try.prog 12 #[.agg (A4 0 0 0 0), V n, V d] w fun e w' => e = .returned (.tuple #[V 0, .int .i64 0]) ∧ Below w.heap.size w w' := by
  have := fake 0 n d (by decide) hn hd hd0 w
  rw [V_zero] at this
  refine this.mono ?_
  rintro e w' ⟨⟨r, x, rfl, h⟩, hb⟩
  obtain ⟨rfl, rfl⟩ := h.one (fk_none n d)
  exact ⟨rfl, hb⟩
theorem fake_bad (f n : Nat) (w : World) : Calls Try.prog 12 #[V f, V n, .agg (A4 0 0 0 0)] w fun e w' => e = .returned (.tuple #[V 0, .int .i64 1]) ∧ Below w.heap.size w w' := by
  have := fake_none f n w
  rw [V_zero] at this ⊢
  exact this
set_option maxRecDepth 100000 in
set_option maxHeartbeats 2000000 in
theorem feeFlat_walk (v : Value) (qs : List AskD) (w : World) (hs : Sa w v qs) :
    Calls Try.prog 8 #[v] w fun e w' => e = .returned (.bool true) ∧ Below w.heap.size w w' := by
  obtain ⟨hok, hlen, ad, cap, rfl, hat0⟩ := hs
  have HA : Hid (∀ i (hi : i < qs.length), ∃ b off, ad = some ⟨b, off, none⟩ ∧ ∀ j, j < 15 → w.cell? ⟨b, off + i * 15 + j, none⟩ = (acells qs[i])[j]?) := hat0
  have HO : Hid (∀ q ∈ qs, AskOk q) := hok
  have hlen : qs.length ≤ 9223372036854775807 := hlen
  clear hat0 hok
  go_enter Try.func8, Try.ntmps8
  go_wp2_with fail
  go_loopw [3] (fun i wr => ∃ k : Nat, k ≤ qs.length ∧ k ≤ 8 ∧ i = .int .i64 k ∧ Below w.heap.size w wr) (fun i _ => 8 - (intOf i).toNat)
  case atStart => exact ⟨0, by omega, by omega, rfl, Below.refl _ _⟩
  case round =>
    obtain ⟨k, hk1, hk2, rfl, hbo⟩ := hrel
    have hszo := hbo.size
    by_cases hlt : k < qs.length
    · by_cases hlt2 : k < 8
      · obtain ⟨b, off, rfl, hat⟩ := HA.out k hlt
        have HQ : Hid (AskOk qs[k]) := HO.out _ (List.getElem_mem hlt)
        generalize qs[k] = q at hat HQ
        obtain ⟨a, b2, c, x, u, t⟩ := q
        simp only [acells] at hat
        have hbw : b < wr.heap.size := Nat.lt_of_lt_of_le (cell_lt (hat 0 (by omega))) hszo
        have c0 : wr.cell? ⟨b, off + k * 15, none⟩ = some (.int .u64 (lb a 0)) := (hbo.cell (p := ⟨b, off + k * 15, none⟩) (cell_lt (hat 0 (by omega)))).trans (hat 0 (by omega))
        have c1 : wr.cell? ⟨b, off + k * 15 + 1, none⟩ = some (.int .u64 (lb a 1)) := (hbo.cell (p := ⟨b, off + k * 15 + 1, none⟩) (cell_lt (hat 1 (by omega)))).trans (hat 1 (by omega))
        have c2 : wr.cell? ⟨b, off + k * 15 + 2, none⟩ = some (.int .u64 (lb a 2)) := (hbo.cell (p := ⟨b, off + k * 15 + 2, none⟩) (cell_lt (hat 2 (by omega)))).trans (hat 2 (by omega))
        have c3 : wr.cell? ⟨b, off + k * 15 + 3, none⟩ = some (.int .u64 (lb a 3)) := (hbo.cell (p := ⟨b, off + k * 15 + 3, none⟩) (cell_lt (hat 3 (by omega)))).trans (hat 3 (by omega))
        have c4 : wr.cell? ⟨b, off + k * 15 + 4, none⟩ = some (.int .u64 (lb b2 0)) := (hbo.cell (p := ⟨b, off + k * 15 + 4, none⟩) (cell_lt (hat 4 (by omega)))).trans (hat 4 (by omega))
        have c5 : wr.cell? ⟨b, off + k * 15 + 5, none⟩ = some (.int .u64 (lb b2 1)) := (hbo.cell (p := ⟨b, off + k * 15 + 5, none⟩) (cell_lt (hat 5 (by omega)))).trans (hat 5 (by omega))
        have c6 : wr.cell? ⟨b, off + k * 15 + 6, none⟩ = some (.int .u64 (lb b2 2)) := (hbo.cell (p := ⟨b, off + k * 15 + 6, none⟩) (cell_lt (hat 6 (by omega)))).trans (hat 6 (by omega))
        have c7 : wr.cell? ⟨b, off + k * 15 + 7, none⟩ = some (.int .u64 (lb b2 3)) := (hbo.cell (p := ⟨b, off + k * 15 + 7, none⟩) (cell_lt (hat 7 (by omega)))).trans (hat 7 (by omega))
        have c8 : wr.cell? ⟨b, off + k * 15 + 8, none⟩ = some (.int .u64 (lb c 0)) := (hbo.cell (p := ⟨b, off + k * 15 + 8, none⟩) (cell_lt (hat 8 (by omega)))).trans (hat 8 (by omega))
        have c9 : wr.cell? ⟨b, off + k * 15 + 9, none⟩ = some (.int .u64 (lb c 1)) := (hbo.cell (p := ⟨b, off + k * 15 + 9, none⟩) (cell_lt (hat 9 (by omega)))).trans (hat 9 (by omega))
        have c10 : wr.cell? ⟨b, off + k * 15 + 10, none⟩ = some (.int .u64 (lb c 2)) := (hbo.cell (p := ⟨b, off + k * 15 + 10, none⟩) (cell_lt (hat 10 (by omega)))).trans (hat 10 (by omega))
        have c11 : wr.cell? ⟨b, off + k * 15 + 11, none⟩ = some (.int .u64 (lb c 3)) := (hbo.cell (p := ⟨b, off + k * 15 + 11, none⟩) (cell_lt (hat 11 (by omega)))).trans (hat 11 (by omega))
        have c12 : wr.cell? ⟨b, off + k * 15 + 12, none⟩ = some (.int .i64 x) := (hbo.cell (p := ⟨b, off + k * 15 + 12, none⟩) (cell_lt (hat 12 (by omega)))).trans (hat 12 (by omega))
        have c13 : wr.cell? ⟨b, off + k * 15 + 13, none⟩ = some (.int .i64 u) := (hbo.cell (p := ⟨b, off + k * 15 + 13, none⟩) (cell_lt (hat 13 (by omega)))).trans (hat 13 (by omega))
        have c14 : wr.cell? ⟨b, off + k * 15 + 14, none⟩ = some (.int .i64 t) := (hbo.cell (p := ⟨b, off + k * 15 + 14, none⟩) (cell_lt (hat 14 (by omega)))).trans (hat 14 (by omega))
        clear hat
        obtain ⟨A, hA1, hA2, hA3⟩ := V_of (lb a 0) (lb a 1) 0 0 ⟨lb_bd a 0, lb_bd a 1, by omega, by omega⟩
        obtain ⟨D, hD1, hD2, hD3⟩ := V_of (Go.bits BinOp.or IntKind.u64 (lb c 0) 1) 0 0 0 ⟨by have := or_one c; omega, by omega, by omega, by omega⟩
        have hAl : A < 340282366920938463463374607431768211456 := by have h0 := lb_bd a 0; have h1 := lb_bd a 1; unfold val at hA3; omega
        have hDl : D < 18446744073709551616 := by have := or_one c; unfold val at hD3; omega
        have hD0 : 0 < D := by have := or_one c; unfold val at hD3; omega
        have hfl := fun w => fake_flat A D hAl hDl hD0 w
        have hfz := fun w => fake_zero b2 D HQ.out.b hD1 hD0 w
        have hfb := fun w => fake_bad A b2 w
        have HAE : Hid (Value.agg (A4 (lb a 0) (lb a 1) 0 0) = V A) := hA2
        have HDE : Hid (Value.agg (A4 (Go.bits BinOp.or IntKind.u64 (lb c 0) 1) 0 0 0) = V D) := hD2
        have eA : (A4 (lb a 0) (lb a 1) 0 0) = (A4 (lb (A) 0) (lb (A) 1) (lb (A) 2) (lb (A) 3)) := Value.agg.inj hA2
        have eD : (A4 (Go.bits BinOp.or IntKind.u64 (lb c 0) 1) 0 0 0) = (A4 (lb (D) 0) (lb (D) 1) (lb (D) 2) (lb (D) 3)) := Value.agg.inj hD2
        have HEA : Hid ((A4 (lb a 0) (lb a 1) 0 0) = (A4 (lb (A) 0) (lb (A) 1) (lb (A) 2) (lb (A) 3))) := eA
        have HED : Hid ((A4 (Go.bits BinOp.or IntKind.u64 (lb c 0) 1) 0 0 0) = (A4 (lb (D) 0) (lb (D) 1) (lb (D) 2) (lb (D) 3))) := eD
        have hwi := fun w => within t 1073741824 (by omega) (by omega) w
        clear hA1 hA2 hA3 hD2 hD3 eA eD
        go_upto_region 9 with fail
        have bA := (Bk.new wr (A4 (lb a 0) (lb a 1) 0 0) 25).alloc (.cells (A4 (Go.bits BinOp.or IntKind.u64 (lb c 0) 1) 0 0 0) 25)
        have bD : Bk ((wr.alloc (.cells (A4 (lb a 0) (lb a 1) 0 0) 25)).alloc (.cells (A4 (Go.bits BinOp.or IntKind.u64 (lb c 0) 1) 0 0 0) 25)) (wr.heap.size + 1) (A4 (Go.bits BinOp.or IntKind.u64 (lb c 0) 1) 0 0 0) 25 := Bk.new' _ _ _ (by simp)
        have hB1 := (hbo.alloc (by omega) (.cells (A4 (lb a 0) (lb a 1) 0 0) 25)).alloc (by simp; omega) (.cells (A4 (Go.bits BinOp.or IntKind.u64 (lb c 0) 1) 0 0 0) 25)
        have hbl1 : Below wr.heap.size wr ((wr.alloc (.cells (A4 (lb a 0) (lb a 1) 0 0) 25)).alloc (.cells (A4 (Go.bits BinOp.or IntKind.u64 (lb c 0) 1) 0 0 0) 25)) := ((Below.refl _ wr).alloc (Nat.le_refl _) _).alloc (by simp) _
        have c4 := (hbl1.cell (p := ⟨b, off + k * 15 + 4, none⟩) hbw).trans c4
        have c5 := (hbl1.cell (p := ⟨b, off + k * 15 + 5, none⟩) hbw).trans c5
        have c6 := (hbl1.cell (p := ⟨b, off + k * 15 + 6, none⟩) hbw).trans c6
        have c7 := (hbl1.cell (p := ⟨b, off + k * 15 + 7, none⟩) hbw).trans c7
        have c14 := (hbl1.cell (p := ⟨b, off + k * 15 + 14, none⟩) hbw).trans c14
        have hbw := Nat.lt_of_lt_of_le hbw hbl1.size
        have hP0 : wr.heap.size + 1 < ((wr.alloc (.cells (A4 (lb a 0) (lb a 1) 0 0) 25)).alloc (.cells (A4 (Go.bits BinOp.or IntKind.u64 (lb c 0) 1) 0 0 0) 25)).heap.size := by simp
        clear c0 c1 c2 c3 c8 c9 c10 c11 c12 c13 hbl1
        generalize World.alloc _ _ = w1 at *
        rw [HEA.out] at bA
        rw [HED.out] at bD
        obtain ⟨P, hP⟩ : ∃ P, P = wr.heap.size := ⟨_, rfl⟩
        rw [← hP] at bA bD hP0 hszo ⊢
        clear hP hbo
        have a0 := bA.cell 0
        have af0 := bA.frozen 0
        have a1 := bA.cell 1
        have af1 := bA.frozen 1
        have a2 := bA.cell 2
        have af2 := bA.frozen 2
        have a3 := bA.cell 3
        have af3 := bA.frozen 3
        simp only [List.getElem?_toArray, List.getElem?_cons_zero, List.getElem?_cons_succ] at a0 a1 a2 a3
        have y0 := bD.cell 0
        have yf0 := bD.frozen 0
        have y1 := bD.cell 1
        have yf1 := bD.frozen 1
        have y2 := bD.cell 2
        have yf2 := bD.frozen 2
        have y3 := bD.cell 3
        have yf3 := bD.frozen 3
        simp only [List.getElem?_toArray, List.getElem?_cons_zero, List.getElem?_cons_succ] at y0 y1 y2 y3
        go_upto_region 10 with (go_at_call 12; refine (hfl _).mono ?_; rintro e w3 ⟨rfl, hb3⟩)
        have bA4 := (bA.below hb3 bA.lt).alloc (.cells (A4 (lb (A) 0) (lb (A) 1) (lb (A) 2) (lb (A) 3)) 25)
        have bD4 := (bD.below hb3 bD.lt).alloc (.cells (A4 (lb (A) 0) (lb (A) 1) (lb (A) 2) (lb (A) 3)) 25)
        have bX4 := Bk.new w3 (A4 (lb (A) 0) (lb (A) 1) (lb (A) 2) (lb (A) 3)) 25
        have hs3 := hb3.size
        have hB4 := (hB1.trans (hb3.mono (by omega))).alloc (by omega) (.cells (A4 (lb (A) 0) (lb (A) 1) (lb (A) 2) (lb (A) 3)) 25)
        have hbl4 : Below w1.heap.size w1 (w3.alloc (.cells (A4 (lb (A) 0) (lb (A) 1) (lb (A) 2) (lb (A) 3)) 25)) := hb3.alloc (by omega) _
        have c4 := (hbl4.cell (p := ⟨b, off + k * 15 + 4, none⟩) hbw).trans c4
        have c5 := (hbl4.cell (p := ⟨b, off + k * 15 + 5, none⟩) hbw).trans c5
        have c6 := (hbl4.cell (p := ⟨b, off + k * 15 + 6, none⟩) hbw).trans c6
        have c7 := (hbl4.cell (p := ⟨b, off + k * 15 + 7, none⟩) hbw).trans c7
        have c14 := (hbl4.cell (p := ⟨b, off + k * 15 + 14, none⟩) hbw).trans c14
        have hbw := Nat.lt_of_lt_of_le hbw hbl4.size
        have hX0 : P + 1 < w3.heap.size := by omega
        obtain ⟨X, hX⟩ : ∃ X, X = w3.heap.size := ⟨_, rfl⟩
        rw [← hX] at bX4 hX0 ⊢
        clear hX hb3 hs3 hbl4 bA bD hB1 hP0 a0 a1 a2 a3 af0 af1 af2 af3 y0 y1 y2 y3 yf0 yf1 yf2 yf3 hfl HEA HED
        generalize w3.alloc _ = w4 at *
        have y0 := bD4.cell 0
        have yf0 := bD4.frozen 0
        have y1 := bD4.cell 1
        have yf1 := bD4.frozen 1
        have y2 := bD4.cell 2
        have yf2 := bD4.frozen 2
        have y3 := bD4.cell 3
        have yf3 := bD4.frozen 3
        simp only [List.getElem?_toArray, List.getElem?_cons_zero, List.getElem?_cons_succ] at y0 y1 y2 y3
        have lX := bX4.lt
        go_upto_region 10 with fail
        go_cut [8, 9] (fun p q wx => ∃ B, p = .pointer (some ⟨B, 0, none⟩) ∧ Bk wx B (A4 (lb (0) 0) (lb (0) 1) (lb (0) 2) (lb (0) 3)) 25 ∧ q = .int .i64 0 ∧ Below w4.heap.size w4 wx)
        case first =>
          have hT : Fb b (off + k * 15) (P + 1) b2 D w4 := ⟨c4, c5, c6, c7, y0, y1, y2, y3⟩
          go_region_held3 (fun w' => w'.cell? ⟨b, off + k * 15 + 4, none⟩ = some (.int .u64 (lb b2 0)) ∧ w'.cell? ⟨b, off + k * 15 + 5, none⟩ = some (.int .u64 (lb b2 1)) ∧ w'.cell? ⟨b, off + k * 15 + 6, none⟩ = some (.int .u64 (lb b2 2)) ∧ w'.cell? ⟨b, off + k * 15 + 7, none⟩ = some (.int .u64 (lb b2 3)) ∧ w'.cell? ⟨(P + 1), 0, none⟩ = some (.int .u64 (lb D 0)) ∧ w'.cell? ⟨(P + 1), 1, none⟩ = some (.int .u64 (lb D 1)) ∧ w'.cell? ⟨(P + 1), 2, none⟩ = some (.int .u64 (lb D 2)) ∧ w'.cell? ⟨(P + 1), 3, none⟩ = some (.int .u64 (lb D 3))) ((show Fb b (off + k * 15) (P + 1) b2 D _; repeat (first | with_reducible exact hT | with_reducible refine Fb.drew ?_ | with_reducible refine Fb.alloc ?_ _ | with_reducible refine Fb.set ?_ (by simp <;> omega) (by simp <;> omega) _))) ((go_at_call 12; refine (hfz _).mono ?_; rintro e w2 ⟨rfl, hb2⟩; have hT := Fb.below (b := b) (o := off + k * 15) (B := (P + 1)) (n := b2) (m := D) (by repeat (first | with_reducible exact hT | with_reducible refine Fb.drew ?_ | with_reducible refine Fb.alloc ?_ _)) hb2; have hsz2 := hb2.size; (try simp only [World.size_alloc, World.size_drew] at hsz2 hb2); have bw : Below w4.heap.size w4 w2 := Below.trans (by repeat (first | with_reducible exact Below.refl _ _ | with_reducible refine Below.drew ?_ | with_reducible refine Below.alloc ?_ (by first | omega | (simp <;> omega)) _)) (hb2.mono (by omega)); try (have hz := Bk.below (b := w4.heap.size) (vs := A4 0 0 0 0) (t := 25) (by first | with_reducible exact (Bk.new w4 _ _).drew | with_reducible exact ((Bk.new w4 _ _).alloc _).drew | with_reducible exact Bk.new w4 _ _ | with_reducible exact (Bk.new w4 _ _).alloc _) hb2 (by omega); have lz := hz.lt; have nz : ¬ w4.heap.size = w2.heap.size := (by omega); have z0 := hz.cell 0; have zf0 := hz.frozen 0; have z1 := hz.cell 1; have zf1 := hz.frozen 1; have z2 := hz.cell 2; have zf2 := hz.frozen 2; have z3 := hz.cell 3; have zf3 := hz.frozen 3; simp only [List.getElem?_toArray, List.getElem?_cons_zero, List.getElem?_cons_succ] at z0 z1 z2 z3); try (have hy := Bk.below (b := w4.heap.size + 1) (vs := A4 0 0 0 0) (t := 25) (by first | with_reducible exact (Bk.new' (w4.alloc _) _ _ (by simp)).drew | with_reducible exact Bk.new' (w4.alloc _) _ _ (by simp)) hb2 (by omega); have ly := hy.lt; have ny : ¬ w4.heap.size + 1 = w2.heap.size := (by omega); have y0 := hy.cell 0; have yf0 := hy.frozen 0; have y1 := hy.cell 1; have yf1 := hy.frozen 1; have y2 := hy.cell 2; have yf2 := hy.frozen 2; have y3 := hy.cell 3; have yf3 := hy.frozen 3; simp only [List.getElem?_toArray, List.getElem?_cons_zero, List.getElem?_cons_succ] at y0 y1 y2 y3)))
          all_goals
            go_wp2_with fail
            go_meet
            refine ⟨_, rfl, ?_, rfl, ?_⟩
            · repeat (first | with_reducible exact hz | with_reducible exact hy | with_reducible exact Bk.new _ _ _ | with_reducible exact Bk.new' _ _ _ (by simp) | with_reducible refine set4_Bk (x0 := .int .u64 0) (x1 := .int .u64 0) (x2 := .int .u64 0) (x3 := .int .u64 0) ?_ _ _ _ _ | with_reducible refine set4_other ?_ (by omega) _ _ _ _ | with_reducible refine Bk.alloc ?_ _)
            · repeat (first | with_reducible exact bw | with_reducible refine set4_below ?_ (by omega) _ _ _ _ | with_reducible refine Below.alloc ?_ (by first | omega | (simp <;> omega)) _)
        case rest =>
          obtain ⟨Y, rfl, bY, rfl, hbx⟩ := hcut
          have bA5 := bA4.below hbx bA4.lt
          have bX5 := bX4.below hbx bX4.lt
          have hB5 := hB4.trans (hbx.mono hB4.size)
          have c4 := (hbx.cell (p := ⟨b, off + k * 15 + 4, none⟩) hbw).trans c4
          have c5 := (hbx.cell (p := ⟨b, off + k * 15 + 5, none⟩) hbw).trans c5
          have c6 := (hbx.cell (p := ⟨b, off + k * 15 + 6, none⟩) hbw).trans c6
          have c7 := (hbx.cell (p := ⟨b, off + k * 15 + 7, none⟩) hbw).trans c7
          have c14 := (hbx.cell (p := ⟨b, off + k * 15 + 14, none⟩) hbw).trans c14
          have hbw := Nat.lt_of_lt_of_le hbw hbx.size
          obtain ⟨w5, rfl⟩ : ∃ w5 : World, w5 = wc := ⟨_, rfl⟩
          clear hbx bA4 bX4 bD4 hB4 y0 y1 y2 y3 yf0 yf1 yf2 yf3 hfz lX
          have lX := bX5.lt
          have y0 := bA5.cell 0
          have yf0 := bA5.frozen 0
          have y1 := bA5.cell 1
          have yf1 := bA5.frozen 1
          have y2 := bA5.cell 2
          have yf2 := bA5.frozen 2
          have y3 := bA5.cell 3
          have yf3 := bA5.frozen 3
          simp only [List.getElem?_toArray, List.getElem?_cons_zero, List.getElem?_cons_succ] at y0 y1 y2 y3
          go_upto_region 11 with fail
          go_cut [10, 11] (fun p q wx => ∃ B, p = .pointer (some ⟨B, 0, none⟩) ∧ Bk wx B (A4 (lb (0) 0) (lb (0) 1) (lb (0) 2) (lb (0) 3)) 25 ∧ q = .int .i64 1 ∧ Below w5.heap.size w5 wx)
          case first =>
            have hT : Fb b (off + k * 15) P b2 A w5 := ⟨c4, c5, c6, c7, y0, y1, y2, y3⟩
            go_region_held3 (fun w' => w'.cell? ⟨b, off + k * 15 + 4, none⟩ = some (.int .u64 (lb b2 0)) ∧ w'.cell? ⟨b, off + k * 15 + 5, none⟩ = some (.int .u64 (lb b2 1)) ∧ w'.cell? ⟨b, off + k * 15 + 6, none⟩ = some (.int .u64 (lb b2 2)) ∧ w'.cell? ⟨b, off + k * 15 + 7, none⟩ = some (.int .u64 (lb b2 3)) ∧ w'.cell? ⟨P, 0, none⟩ = some (.int .u64 (lb A 0)) ∧ w'.cell? ⟨P, 1, none⟩ = some (.int .u64 (lb A 1)) ∧ w'.cell? ⟨P, 2, none⟩ = some (.int .u64 (lb A 2)) ∧ w'.cell? ⟨P, 3, none⟩ = some (.int .u64 (lb A 3))) ((show Fb b (off + k * 15) P b2 A _; repeat (first | with_reducible exact hT | with_reducible refine Fb.drew ?_ | with_reducible refine Fb.alloc ?_ _ | with_reducible refine Fb.set ?_ (by simp <;> omega) (by simp <;> omega) _))) ((go_at_call 12; refine (hfb _).mono ?_; rintro e w2 ⟨rfl, hb2⟩; have hT := Fb.below (b := b) (o := off + k * 15) (B := P) (n := b2) (m := A) (by repeat (first | with_reducible exact hT | with_reducible refine Fb.drew ?_ | with_reducible refine Fb.alloc ?_ _)) hb2; have hsz2 := hb2.size; (try simp only [World.size_alloc, World.size_drew] at hsz2 hb2); have bw : Below w5.heap.size w5 w2 := Below.trans (by repeat (first | with_reducible exact Below.refl _ _ | with_reducible refine Below.drew ?_ | with_reducible refine Below.alloc ?_ (by first | omega | (simp <;> omega)) _)) (hb2.mono (by omega)); try (have hz := Bk.below (b := w5.heap.size) (vs := A4 0 0 0 0) (t := 25) (by first | with_reducible exact (Bk.new w5 _ _).drew | with_reducible exact ((Bk.new w5 _ _).alloc _).drew | with_reducible exact Bk.new w5 _ _ | with_reducible exact (Bk.new w5 _ _).alloc _) hb2 (by omega); have lz := hz.lt; have nz : ¬ w5.heap.size = w2.heap.size := (by omega); have z0 := hz.cell 0; have zf0 := hz.frozen 0; have z1 := hz.cell 1; have zf1 := hz.frozen 1; have z2 := hz.cell 2; have zf2 := hz.frozen 2; have z3 := hz.cell 3; have zf3 := hz.frozen 3; simp only [List.getElem?_toArray, List.getElem?_cons_zero, List.getElem?_cons_succ] at z0 z1 z2 z3); try (have hy := Bk.below (b := w5.heap.size + 1) (vs := A4 0 0 0 0) (t := 25) (by first | with_reducible exact (Bk.new' (w5.alloc _) _ _ (by simp)).drew | with_reducible exact Bk.new' (w5.alloc _) _ _ (by simp)) hb2 (by omega); have ly := hy.lt; have ny : ¬ w5.heap.size + 1 = w2.heap.size := (by omega); have y0 := hy.cell 0; have yf0 := hy.frozen 0; have y1 := hy.cell 1; have yf1 := hy.frozen 1; have y2 := hy.cell 2; have yf2 := hy.frozen 2; have y3 := hy.cell 3; have yf3 := hy.frozen 3; simp only [List.getElem?_toArray, List.getElem?_cons_zero, List.getElem?_cons_succ] at y0 y1 y2 y3)))
            all_goals
              go_wp2_with fail
              go_meet
              refine ⟨_, rfl, ?_, rfl, ?_⟩
              · repeat (first | with_reducible exact hz | with_reducible exact hy | with_reducible exact Bk.new _ _ _ | with_reducible exact Bk.new' _ _ _ (by simp) | with_reducible refine set4_Bk (x0 := .int .u64 0) (x1 := .int .u64 0) (x2 := .int .u64 0) (x3 := .int .u64 0) ?_ _ _ _ _ | with_reducible refine set4_other ?_ (by omega) _ _ _ _ | with_reducible refine Bk.alloc ?_ _)
              · repeat (first | with_reducible exact bw | with_reducible refine set4_below ?_ (by omega) _ _ _ _ | with_reducible refine Below.alloc ?_ (by first | omega | (simp <;> omega)) _)
          case rest =>
            obtain ⟨G, rfl, bG, rfl, hbx⟩ := hcut
            have bA6 := bA5.below hbx bA5.lt
            have bX6 := bX5.below hbx bX5.lt
            have bY6 := bY.below hbx bY.lt
            have hB6 := hB5.trans (hbx.mono hB5.size)
            have c4 := (hbx.cell (p := ⟨b, off + k * 15 + 4, none⟩) hbw).trans c4
            have c5 := (hbx.cell (p := ⟨b, off + k * 15 + 5, none⟩) hbw).trans c5
            have c6 := (hbx.cell (p := ⟨b, off + k * 15 + 6, none⟩) hbw).trans c6
            have c7 := (hbx.cell (p := ⟨b, off + k * 15 + 7, none⟩) hbw).trans c7
            have c14 := (hbx.cell (p := ⟨b, off + k * 15 + 14, none⟩) hbw).trans c14
            have hbw := Nat.lt_of_lt_of_le hbw hbx.size
            obtain ⟨w6, rfl⟩ : ∃ w6 : World, w6 = wc := ⟨_, rfl⟩
            clear hbx bA5 bX5 bY bG hB5 y0 y1 y2 y3 yf0 yf1 yf2 yf3 hfb lX
            go_upto_region 13 with (go_at_call 23; refine (hwi _).mono ?_; rintro e w7 ⟨⟨g, hg, rfl⟩, rfl⟩)
            have hnq : ∀ w, Calls Try.prog 19 #[V b2, .int .i64 (1 + (g : Int)), .int .i64 (1 + (g : Int))] w fun e w' => e = .returned (.tuple #[V b2, .int .i64 0]) ∧ Below w.heap.size w w' := fun w => by
              have := next_eq b2 (1 + g) (by omega) (by omega) w
              rw [show ((1 + g : Nat) : Int) = 1 + (g : Int) by omega] at this
              exact this
            have hxq : ∀ w, Calls Try.prog 22 #[.int .i64 (1 + (g : Int)), .int .i64 (1 + (g : Int)), .int .i64 (1 + (g : Int))] w fun e w' => e = .returned (.tuple #[.int .i64 (1 + (g : Int)), .int .i64 0]) ∧ w' = w := fun w => by
              have hm : exMay (1 + (g : Int)) (1 + (g : Int)) (1 + (g : Int)) = true := by rw [exMay_iff]; omega
              have := excess_yes (1 + (g : Int)) (1 + (g : Int)) (1 + (g : Int)) hm w
              rw [show exV (1 + (g : Int)) (1 + (g : Int)) (1 + (g : Int)) = 1 + (g : Int) by unfold exV; rw [if_pos hm, if_neg (by omega), if_neg (by omega)]; omega] at this
              exact this
            go_upto_region 15 with (first | (go_at_call 19; refine (hnq _).mono ?_; rintro e w8 ⟨rfl, hb8⟩) | (go_at_call 22; refine (hxq _).mono ?_; rintro e w9 ⟨rfl, rfl⟩))
            have bA9 := (bA6.below hb8 bA6.lt).alloc (.cells (A4 (lb (b2) 0) (lb (b2) 1) (lb (b2) 2) (lb (b2) 3)) 25)
            have bX9 := (bX6.below hb8 bX6.lt).alloc (.cells (A4 (lb (b2) 0) (lb (b2) 1) (lb (b2) 2) (lb (b2) 3)) 25)
            have bY9 := (bY6.below hb8 bY6.lt).alloc (.cells (A4 (lb (b2) 0) (lb (b2) 1) (lb (b2) 2) (lb (b2) 3)) 25)
            have bQ9 := Bk.new w8 (A4 (lb (b2) 0) (lb (b2) 1) (lb (b2) 2) (lb (b2) 3)) 25
            have hs8 := hb8.size
            have hB9 := (hB6.trans (hb8.mono hB6.size)).alloc (by have := hB6.size; omega) (.cells (A4 (lb (b2) 0) (lb (b2) 1) (lb (b2) 2) (lb (b2) 3)) 25)
            have hbl9 := hb8.alloc hs8 (.cells (A4 (lb (b2) 0) (lb (b2) 1) (lb (b2) 2) (lb (b2) 3)) 25)
            have c4 := (hbl9.cell (p := ⟨b, off + k * 15 + 4, none⟩) hbw).trans c4
            have c5 := (hbl9.cell (p := ⟨b, off + k * 15 + 5, none⟩) hbw).trans c5
            have c6 := (hbl9.cell (p := ⟨b, off + k * 15 + 6, none⟩) hbw).trans c6
            have c7 := (hbl9.cell (p := ⟨b, off + k * 15 + 7, none⟩) hbw).trans c7
            obtain ⟨Q, hQ⟩ : ∃ Q, Q = w8.heap.size := ⟨_, rfl⟩
            rw [← hQ] at bQ9 ⊢
            clear hQ hb8 hs8 hbl9 bA6 bX6 bY6 hB6 c14 hwi hnq hxq
            generalize w8.alloc _ = wz at *
            have h1 : ∀ w, (binOp .neq 25 (V A) (V A)).run Try.prog w = .ok (.bool false) w := fun w => by rw [neq26, eq4_same]; rfl
            have h2 : ∀ w, (binOp .neq 25 (V 0) (.agg (A4 0 0 0 0))).run Try.prog w = .ok (.bool false) w := fun w => by rw [neq26_0 0 (by decide)]; rfl
            have h3 : ∀ w, (binOp .neq 25 (V b2) (V b2)).run Try.prog w = .ok (.bool false) w := fun w => by rw [neq26, eq4_same]; rfl
            have a0 := bA9.cell 0
            have a1 := bA9.cell 1
            have a2 := bA9.cell 2
            have a3 := bA9.cell 3
            simp only [List.getElem?_toArray, List.getElem?_cons_zero, List.getElem?_cons_succ] at a0 a1 a2 a3
            have x0 := bX9.cell 0
            have x1 := bX9.cell 1
            have x2 := bX9.cell 2
            have x3 := bX9.cell 3
            simp only [List.getElem?_toArray, List.getElem?_cons_zero, List.getElem?_cons_succ] at x0 x1 x2 x3
            have y0 := bY9.cell 0
            have y1 := bY9.cell 1
            have y2 := bY9.cell 2
            have y3 := bY9.cell 3
            simp only [List.getElem?_toArray, List.getElem?_cons_zero, List.getElem?_cons_succ] at y0 y1 y2 y3
            have q0 := bQ9.cell 0
            have q1 := bQ9.cell 1
            have q2 := bQ9.cell 2
            have q3 := bQ9.cell 3
            simp only [List.getElem?_toArray, List.getElem?_cons_zero, List.getElem?_cons_succ] at q0 q1 q2 q3
            go_quiet ((go_at_call 14; exact Calls.quiet_of_same (num2_any _ _)))
            go_wp2_with fail
            go_roundw
            case rel => exact ⟨k + 1, by omega, by omega, by go_num, bdrewN hB9 _⟩
            case measure => simp [intOf]; omega
      · have hb8 : decide ((k : Int) < 8) = false := by simp; omega
        go_wp2_with (first | (go_at_call 20; refine (may11 _).mono ?_; rintro e w3 ⟨rfl, rfl⟩) | (go_at_call 15; refine (wakes2 _).mono ?_; rintro e w4 ⟨rfl, hb4⟩))
        go_ret
        exact ⟨rfl, hbo.trans (hb4.mono (by omega))⟩
    · have hbl2 : decide ((k : Int) < (qs.length : Int)) = false := by simp; omega
      go_wp2_with (first | (go_at_call 20; refine (may11 _).mono ?_; rintro e w3 ⟨rfl, rfl⟩) | (go_at_call 15; refine (wakes2 _).mono ?_; rintro e w4 ⟨rfl, hb4⟩))
      go_ret
      exact ⟨rfl, hbo.trans (hb4.mono (by omega))⟩
end Go.Proofs.Ytgolpadmcalimaa

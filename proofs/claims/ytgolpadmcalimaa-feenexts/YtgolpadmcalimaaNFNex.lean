import Derived.Test.YtgolpadmcalimaaAsks
import Derived.Test.YtgolpadmcalimaaRNext
import Derived.Test.YtgolpadmcalimaaExcess
import Derived.Test.YtgolpadmcalimaaBlob
import Derived.Test.YtgolpadmcalimaaWakes
import Derived.Deep.RegionWith
import Derived.Deep.DeepCutAuto
import Derived.Deep.CutBlock
set_option linter.unusedSimpArgs false
set_option linter.unusedVariables false
namespace Go.Proofs.Ytgolpadmcalimaa
open Go.RowKit

/-- May a block be so full, by its target? -/
def mnB (u t : Int) : Bool := decide (1 ≤ t) && decide (t ≤ 1073741824) && decide (0 ≤ u) && decide (u ≤ 2 * t)
theorem mnB_true {u t : Int} (h : mnB u t = true) : 1 ≤ t ∧ t ≤ 1073741824 ∧ 0 ≤ u ∧ u ≤ 2 * t := by simpa [mnB, and_assoc] using h
theorem mnB_false {u t : Int} (h : mnB u t = false) : t < 1 ∨ 1073741824 < t ∨ u < 0 ∨ 2 * t < u := by
  by_cases h1 : t < 1
  · exact .inl h1
  · by_cases h2 : 1073741824 < t
    · exact .inr (.inl h2)
    · by_cases h3 : u < 0
      · exact .inr (.inr (.inl h3))
      · by_cases h4 : 2 * t < u
        · exact .inr (.inr (.inr h4))
        · have : mnB u t = true := by simp [mnB]; omega
          rw [h] at this; simp at this
set_option maxHeartbeats 1000000 in
theorem mayNext (u t : Int) (hu : I64 u) (ht : I64 t) (w : World) : Calls Try.prog 20 #[.int .i64 u, .int .i64 t] w fun r w' => r = .returned (.bool (mnB u t)) ∧ w' = w := by
  unfold I64 at hu ht
  by_cases h1 : 1 ≤ t
  · by_cases h2 : t ≤ 1073741824
    · by_cases h3 : 0 ≤ u
      · by_cases h4 : u ≤ 2 * t
        · have e : mnB u t = true := by simp [mnB, h1, h2, h3, h4]
          rw [e]
          go_enter Try.func20, Try.ntmps20
          go_wp2
          go_ret
          exact ⟨rfl, rfl⟩
        · have e : mnB u t = false := by simp [mnB, h4]
          have hb : decide (u ≤ 2 * t) = false := by simp; omega
          rw [e]
          go_enter Try.func20, Try.ntmps20
          go_wp2
          go_ret
          exact ⟨rfl, rfl⟩
      · have e : mnB u t = false := by simp [mnB, h3]
        have hb : decide (0 ≤ u) = false := by simp; omega
        rw [e]
        go_enter Try.func20, Try.ntmps20
        go_wp2
        go_ret
        exact ⟨rfl, rfl⟩
    · have e : mnB u t = false := by simp [mnB, h2]
      have hb : decide (t ≤ 1073741824) = false := by simp; omega
      rw [e]
      go_enter Try.func20, Try.ntmps20
      go_wp2
      go_ret
      exact ⟨rfl, rfl⟩
  · have e : mnB u t = false := by simp [mnB, h1]
    have hb : decide (1 ≤ t) = false := by simp; omega
    rw [e]
    go_enter Try.func20, Try.ntmps20
    go_wp2
    go_ret
    exact ⟨rfl, rfl⟩
def nA (n : Nat) (u t : Int) : Nat := if mnB u t then nxV n u.toNat t.toNat else 0
def eA (n : Nat) (u t : Int) : Int := if mnB u t then nxE n u.toNat t.toNat else 1
theorem next_all (n : Nat) (u t : Int) (hn : n < M256) (hu : I64 u) (w : World) : Calls Try.prog 19 #[V n, .int .i64 u, .int .i64 t] w fun e w' => e = .returned (.tuple #[V (nA n u t), .int .i64 (eA n u t)]) ∧ Below w.heap.size w w' := by
  cases h : mnB u t
  · rw [show nA n u t = 0 by unfold nA; rw [h]; rfl, show eA n u t = 1 by unfold eA; rw [h]; rfl, V_zero]
    exact next_no n u t hu (mnB_false h) w
  · obtain ⟨h1, h2, h3, h4⟩ := mnB_true h
    have e1 : nA n u t = nxV n u.toNat t.toNat := by unfold nA; rw [h]; rfl
    have e2 : eA n u t = nxE n u.toNat t.toNat := by unfold eA; rw [h]; rfl
    have := next n u.toNat t.toNat hn (by omega) (by omega) (by omega) w
    rw [← e1, ← e2, show ((u.toNat : Nat) : Int) = u by omega, show ((t.toNat : Nat) : Int) = t by omega] at this
    exact this
theorem rnext_all (n : Nat) (u t : Int) (hn : n < M256) (h : mnB u t = true) (w : World) : Calls Try.prog 21 #[V n, .int .i64 u, .int .i64 t] w fun e w' => e = .returned (.tuple #[V (nA n u t), .bool (nxOk n u.toNat t.toNat)]) ∧ Below w.heap.size w w' := by
  obtain ⟨h1, h2, h3, h4⟩ := mnB_true h
  have e1 : nA n u t = nxV n u.toNat t.toNat := by unfold nA; rw [h]; rfl
  have := rnext n u.toNat t.toNat hn (by omega) (by omega) (by omega) w
  rw [← e1, show ((u.toNat : Nat) : Int) = u by omega, show ((t.toNat : Nat) : Int) = t by omega] at this
  exact this
set_option maxRecDepth 100000 in
set_option maxHeartbeats 2000000 in
theorem feeNexts_walk (v : Value) (qs : List AskD) (w : World) (hs : Sa w v qs) :
    Calls Try.prog 5 #[v] w fun e w' => e = .returned (.bool true) ∧ Below w.heap.size w w' := by
  obtain ⟨hok, hlen, ad, cap, rfl, hat0⟩ := hs
  have HA : Hid (∀ i (hi : i < qs.length), ∃ b off, ad = some ⟨b, off, none⟩ ∧ ∀ j, j < 15 → w.cell? ⟨b, off + i * 15 + j, none⟩ = (acells qs[i])[j]?) := hat0
  have HO : Hid (∀ q ∈ qs, AskOk q) := hok
  have hlen : qs.length ≤ 9223372036854775807 := hlen
  clear hat0 hok
  go_enter Try.func5, Try.ntmps5
  go_wp2_with fail
  go_loopw [3] (fun i wr => ∃ k : Nat, k ≤ qs.length ∧ k ≤ 8 ∧ i = .int .i64 k ∧ Below w.heap.size w wr) (fun i _ => 8 - (intOf i).toNat)
  case atStart => exact ⟨0, by omega, by omega, rfl, Below.refl _ _⟩
  case round =>
    obtain ⟨k, hk1, hk2, rfl, hbo⟩ := hrel
    have hszo := hbo.size
    by_cases hlt : k < qs.length
    · by_cases hlt2 : k < 8
      · obtain ⟨b, off, rfl, hat⟩ := HA.out k hlt
        have HQ : Hid (AskOk qs[k]) := HO.out _ (List.getElem_mem hlt)
        generalize qs[k] = q at hat HQ
        obtain ⟨a, b2, c, x, u, t⟩ := q
        simp only [acells] at hat
        have hbw : b < wr.heap.size := Nat.lt_of_lt_of_le (cell_lt (hat 0 (by omega))) hszo
        have c0 : wr.cell? ⟨b, off + k * 15, none⟩ = some (.int .u64 (lb a 0)) := (hbo.cell (p := ⟨b, off + k * 15, none⟩) (cell_lt (hat 0 (by omega)))).trans (hat 0 (by omega))
        have c1 : wr.cell? ⟨b, off + k * 15 + 1, none⟩ = some (.int .u64 (lb a 1)) := (hbo.cell (p := ⟨b, off + k * 15 + 1, none⟩) (cell_lt (hat 1 (by omega)))).trans (hat 1 (by omega))
        have c2 : wr.cell? ⟨b, off + k * 15 + 2, none⟩ = some (.int .u64 (lb a 2)) := (hbo.cell (p := ⟨b, off + k * 15 + 2, none⟩) (cell_lt (hat 2 (by omega)))).trans (hat 2 (by omega))
        have c3 : wr.cell? ⟨b, off + k * 15 + 3, none⟩ = some (.int .u64 (lb a 3)) := (hbo.cell (p := ⟨b, off + k * 15 + 3, none⟩) (cell_lt (hat 3 (by omega)))).trans (hat 3 (by omega))
        have c4 : wr.cell? ⟨b, off + k * 15 + 4, none⟩ = some (.int .u64 (lb b2 0)) := (hbo.cell (p := ⟨b, off + k * 15 + 4, none⟩) (cell_lt (hat 4 (by omega)))).trans (hat 4 (by omega))
        have c5 : wr.cell? ⟨b, off + k * 15 + 5, none⟩ = some (.int .u64 (lb b2 1)) := (hbo.cell (p := ⟨b, off + k * 15 + 5, none⟩) (cell_lt (hat 5 (by omega)))).trans (hat 5 (by omega))
        have c6 : wr.cell? ⟨b, off + k * 15 + 6, none⟩ = some (.int .u64 (lb b2 2)) := (hbo.cell (p := ⟨b, off + k * 15 + 6, none⟩) (cell_lt (hat 6 (by omega)))).trans (hat 6 (by omega))
        have c7 : wr.cell? ⟨b, off + k * 15 + 7, none⟩ = some (.int .u64 (lb b2 3)) := (hbo.cell (p := ⟨b, off + k * 15 + 7, none⟩) (cell_lt (hat 7 (by omega)))).trans (hat 7 (by omega))
        have c8 : wr.cell? ⟨b, off + k * 15 + 8, none⟩ = some (.int .u64 (lb c 0)) := (hbo.cell (p := ⟨b, off + k * 15 + 8, none⟩) (cell_lt (hat 8 (by omega)))).trans (hat 8 (by omega))
        have c9 : wr.cell? ⟨b, off + k * 15 + 9, none⟩ = some (.int .u64 (lb c 1)) := (hbo.cell (p := ⟨b, off + k * 15 + 9, none⟩) (cell_lt (hat 9 (by omega)))).trans (hat 9 (by omega))
        have c10 : wr.cell? ⟨b, off + k * 15 + 10, none⟩ = some (.int .u64 (lb c 2)) := (hbo.cell (p := ⟨b, off + k * 15 + 10, none⟩) (cell_lt (hat 10 (by omega)))).trans (hat 10 (by omega))
        have c11 : wr.cell? ⟨b, off + k * 15 + 11, none⟩ = some (.int .u64 (lb c 3)) := (hbo.cell (p := ⟨b, off + k * 15 + 11, none⟩) (cell_lt (hat 11 (by omega)))).trans (hat 11 (by omega))
        have c12 : wr.cell? ⟨b, off + k * 15 + 12, none⟩ = some (.int .i64 x) := (hbo.cell (p := ⟨b, off + k * 15 + 12, none⟩) (cell_lt (hat 12 (by omega)))).trans (hat 12 (by omega))
        have c13 : wr.cell? ⟨b, off + k * 15 + 13, none⟩ = some (.int .i64 u) := (hbo.cell (p := ⟨b, off + k * 15 + 13, none⟩) (cell_lt (hat 13 (by omega)))).trans (hat 13 (by omega))
        have c14 : wr.cell? ⟨b, off + k * 15 + 14, none⟩ = some (.int .i64 t) := (hbo.cell (p := ⟨b, off + k * 15 + 14, none⟩) (cell_lt (hat 14 (by omega)))).trans (hat 14 (by omega))
        clear hat
        have hnx := fun w => next_all a u t HQ.out.a HQ.out.u w
        have hmn := fun w => mayNext u t HQ.out.u HQ.out.t w
        go_upto_region 5 with fail
        have bP := Bk.new wr #[.int .u64 (lb a 0), .int .u64 (lb a 1), .int .u64 (lb a 2), .int .u64 (lb a 3), .int .u64 (lb b2 0), .int .u64 (lb b2 1), .int .u64 (lb b2 2), .int .u64 (lb b2 3), .int .u64 (lb c 0), .int .u64 (lb c 1), .int .u64 (lb c 2), .int .u64 (lb c 3), .int .i64 x, .int .i64 u, .int .i64 t] 30
        have hB1 := hbo.alloc (by omega) (.cells #[.int .u64 (lb a 0), .int .u64 (lb a 1), .int .u64 (lb a 2), .int .u64 (lb a 3), .int .u64 (lb b2 0), .int .u64 (lb b2 1), .int .u64 (lb b2 2), .int .u64 (lb b2 3), .int .u64 (lb c 0), .int .u64 (lb c 1), .int .u64 (lb c 2), .int .u64 (lb c 3), .int .i64 x, .int .i64 u, .int .i64 t] 30)
        have hP0 : wr.heap.size < (wr.alloc (.cells #[.int .u64 (lb a 0), .int .u64 (lb a 1), .int .u64 (lb a 2), .int .u64 (lb a 3), .int .u64 (lb b2 0), .int .u64 (lb b2 1), .int .u64 (lb b2 2), .int .u64 (lb b2 3), .int .u64 (lb c 0), .int .u64 (lb c 1), .int .u64 (lb c 2), .int .u64 (lb c 3), .int .i64 x, .int .i64 u, .int .i64 t] 30)).heap.size := by simp
        clear c0 c1 c2 c3 c4 c5 c6 c7 c8 c9 c10 c11 c12 c13 c14
        generalize wr.alloc _ = w1 at *
        obtain ⟨P, hP⟩ : ∃ P, P = wr.heap.size := ⟨_, rfl⟩
        rw [← hP] at bP hP0 hszo ⊢
        clear hP hbo hbw
        have p0 := bP.cell 0
        have p1 := bP.cell 1
        have p2 := bP.cell 2
        have p3 := bP.cell 3
        have p12 := bP.cell 12
        have p13 := bP.cell 13
        have p14 := bP.cell 14
        simp only [List.getElem?_toArray, List.getElem?_cons_zero, List.getElem?_cons_succ] at p0 p1 p2 p3 p12 p13 p14
        go_upto_region 7 with (go_at_call 19; refine (hnx _).mono ?_; rintro e w2 ⟨rfl, hb2⟩)
        obtain ⟨v, hv⟩ : ∃ v, v = nA a u t := ⟨_, rfl⟩
        obtain ⟨e9, he9⟩ : ∃ e9, e9 = eA a u t := ⟨_, rfl⟩
        rw [← hv, ← he9]
        have HV : Hid (v = nA a u t) := hv
        have HE : Hid (e9 = eA a u t) := he9
        clear hv he9
        have bP3 := ((bP.below hb2 bP.lt).alloc (.cells (A4 (lb (v) 0) (lb (v) 1) (lb (v) 2) (lb (v) 3)) 25)).alloc (.cells (A4 0 0 0 0) 25)
        have bX3 := (Bk.new w2 (A4 (lb (v) 0) (lb (v) 1) (lb (v) 2) (lb (v) 3)) 25).alloc (.cells (A4 0 0 0 0) 25)
        have bW3 : Bk ((w2.alloc (.cells (A4 (lb (v) 0) (lb (v) 1) (lb (v) 2) (lb (v) 3)) 25)).alloc (.cells (A4 0 0 0 0) 25)) (w2.heap.size + 1) (A4 0 0 0 0) 25 := Bk.new' _ _ _ (by simp)
        have hs2 := hb2.size
        have hB3 := ((hB1.trans (hb2.mono (by omega))).alloc (by omega) (.cells (A4 (lb (v) 0) (lb (v) 1) (lb (v) 2) (lb (v) 3)) 25)).alloc (by simp; omega) (.cells (A4 0 0 0 0) 25)
        have hX0 : P < w2.heap.size := by omega
        obtain ⟨X, hX⟩ : ∃ X, X = w2.heap.size := ⟨_, rfl⟩
        rw [← hX] at bX3 bW3 hX0 ⊢
        clear hX hb2 hs2 bP hB1 hP0 p0 p1 p2 p3 p12 p13 p14 hnx
        generalize World.alloc _ _ = w3 at *
        have lX := bX3.lt
        have lW := bW3.lt
        have p0 := bP3.cell 0
        have p1 := bP3.cell 1
        have p2 := bP3.cell 2
        have p3 := bP3.cell 3
        have p12 := bP3.cell 12
        have p13 := bP3.cell 13
        have p14 := bP3.cell 14
        simp only [List.getElem?_toArray, List.getElem?_cons_zero, List.getElem?_cons_succ] at p0 p1 p2 p3 p12 p13 p14
        go_upto_if 43 with (go_at_call 20; refine (hmn _).mono ?_; rintro e w4 ⟨rfl, rfl⟩)
        go_cut [7] (fun q wx => q = .int .i64 e9 ∧ Bk wx P #[.int .u64 (lb a 0), .int .u64 (lb a 1), .int .u64 (lb a 2), .int .u64 (lb a 3), .int .u64 (lb b2 0), .int .u64 (lb b2 1), .int .u64 (lb b2 2), .int .u64 (lb b2 3), .int .u64 (lb c 0), .int .u64 (lb c 1), .int .u64 (lb c 2), .int .u64 (lb c 3), .int .i64 x, .int .i64 u, .int .i64 t] 30 ∧ Bk wx X (A4 (lb (v) 0) (lb (v) 1) (lb (v) 2) (lb (v) 3)) 25 ∧ Bk wx (X + 1) (A4 (lb (v) 0) (lb (v) 1) (lb (v) 2) (lb (v) 3)) 25 ∧ Below w.heap.size w wx)
        case first =>
          cases hmb : mnB u t
          · have h1 : v = 0 := by rw [HV.out]; unfold nA; rw [hmb]; rfl
            have h2 : e9 = 1 := by rw [HE.out]; unfold eA; rw [hmb]; rfl
            subst h1 h2
            have bW3' : Bk w4 (X + 1) (A4 (lb (0) 0) (lb (0) 1) (lb (0) 2) (lb (0) 3)) 25 := by simpa only [lb_zero] using bW3
            go_wp2_with fail
            go_meet
            exact ⟨rfl, bP3, bX3, bW3', hB3⟩
          · have hrn := fun w => rnext_all a u t HQ.out.a hmb w
            rw [← HV.out] at hrn
            have hE2 : e9 = if nxOk a u.toNat t.toNat then 0 else 8 := by rw [HE.out]; unfold eA; rw [hmb]; rfl
            have hV2 : nxOk a u.toNat t.toNat = false → v = 0 := fun h => by rw [HV.out]; unfold nA nxV; rw [hmb, h]; rfl
            have HRN : Hid (∀ w, Calls Try.prog 21 #[V a, .int .i64 u, .int .i64 t] w fun e w' => e = .returned (.tuple #[V v, .bool (nxOk a u.toNat t.toNat)]) ∧ Below w.heap.size w w') := hrn
            clear hrn hmb
            cases hok : nxOk a u.toNat t.toNat
            · have h1 := hV2 hok
              have h2 : e9 = 8 := by rw [hE2, hok]; rfl
              rw [hok] at HRN
              subst h1 h2
              clear hE2 hV2 hok
              go_wp2_with (go_at_call 21; refine (HRN.out _).mono ?_; rintro e w5 ⟨rfl, hb5⟩)
              go_meet
              refine ⟨rfl, (bP3.below hb5 bP3.lt).alloc _, (bX3.below hb5 bX3.lt).alloc _, ?_, (hB3.trans (hb5.mono hB3.size)).alloc (by have := hB3.size; have := hb5.size; omega) _⟩
              have := (bW3.below hb5 bW3.lt).alloc (.cells (A4 (lb (0) 0) (lb (0) 1) (lb (0) 2) (lb (0) 3)) 25)
              simpa only [lb_zero] using this
            · have h2 : e9 = 0 := by rw [hE2, hok]; rfl
              rw [hok] at HRN
              subst h2
              clear hE2 hV2 hok
              go_upto_region 11 with (go_at_call 21; refine (HRN.out _).mono ?_; rintro e w5 ⟨rfl, hb5⟩)
              have bP5 := (bP3.below hb5 bP3.lt).alloc (.cells (A4 (lb (v) 0) (lb (v) 1) (lb (v) 2) (lb (v) 3)) 25)
              have bX5 := (bX3.below hb5 bX3.lt).alloc (.cells (A4 (lb (v) 0) (lb (v) 1) (lb (v) 2) (lb (v) 3)) 25)
              have bW5 := (bW3.below hb5 bW3.lt).alloc (.cells (A4 (lb (v) 0) (lb (v) 1) (lb (v) 2) (lb (v) 3)) 25)
              have bY5 := Bk.new w5 (A4 (lb (v) 0) (lb (v) 1) (lb (v) 2) (lb (v) 3)) 25
              have hs5 := hb5.size
              have hB5 := (hB3.trans (hb5.mono hB3.size)).alloc (by have := hB3.size; omega) (.cells (A4 (lb (v) 0) (lb (v) 1) (lb (v) 2) (lb (v) 3)) 25)
              have hY0 : X + 1 < w5.heap.size := by omega
              obtain ⟨Y, hY⟩ : ∃ Y, Y = w5.heap.size := ⟨_, rfl⟩
              rw [← hY] at bY5 hY0 ⊢
              clear hY hb5 hs5
              generalize World.alloc _ _ = w6 at *
              have lW5 := bW5.lt
              have y0 := bY5.cell 0
              have yf0 := bY5.frozen 0
              have y1 := bY5.cell 1
              have yf1 := bY5.frozen 1
              have y2 := bY5.cell 2
              have yf2 := bY5.frozen 2
              have y3 := bY5.cell 3
              have yf3 := bY5.frozen 3
              simp only [List.getElem?_toArray, List.getElem?_cons_zero, List.getElem?_cons_succ] at y0 y1 y2 y3
              have z0 := bW5.cell 0
              have zf0 := bW5.frozen 0
              have z1 := bW5.cell 1
              have zf1 := bW5.frozen 1
              have z2 := bW5.cell 2
              have zf2 := bW5.frozen 2
              have z3 := bW5.cell 3
              have zf3 := bW5.frozen 3
              simp only [List.getElem?_toArray, List.getElem?_cons_zero, List.getElem?_cons_succ] at z0 z1 z2 z3
              go_region
              go_wp2_with fail
              go_meet
              exact ⟨rfl, (set4_other bP5 (by omega) _ _ _ _).drew, (set4_other bX5 (by omega) _ _ _ _).drew, (set4_Bk bW5 _ _ _ _).drew, (set4_below hB5 (by have := hB3.size; have := bP3.lt; omega) _ _ _ _).drew⟩
        case rest =>
          obtain ⟨rfl, bP, bX, bW, hB⟩ := hcut
          obtain ⟨w7, rfl⟩ : ∃ w7 : World, w7 = wc := ⟨_, rfl⟩
          clear bP3 bX3 bW3 hB3 HV HE hmn p0 p1 p2 p3 p12 p13 p14
          have he : ∀ w, (binOp .neq 25 (V v) (V v)).run Try.prog w = .ok (.bool false) w := fun w => by rw [neq26, eq4_same]; rfl
          have hb7 : b < b + 1 := by omega
          have x0 := bX.cell 0
          have xf0 := bX.frozen 0
          have x1 := bX.cell 1
          have xf1 := bX.frozen 1
          have x2 := bX.cell 2
          have xf2 := bX.frozen 2
          have x3 := bX.cell 3
          have xf3 := bX.frozen 3
          simp only [List.getElem?_toArray, List.getElem?_cons_zero, List.getElem?_cons_succ] at x0 x1 x2 x3
          have z0 := bW.cell 0
          have zf0 := bW.frozen 0
          have z1 := bW.cell 1
          have zf1 := bW.frozen 1
          have z2 := bW.cell 2
          have zf2 := bW.frozen 2
          have z3 := bW.cell 3
          have zf3 := bW.frozen 3
          simp only [List.getElem?_toArray, List.getElem?_cons_zero, List.getElem?_cons_succ] at z0 z1 z2 z3
          have p12 := bP.cell 12
          have p13 := bP.cell 13
          have p14 := bP.cell 14
          simp only [List.getElem?_toArray, List.getElem?_cons_zero, List.getElem?_cons_succ] at p12 p13 p14
          have hNx := fun w => numIn x 1099511627776 w
          have hNu := fun w => numIn u 1073741824 w
          have hNt := fun w => numIn t 1073741824 w
          have hex : ∀ w, Calls Try.prog 22 #[.int .i64 x, .int .i64 u, .int .i64 t] w fun e w' => e = .returned (.tuple #[.int .i64 (exV x u t), .int .i64 (exE x u t)]) ∧ w' = w := fun w => by
            cases hm : exMay x u t
            · rw [show exV x u t = 0 by unfold exV; rw [hm]; rfl, show exE x u t = 1 by unfold exE; rw [hm]; rfl]
              exact excess_no x u t hm w
            · rw [show exE x u t = 0 by unfold exE; rw [hm]; rfl]
              exact excess_yes x u t hm w
          obtain ⟨m, hm⟩ : ∃ m, m = exV x u t := ⟨_, rfl⟩
          obtain ⟨f9, hf⟩ : ∃ f9, f9 = exE x u t := ⟨_, rfl⟩
          rw [← hm, ← hf] at hex
          have HM : Hid (m = exV x u t) := hm
          have HF : Hid (f9 = exE x u t) := hf
          clear hm hf
          go_upto_region 16 with (first | (go_at_call 14; refine (num2_any _ _).mono ?_; rintro e w9 ⟨rfl, rfl⟩) | (go_at_call 22; refine (hex _).mono ?_; rintro e w8 ⟨rfl, rfl⟩))
          clear x0 x1 x2 x3 xf0 xf1 xf2 xf3 z0 z1 z2 z3 zf0 zf1 zf2 zf3 hex he
          cases hmy : exMay x u t
          · have h1 : m = 0 := by rw [HM.out]; unfold exV; rw [hmy]; rfl
            have h2 : f9 = 1 := by rw [HF.out]; unfold exE; rw [hmy]; rfl
            subst h1 h2
            cases gx : inB x 1099511627776
            · rw [gx] at hNx
              clear gx hmy HM HF
              go_wp2_with (first | (go_at_call_of 17 (Value.int IntKind.i64 x); refine (hNx _).mono ?_; rintro e w1 ⟨rfl, rfl⟩) | (go_at_call_of 17 (Value.int IntKind.i64 u); refine (hNu _).mono ?_; rintro e w1 ⟨rfl, rfl⟩) | (go_at_call_of 17 (Value.int IntKind.i64 t); refine (hNt _).mono ?_; rintro e w1 ⟨rfl, rfl⟩) | (go_at_call 14; refine (num2_any _ _).mono ?_; rintro e w9 ⟨rfl, rfl⟩))
              go_roundw
              case rel => exact ⟨k + 1, by omega, by omega, by go_num, (by first | exact hB | exact hB.drew)⟩
              case measure => simp [intOf]; omega
            · cases gu : inB u 1073741824
              · rw [gx] at hNx
                rw [gu] at hNu
                clear gx gu hmy HM HF
                go_wp2_with (first | (go_at_call_of 17 (Value.int IntKind.i64 x); refine (hNx _).mono ?_; rintro e w1 ⟨rfl, rfl⟩) | (go_at_call_of 17 (Value.int IntKind.i64 u); refine (hNu _).mono ?_; rintro e w1 ⟨rfl, rfl⟩) | (go_at_call_of 17 (Value.int IntKind.i64 t); refine (hNt _).mono ?_; rintro e w1 ⟨rfl, rfl⟩) | (go_at_call 14; refine (num2_any _ _).mono ?_; rintro e w9 ⟨rfl, rfl⟩))
                go_roundw
                case rel => exact ⟨k + 1, by omega, by omega, by go_num, (by first | exact hB | exact hB.drew)⟩
                case measure => simp [intOf]; omega
              · have gt : inB t 1073741824 = false := by simpa [exMay, gx, gu] using hmy
                rw [gx] at hNx
                rw [gu] at hNu
                rw [gt] at hNt
                clear gx gu gt hmy HM HF
                go_wp2_with (first | (go_at_call_of 17 (Value.int IntKind.i64 x); refine (hNx _).mono ?_; rintro e w1 ⟨rfl, rfl⟩) | (go_at_call_of 17 (Value.int IntKind.i64 u); refine (hNu _).mono ?_; rintro e w1 ⟨rfl, rfl⟩) | (go_at_call_of 17 (Value.int IntKind.i64 t); refine (hNt _).mono ?_; rintro e w1 ⟨rfl, rfl⟩) | (go_at_call 14; refine (num2_any _ _).mono ?_; rintro e w9 ⟨rfl, rfl⟩))
                go_roundw
                case rel => exact ⟨k + 1, by omega, by omega, by go_num, (by first | exact hB | exact hB.drew)⟩
                case measure => simp [intOf]; omega
          · have hb := (exMay_iff x u t).1 hmy
            have h2 : f9 = 0 := by rw [HF.out]; unfold exE; rw [hmy]; rfl
            subst h2
            obtain ⟨⟨⟨x0, x1⟩, u0, u1⟩, t0, t1⟩ := hb
            have gx : inB x 1099511627776 = true := by simp [inB, x0, x1]
            have gu : inB u 1073741824 = true := by simp [inB, u0, u1]
            have gt : inB t 1073741824 = true := by simp [inB, t0, t1]
            rw [gx] at hNx
            rw [gu] at hNu
            rw [gt] at hNt
            by_cases hA : x + u - t ≤ 0
            · have h1 : m = 0 := by rw [HM.out]; unfold exV; rw [if_pos hmy, if_pos hA]
              subst h1
              have hA' : ¬ 0 < x + u - t := by omega
              clear gx gu gt hmy HM HF
              go_wp2_with (first | (go_at_call_of 17 (Value.int IntKind.i64 x); refine (hNx _).mono ?_; rintro e w1 ⟨rfl, rfl⟩) | (go_at_call_of 17 (Value.int IntKind.i64 u); refine (hNu _).mono ?_; rintro e w1 ⟨rfl, rfl⟩) | (go_at_call_of 17 (Value.int IntKind.i64 t); refine (hNt _).mono ?_; rintro e w1 ⟨rfl, rfl⟩) | (go_at_call 14; refine (num2_any _ _).mono ?_; rintro e w9 ⟨rfl, rfl⟩))
              go_region
              go_wp2_with (first | (go_at_call_of 17 (Value.int IntKind.i64 x); refine (hNx _).mono ?_; rintro e w1 ⟨rfl, rfl⟩) | (go_at_call_of 17 (Value.int IntKind.i64 u); refine (hNu _).mono ?_; rintro e w1 ⟨rfl, rfl⟩) | (go_at_call_of 17 (Value.int IntKind.i64 t); refine (hNt _).mono ?_; rintro e w1 ⟨rfl, rfl⟩) | (go_at_call 14; refine (num2_any _ _).mono ?_; rintro e w9 ⟨rfl, rfl⟩))
              go_roundw
              case rel => exact ⟨k + 1, by omega, by omega, by go_num, (by first | exact hB | exact hB.drew)⟩
              case measure => simp [intOf]; omega
            · by_cases hBB : 1099511627776 ≤ x + u - t
              · have h1 : m = 1099511627776 := by rw [HM.out]; unfold exV; rw [if_pos hmy, if_neg hA, if_pos hBB]
                subst h1
                clear gx gu gt hmy HM HF
                go_wp2_with (first | (go_at_call_of 17 (Value.int IntKind.i64 x); refine (hNx _).mono ?_; rintro e w1 ⟨rfl, rfl⟩) | (go_at_call_of 17 (Value.int IntKind.i64 u); refine (hNu _).mono ?_; rintro e w1 ⟨rfl, rfl⟩) | (go_at_call_of 17 (Value.int IntKind.i64 t); refine (hNt _).mono ?_; rintro e w1 ⟨rfl, rfl⟩) | (go_at_call 14; refine (num2_any _ _).mono ?_; rintro e w9 ⟨rfl, rfl⟩))
                go_region
                go_wp2_with (first | (go_at_call_of 17 (Value.int IntKind.i64 x); refine (hNx _).mono ?_; rintro e w1 ⟨rfl, rfl⟩) | (go_at_call_of 17 (Value.int IntKind.i64 u); refine (hNu _).mono ?_; rintro e w1 ⟨rfl, rfl⟩) | (go_at_call_of 17 (Value.int IntKind.i64 t); refine (hNt _).mono ?_; rintro e w1 ⟨rfl, rfl⟩) | (go_at_call 14; refine (num2_any _ _).mono ?_; rintro e w9 ⟨rfl, rfl⟩))
                go_roundw
                case rel => exact ⟨k + 1, by omega, by omega, by go_num, (by first | exact hB | exact hB.drew)⟩
                case measure => simp [intOf]; omega
              · have h1 : m = x + u - t := by rw [HM.out]; unfold exV; rw [if_pos hmy, if_neg hA, if_neg hBB]
                subst h1
                clear gx gu gt hmy HM HF
                go_wp2_with (first | (go_at_call_of 17 (Value.int IntKind.i64 x); refine (hNx _).mono ?_; rintro e w1 ⟨rfl, rfl⟩) | (go_at_call_of 17 (Value.int IntKind.i64 u); refine (hNu _).mono ?_; rintro e w1 ⟨rfl, rfl⟩) | (go_at_call_of 17 (Value.int IntKind.i64 t); refine (hNt _).mono ?_; rintro e w1 ⟨rfl, rfl⟩) | (go_at_call 14; refine (num2_any _ _).mono ?_; rintro e w9 ⟨rfl, rfl⟩))
                go_region
                go_wp2_with (first | (go_at_call_of 17 (Value.int IntKind.i64 x); refine (hNx _).mono ?_; rintro e w1 ⟨rfl, rfl⟩) | (go_at_call_of 17 (Value.int IntKind.i64 u); refine (hNu _).mono ?_; rintro e w1 ⟨rfl, rfl⟩) | (go_at_call_of 17 (Value.int IntKind.i64 t); refine (hNt _).mono ?_; rintro e w1 ⟨rfl, rfl⟩) | (go_at_call 14; refine (num2_any _ _).mono ?_; rintro e w9 ⟨rfl, rfl⟩))
                go_roundw
                case rel => exact ⟨k + 1, by omega, by omega, by go_num, (by first | exact hB | exact hB.drew)⟩
                case measure => simp [intOf]; omega
      · have hb8 : decide ((k : Int) < 8) = false := by simp; omega
        go_wp2_with (go_at_call 15; refine (wakes2 _).mono ?_; rintro e w4 ⟨rfl, hb4⟩)
        go_ret
        exact ⟨rfl, hbo.trans (hb4.mono (by omega))⟩
    · have hbl2 : decide ((k : Int) < (qs.length : Int)) = false := by simp; omega
      go_wp2_with (go_at_call 15; refine (wakes2 _).mono ?_; rintro e w4 ⟨rfl, hb4⟩)
      go_ret
      exact ⟨rfl, hbo.trans (hb4.mono (by omega))⟩
end Go.Proofs.Ytgolpadmcalimaa

import Derived.Test.YtljfenjpnanoiaaAsks
import Derived.Test.YtljfenjpnanoiaaRiseM
import Derived.Test.YtljfenjpnanoiaaBlob
import Derived.Test.YtljfenjpnanoiaaWithin
import Derived.Test.YtljfenjpnanoiaaCmp
import Derived.Test.YtljfenjpnanoiaaWakes
import Derived.Deep.RegionWith
import Derived.Deep.DeepCutAuto
import Derived.Deep.CutBlock
set_option linter.unusedSimpArgs false
set_option linter.unusedVariables false
namespace Go.Proofs.Ytljfenjpnanoiaa
open Go.RowKit

theorem cmp_gt0 {n m : Nat} (h : n ≤ m) : decide (0 < cmpV n m) = false := by
  unfold cmpV
  split
  · decide
  · split
    · decide
    · exfalso; omega
theorem cmp_lt0 {n m : Nat} (h : m ≤ n) : decide (cmpV n m < 0) = false := by
  unfold cmpV
  rw [if_neg (by omega)]
  split <;> decide
theorem withinC (i : Int) (g : Nat) (hg : g < 536870912) (w : World) : Calls Try.prog 16 #[.int .i64 i, .int .i64 (1 + (g : Int) + 1)] w fun e w' => (∃ k : Nat, k < g + 2 ∧ e = .returned (.int .i64 (k : Int))) ∧ w' = w := by
  have h := within i (g + 2) (by omega) (by omega) w
  rw [show ((g + 2 : Nat) : Int) = 1 + (g : Int) + 1 by omega] at h
  exact h
theorem blobC (a b : Nat) (h : a + b ≤ 1099511627776) (w : World) : Calls Try.prog 24 #[.int .i64 ((a : Int) + (b : Int))] w fun e w' => (∃ v, e = .returned (.tuple #[V v, .int .i64 0]) ∧ BlobS (a + b) v) ∧ Below w.heap.size w w' := by
  have h := blob (a + b) h w
  rw [show ((a + b : Nat) : Int) = (a : Int) + (b : Int) by omega] at h
  exact h
theorem nextG (n u t : Nat) (U' T' : Int) (hU : U' = u) (hT : T' = t) (hn : n < 6277101735386680763835789423207666416102355444464034512896) (t1 : 1 ≤ t) (t2 : t ≤ 1073741824) (hu : u ≤ 2 * t) (w : World) : Calls Try.prog 26 #[V n, .int .i64 U', .int .i64 T'] w fun e w' => e = .returned (.tuple #[V (nxV n u t), .int .i64 0]) ∧ Below w.heap.size w w' := by
  have h := next n u t (by unfold M256; omega) t1 t2 hu w
  rw [show nxE n u t = 0 from if_pos (nx_ok n u t hn t1 t2 hu), ← hU, ← hT] at h
  exact h
theorem low_three (a : Nat) : ∃ n : Nat, n < 6277101735386680763835789423207666416102355444464034512896 ∧ (#[.int .u64 (lb a 0), .int .u64 (lb a 1), .int .u64 (lb a 2), .int .u64 0] : Array Value) = (A4 (lb (n) 0) (lb (n) 1) (lb (n) 2) (lb (n) 3)) := by
  have hl := lb_lim a
  obtain ⟨n, h1, h2, h3⟩ := V_of (lb a 0) (lb a 1) (lb a 2) 0 (by unfold Lim at *; omega)
  refine ⟨n, ?_, by simpa [V] using h2⟩
  unfold Lim at hl; unfold val at h3; omega
set_option maxRecDepth 100000 in
set_option maxHeartbeats 4000000 in
theorem feeRises_walk (v : Value) (qs : List AskD) (w : World) (hs : Sa w v qs) :
    Calls Try.prog 8 #[v] w fun e w' => e = .returned (.bool true) ∧ Below w.heap.size w w' := by
  obtain ⟨hok, hlen, ad, cap, rfl, hat0⟩ := hs
  have HA : Hid (∀ i (hi : i < qs.length), ∃ b off, ad = some ⟨b, off, none⟩ ∧ ∀ j, j < 15 → w.cell? ⟨b, off + i * 15 + j, none⟩ = (acells qs[i])[j]?) := hat0
  have HO : Hid (∀ q ∈ qs, AskOk q) := hok
  have hlen : qs.length ≤ 9223372036854775807 := hlen
  clear hat0 hok
  go_enter Try.func8, Try.ntmps8
  go_wp2_with fail
  go_loopw [3] (fun i wr => ∃ k : Nat, k ≤ qs.length ∧ k ≤ 8 ∧ i = .int .i64 k ∧ Below w.heap.size w wr) (fun i _ => 8 - (intOf i).toNat)
  case atStart => exact ⟨0, by omega, by omega, rfl, Below.refl _ _⟩
  case round =>
    obtain ⟨k, hk1, hk2, rfl, hbo⟩ := hrel
    have hszo := hbo.size
    by_cases hlt : k < qs.length
    · by_cases hlt2 : k < 8
      · obtain ⟨b, off, rfl, hat⟩ := HA.out k hlt
        have HQ : Hid (AskOk qs[k]) := HO.out _ (List.getElem_mem hlt)
        generalize qs[k] = q at hat HQ
        obtain ⟨a, b2, c, x, u, t⟩ := q
        simp only [acells] at hat
        have hbw : b < wr.heap.size := Nat.lt_of_lt_of_le (cell_lt (hat 0 (by omega))) hszo
        have c0 : wr.cell? ⟨b, off + k * 15, none⟩ = some (.int .u64 (lb a 0)) := (hbo.cell (p := ⟨b, off + k * 15, none⟩) (cell_lt (hat 0 (by omega)))).trans (hat 0 (by omega))
        have c1 : wr.cell? ⟨b, off + k * 15 + 1, none⟩ = some (.int .u64 (lb a 1)) := (hbo.cell (p := ⟨b, off + k * 15 + 1, none⟩) (cell_lt (hat 1 (by omega)))).trans (hat 1 (by omega))
        have c2 : wr.cell? ⟨b, off + k * 15 + 2, none⟩ = some (.int .u64 (lb a 2)) := (hbo.cell (p := ⟨b, off + k * 15 + 2, none⟩) (cell_lt (hat 2 (by omega)))).trans (hat 2 (by omega))
        have c3 : wr.cell? ⟨b, off + k * 15 + 3, none⟩ = some (.int .u64 (lb a 3)) := (hbo.cell (p := ⟨b, off + k * 15 + 3, none⟩) (cell_lt (hat 3 (by omega)))).trans (hat 3 (by omega))
        have c4 : wr.cell? ⟨b, off + k * 15 + 4, none⟩ = some (.int .u64 (lb b2 0)) := (hbo.cell (p := ⟨b, off + k * 15 + 4, none⟩) (cell_lt (hat 4 (by omega)))).trans (hat 4 (by omega))
        have c5 : wr.cell? ⟨b, off + k * 15 + 5, none⟩ = some (.int .u64 (lb b2 1)) := (hbo.cell (p := ⟨b, off + k * 15 + 5, none⟩) (cell_lt (hat 5 (by omega)))).trans (hat 5 (by omega))
        have c6 : wr.cell? ⟨b, off + k * 15 + 6, none⟩ = some (.int .u64 (lb b2 2)) := (hbo.cell (p := ⟨b, off + k * 15 + 6, none⟩) (cell_lt (hat 6 (by omega)))).trans (hat 6 (by omega))
        have c7 : wr.cell? ⟨b, off + k * 15 + 7, none⟩ = some (.int .u64 (lb b2 3)) := (hbo.cell (p := ⟨b, off + k * 15 + 7, none⟩) (cell_lt (hat 7 (by omega)))).trans (hat 7 (by omega))
        have c8 : wr.cell? ⟨b, off + k * 15 + 8, none⟩ = some (.int .u64 (lb c 0)) := (hbo.cell (p := ⟨b, off + k * 15 + 8, none⟩) (cell_lt (hat 8 (by omega)))).trans (hat 8 (by omega))
        have c9 : wr.cell? ⟨b, off + k * 15 + 9, none⟩ = some (.int .u64 (lb c 1)) := (hbo.cell (p := ⟨b, off + k * 15 + 9, none⟩) (cell_lt (hat 9 (by omega)))).trans (hat 9 (by omega))
        have c10 : wr.cell? ⟨b, off + k * 15 + 10, none⟩ = some (.int .u64 (lb c 2)) := (hbo.cell (p := ⟨b, off + k * 15 + 10, none⟩) (cell_lt (hat 10 (by omega)))).trans (hat 10 (by omega))
        have c11 : wr.cell? ⟨b, off + k * 15 + 11, none⟩ = some (.int .u64 (lb c 3)) := (hbo.cell (p := ⟨b, off + k * 15 + 11, none⟩) (cell_lt (hat 11 (by omega)))).trans (hat 11 (by omega))
        have c12 : wr.cell? ⟨b, off + k * 15 + 12, none⟩ = some (.int .i64 x) := (hbo.cell (p := ⟨b, off + k * 15 + 12, none⟩) (cell_lt (hat 12 (by omega)))).trans (hat 12 (by omega))
        have c13 : wr.cell? ⟨b, off + k * 15 + 13, none⟩ = some (.int .i64 u) := (hbo.cell (p := ⟨b, off + k * 15 + 13, none⟩) (cell_lt (hat 13 (by omega)))).trans (hat 13 (by omega))
        have c14 : wr.cell? ⟨b, off + k * 15 + 14, none⟩ = some (.int .i64 t) := (hbo.cell (p := ⟨b, off + k * 15 + 14, none⟩) (cell_lt (hat 14 (by omega)))).trans (hat 14 (by omega))
        clear hat
        clear HQ
        have hwx := fun w => within x 1073741824 (by omega) (by omega) w
        have hwu := fun w => within u 268435456 (by omega) (by omega) w
        have hwt := fun w => within t 536870912 (by omega) (by omega) w
        go_upto_region 5 with fail
        have bP := Bk.new wr #[.int .u64 (lb a 0), .int .u64 (lb a 1), .int .u64 (lb a 2), .int .u64 (lb a 3), .int .u64 (lb b2 0), .int .u64 (lb b2 1), .int .u64 (lb b2 2), .int .u64 (lb b2 3), .int .u64 (lb c 0), .int .u64 (lb c 1), .int .u64 (lb c 2), .int .u64 (lb c 3), .int .i64 x, .int .i64 u, .int .i64 t] 43
        have hBo := hbo.alloc (by omega) (.cells #[.int .u64 (lb a 0), .int .u64 (lb a 1), .int .u64 (lb a 2), .int .u64 (lb a 3), .int .u64 (lb b2 0), .int .u64 (lb b2 1), .int .u64 (lb b2 2), .int .u64 (lb b2 3), .int .u64 (lb c 0), .int .u64 (lb c 1), .int .u64 (lb c 2), .int .u64 (lb c 3), .int .i64 x, .int .i64 u, .int .i64 t] 43)
        clear c0 c1 c2 c3 c4 c5 c6 c7 c8 c9 c10 c11 c12 c13 c14
        generalize wr.alloc _ = w1 at *
        obtain ⟨P, hP⟩ : ∃ P, P = wr.heap.size := ⟨_, rfl⟩
        rw [← hP] at bP ⊢
        clear hP hbo hbw hszo
        have p0 := bP.cell 0
        have p1 := bP.cell 1
        have p2 := bP.cell 2
        have p3 := bP.cell 3
        have p12 := bP.cell 12
        have p13 := bP.cell 13
        have p14 := bP.cell 14
        simp only [List.getElem?_toArray, List.getElem?_cons_zero, List.getElem?_cons_succ] at p0 p1 p2 p3 p12 p13 p14
        go_upto_region 6 with (go_at_call 16; refine (hwx _).mono ?_; rintro e w9 ⟨⟨A1, hA1, rfl⟩, rfl⟩)
        go_upto_region 7 with (go_at_call 16; refine (hwu _).mono ?_; rintro e w9 ⟨⟨B1, hB1, rfl⟩, rfl⟩)
        have hblA := fun w => blob A1 (by omega) w
        have hblB := fun w => blobC A1 B1 (by omega) w
        clear hwx hwu
        go_upto_region 8 with (go_at_call 24; refine (hblA _).mono ?_; rintro e w1 ⟨⟨vx, rfl, hvx⟩, hx1⟩)
        have HX : Hid (BlobS A1 vx) := hvx
        clear hvx hblA
        have bP := (bP.below hx1 bP.lt).alloc (.cells (A4 (lb (vx) 0) (lb (vx) 1) (lb (vx) 2) (lb (vx) 3)) 25)
        have hsx := hx1.size
        have hBo := (hBo.trans (hx1.mono hBo.size)).alloc (by have := hBo.size; omega) (.cells (A4 (lb (vx) 0) (lb (vx) 1) (lb (vx) 2) (lb (vx) 3)) 25)
        have bX := Bk.new w1 (A4 (lb (vx) 0) (lb (vx) 1) (lb (vx) 2) (lb (vx) 3)) 25
        obtain ⟨X, hX⟩ : ∃ z, z = w1.heap.size := ⟨_, rfl⟩
        rw [← hX] at bX ⊢
        clear hX hx1 hsx
        generalize World.alloc _ _ = wn0 at *
        go_upto_region 9 with (go_at_call 24; refine (hblB _).mono ?_; rintro e w1 ⟨⟨vy, rfl, hvy⟩, hx1⟩)
        have HY : Hid (BlobS (A1 + B1) vy) := hvy
        clear hvy hblB
        have bP := (bP.below hx1 bP.lt).alloc (.cells (A4 (lb (vy) 0) (lb (vy) 1) (lb (vy) 2) (lb (vy) 3)) 25)
        have bX := (bX.below hx1 bX.lt).alloc (.cells (A4 (lb (vy) 0) (lb (vy) 1) (lb (vy) 2) (lb (vy) 3)) 25)
        have hsx := hx1.size
        have hBo := (hBo.trans (hx1.mono hBo.size)).alloc (by have := hBo.size; omega) (.cells (A4 (lb (vy) 0) (lb (vy) 1) (lb (vy) 2) (lb (vy) 3)) 25)
        have bY := Bk.new w1 (A4 (lb (vy) 0) (lb (vy) 1) (lb (vy) 2) (lb (vy) 3)) 25
        obtain ⟨Y, hY⟩ : ∃ z, z = w1.heap.size := ⟨_, rfl⟩
        rw [← hY] at bY ⊢
        clear hY hx1 hsx
        generalize World.alloc _ _ = wn1 at *
        have hg1 : decide (0 < cmpV vx vy) = false := cmp_gt0 (blob_rise (Nat.le_add_right _ _) HX.out HY.out)
        have x0 := bX.cell 0
        have xf0 := bX.frozen 0
        have x1 := bX.cell 1
        have xf1 := bX.frozen 1
        have x2 := bX.cell 2
        have xf2 := bX.frozen 2
        have x3 := bX.cell 3
        have xf3 := bX.frozen 3
        simp only [List.getElem?_toArray, List.getElem?_cons_zero, List.getElem?_cons_succ] at x0 x1 x2 x3
        have y0 := bY.cell 0
        have yf0 := bY.frozen 0
        have y1 := bY.cell 1
        have yf1 := bY.frozen 1
        have y2 := bY.cell 2
        have yf2 := bY.frozen 2
        have y3 := bY.cell 3
        have yf3 := bY.frozen 3
        simp only [List.getElem?_toArray, List.getElem?_cons_zero, List.getElem?_cons_succ] at y0 y1 y2 y3
        go_upto_region 11 with (first | (go_at_call 25; refine (num2_any _ _).mono ?_; rintro e w9 ⟨rfl, rfl⟩) | (go_at_call 19; refine (cmp _ _ (by first | exact HX.out.lt | exact HY.out.lt) (by first | exact HX.out.lt | exact HY.out.lt) _).mono ?_; rintro e w8 ⟨rfl, hb8⟩))
        have bP := bP.below hb8 bP.lt
        have hBo := hBo.trans (hb8.mono hBo.size)
        clear hg1 hb8 bX bY HX HY x0 x1 x2 x3 xf0 xf1 xf2 xf3 y0 y1 y2 y3 yf0 yf1 yf2 yf3 p0 p1 p2 p3 p12 p13 p14
        have hbq := hBo.size
        have hPq := bP.lt
        generalize w8 = wq at *
        have p0 := bP.cell 0
        have p1 := bP.cell 1
        have p2 := bP.cell 2
        have p3 := bP.cell 3
        have p12 := bP.cell 12
        have p13 := bP.cell 13
        have p14 := bP.cell 14
        simp only [List.getElem?_toArray, List.getElem?_cons_zero, List.getElem?_cons_succ] at p0 p1 p2 p3 p12 p13 p14
        go_upto_region 12 with fail
        have bB0 := Bk.new wq (A4 (lb (a) 0) (lb (a) 1) (lb (a) 2) (lb (a) 3)) 25
        have bP := bP.alloc (.cells (A4 (lb (a) 0) (lb (a) 1) (lb (a) 2) (lb (a) 3)) 25)
        have hBo := hBo.alloc (by have := hBo.size; omega) (.cells (A4 (lb (a) 0) (lb (a) 1) (lb (a) 2) (lb (a) 3)) 25)
        obtain ⟨B, hB⟩ : ∃ B, B = wq.heap.size := ⟨_, rfl⟩
        have hBw : w.heap.size ≤ B := by rw [hB]; have := hbq; omega
        have hPB : P ≠ B := by rw [hB]; have := hPq; omega
        rw [← hB] at bB0 ⊢
        clear hB hbq hPq p0 p1 p2 p3 p12 p13 p14
        generalize wq.alloc _ = wr2 at *
        have p0 := bP.cell 0
        have p1 := bP.cell 1
        have p2 := bP.cell 2
        have p3 := bP.cell 3
        have p12 := bP.cell 12
        have p13 := bP.cell 13
        have p14 := bP.cell 14
        simp only [List.getElem?_toArray, List.getElem?_cons_zero, List.getElem?_cons_succ] at p0 p1 p2 p3 p12 p13 p14
        have z0 := bB0.cell 0
        have zf0 := bB0.frozen 0
        have z1 := bB0.cell 1
        have zf1 := bB0.frozen 1
        have z2 := bB0.cell 2
        have zf2 := bB0.frozen 2
        have z3 := bB0.cell 3
        have zf3 := bB0.frozen 3
        simp only [List.getElem?_toArray, List.getElem?_cons_zero, List.getElem?_cons_succ] at z0 z1 z2 z3
        go_upto_region 13 with fail
        obtain ⟨n, hn, hne⟩ := low_three a
        have bB : Bk (wr2.setCell ⟨B, 3, none⟩ (.int .u64 0)) B (A4 (lb (n) 0) (lb (n) 1) (lb (n) 2) (lb (n) 3)) 25 := by rw [← hne]; exact bB0.set 3 _ rfl
        have bP := bP.other (a := ⟨B, 3, none⟩) (by simpa using hPB) (.int .u64 0)
        have hBo := hBo.setCell (p := ⟨B, 3, none⟩) hBw (.int .u64 0)
        have HN : Hid (n < 6277101735386680763835789423207666416102355444464034512896) := hn
        have HnM : Hid (n < M256) := by show n < M256; unfold M256; omega
        clear hne hn bB0 hBw hPB p0 p1 p2 p3 p12 p13 p14 z0 z1 z2 z3 zf0 zf1 zf2 zf3
        generalize wr2.setCell _ _ = ws at *
        have p0 := bP.cell 0
        have p1 := bP.cell 1
        have p2 := bP.cell 2
        have p3 := bP.cell 3
        have p12 := bP.cell 12
        have p13 := bP.cell 13
        have p14 := bP.cell 14
        simp only [List.getElem?_toArray, List.getElem?_cons_zero, List.getElem?_cons_succ] at p0 p1 p2 p3 p12 p13 p14
        go_upto_region 14 with (go_at_call 16; refine (hwt _).mono ?_; rintro e w9 ⟨⟨g, hg, rfl⟩, rfl⟩)
        have hwu := fun w => withinC u g hg w
        have hwx := fun w => withinC x g hg w
        clear hwt
        go_upto_region 15 with (go_at_call 16; refine (hwu _).mono ?_; rintro e w9 ⟨⟨u1, hu1, rfl⟩, rfl⟩)
        go_upto_region 16 with (go_at_call 16; refine (hwx _).mono ?_; rintro e w9 ⟨⟨h1, hh1, rfl⟩, rfl⟩)
        have hn1 := fun w => nextG n u1 (1 + g) (u1 : Int) (1 + (g : Int)) rfl (by omega) HN.out (by omega) (by omega) (by omega) w
        have hn2 := fun w => nextG n (1 + g + h1) (1 + g) (1 + (g : Int) + (h1 : Int)) (1 + (g : Int)) (by omega) (by omega) HN.out (by omega) (by omega) (by omega) w
        have hn3 := fun w => nextG n (2 * (1 + g)) (1 + g) (2 * (1 + (g : Int))) (1 + (g : Int)) (by omega) (by omega) HN.out (by omega) (by omega) (by omega) w
        have hn4 := fun w => nextG n 0 (1 + g) 0 (1 + (g : Int)) rfl (by omega) HN.out (by omega) (by omega) (by omega) w
        have hor := nx_rise n u1 (1 + g + h1) (1 + g) HN.out (by omega) (by omega) (by omega) (by omega) (by omega)
        have HL : Hid (nxV n u1 (1 + g) < M256) := nxV_lt _ _ _ HnM.out
        have HH : Hid (nxV n (1 + g + h1) (1 + g) < M256) := nxV_lt _ _ _ HnM.out
        have HM : Hid (nxV n (2 * (1 + g)) (1 + g) < M256) := nxV_lt _ _ _ HnM.out
        have HS : Hid (nxV n 0 (1 + g) < M256) := nxV_lt _ _ _ HnM.out
        generalize nxV n u1 (1 + g) = lo at *
        generalize nxV n (1 + g + h1) (1 + g) = hi at *
        generalize nxV n (2 * (1 + g)) (1 + g) = mo at *
        generalize nxV n 0 (1 + g) = le at *
        have hd1 : decide (0 < cmpV lo n) = false := cmp_gt0 hor.1
        have hd2 : decide (cmpV hi n < 0) = false := cmp_lt0 hor.2.1
        have hd3 : decide (cmpV lo le < 0) = false := cmp_lt0 hor.2.2.1
        have hd4 : decide (0 < cmpV hi mo) = false := cmp_gt0 hor.2.2.2
        clear hor hwu hwx p0 p1 p2 p3 p12 p13 p14 bP
        have z0 := bB.cell 0
        have zf0 := bB.frozen 0
        have z1 := bB.cell 1
        have zf1 := bB.frozen 1
        have z2 := bB.cell 2
        have zf2 := bB.frozen 2
        have z3 := bB.cell 3
        have zf3 := bB.frozen 3
        simp only [List.getElem?_toArray, List.getElem?_cons_zero, List.getElem?_cons_succ] at z0 z1 z2 z3
        go_upto_region 17 with (go_at_call 26; refine (hn1 _).mono ?_; rintro e w1 ⟨rfl, hx1⟩)
        have bB := (bB.below hx1 bB.lt).alloc (.cells (A4 (lb (lo) 0) (lb (lo) 1) (lb (lo) 2) (lb (lo) 3)) 25)
        have hsx := hx1.size
        have hBo := (hBo.trans (hx1.mono hBo.size)).alloc (by have := hBo.size; omega) (.cells (A4 (lb (lo) 0) (lb (lo) 1) (lb (lo) 2) (lb (lo) 3)) 25)
        have bL := Bk.new w1 (A4 (lb (lo) 0) (lb (lo) 1) (lb (lo) 2) (lb (lo) 3)) 25
        obtain ⟨L, hL⟩ : ∃ z, z = w1.heap.size := ⟨_, rfl⟩
        rw [← hL] at bL ⊢
        clear hL hx1 hsx
        generalize World.alloc _ _ = wn10 at *
        clear z0 zf0 z1 zf1 z2 zf2 z3 zf3
        have z0 := bB.cell 0
        have zf0 := bB.frozen 0
        have z1 := bB.cell 1
        have zf1 := bB.frozen 1
        have z2 := bB.cell 2
        have zf2 := bB.frozen 2
        have z3 := bB.cell 3
        have zf3 := bB.frozen 3
        simp only [List.getElem?_toArray, List.getElem?_cons_zero, List.getElem?_cons_succ] at z0 z1 z2 z3
        go_upto_region 18 with (go_at_call 26; refine (hn2 _).mono ?_; rintro e w1 ⟨rfl, hx1⟩)
        have bB := (bB.below hx1 bB.lt).alloc (.cells (A4 (lb (hi) 0) (lb (hi) 1) (lb (hi) 2) (lb (hi) 3)) 25)
        have bL := (bL.below hx1 bL.lt).alloc (.cells (A4 (lb (hi) 0) (lb (hi) 1) (lb (hi) 2) (lb (hi) 3)) 25)
        have hsx := hx1.size
        have hBo := (hBo.trans (hx1.mono hBo.size)).alloc (by have := hBo.size; omega) (.cells (A4 (lb (hi) 0) (lb (hi) 1) (lb (hi) 2) (lb (hi) 3)) 25)
        have bH := Bk.new w1 (A4 (lb (hi) 0) (lb (hi) 1) (lb (hi) 2) (lb (hi) 3)) 25
        obtain ⟨H, hH⟩ : ∃ z, z = w1.heap.size := ⟨_, rfl⟩
        rw [← hH] at bH ⊢
        clear hH hx1 hsx
        generalize World.alloc _ _ = wn11 at *
        clear z0 zf0 z1 zf1 z2 zf2 z3 zf3
        have z0 := bB.cell 0
        have zf0 := bB.frozen 0
        have z1 := bB.cell 1
        have zf1 := bB.frozen 1
        have z2 := bB.cell 2
        have zf2 := bB.frozen 2
        have z3 := bB.cell 3
        have zf3 := bB.frozen 3
        simp only [List.getElem?_toArray, List.getElem?_cons_zero, List.getElem?_cons_succ] at z0 z1 z2 z3
        go_upto_region 19 with (go_at_call 26; refine (hn3 _).mono ?_; rintro e w1 ⟨rfl, hx1⟩)
        have bB := (bB.below hx1 bB.lt).alloc (.cells (A4 (lb (mo) 0) (lb (mo) 1) (lb (mo) 2) (lb (mo) 3)) 25)
        have bL := (bL.below hx1 bL.lt).alloc (.cells (A4 (lb (mo) 0) (lb (mo) 1) (lb (mo) 2) (lb (mo) 3)) 25)
        have bH := (bH.below hx1 bH.lt).alloc (.cells (A4 (lb (mo) 0) (lb (mo) 1) (lb (mo) 2) (lb (mo) 3)) 25)
        have hsx := hx1.size
        have hBo := (hBo.trans (hx1.mono hBo.size)).alloc (by have := hBo.size; omega) (.cells (A4 (lb (mo) 0) (lb (mo) 1) (lb (mo) 2) (lb (mo) 3)) 25)
        have bM := Bk.new w1 (A4 (lb (mo) 0) (lb (mo) 1) (lb (mo) 2) (lb (mo) 3)) 25
        obtain ⟨M, hM⟩ : ∃ z, z = w1.heap.size := ⟨_, rfl⟩
        rw [← hM] at bM ⊢
        clear hM hx1 hsx
        generalize World.alloc _ _ = wn12 at *
        clear z0 zf0 z1 zf1 z2 zf2 z3 zf3
        have z0 := bB.cell 0
        have zf0 := bB.frozen 0
        have z1 := bB.cell 1
        have zf1 := bB.frozen 1
        have z2 := bB.cell 2
        have zf2 := bB.frozen 2
        have z3 := bB.cell 3
        have zf3 := bB.frozen 3
        simp only [List.getElem?_toArray, List.getElem?_cons_zero, List.getElem?_cons_succ] at z0 z1 z2 z3
        go_upto_region 20 with (go_at_call 26; refine (hn4 _).mono ?_; rintro e w1 ⟨rfl, hx1⟩)
        have bB := (bB.below hx1 bB.lt).alloc (.cells (A4 (lb (le) 0) (lb (le) 1) (lb (le) 2) (lb (le) 3)) 25)
        have bL := (bL.below hx1 bL.lt).alloc (.cells (A4 (lb (le) 0) (lb (le) 1) (lb (le) 2) (lb (le) 3)) 25)
        have bH := (bH.below hx1 bH.lt).alloc (.cells (A4 (lb (le) 0) (lb (le) 1) (lb (le) 2) (lb (le) 3)) 25)
        have bM := (bM.below hx1 bM.lt).alloc (.cells (A4 (lb (le) 0) (lb (le) 1) (lb (le) 2) (lb (le) 3)) 25)
        have hsx := hx1.size
        have hBo := (hBo.trans (hx1.mono hBo.size)).alloc (by have := hBo.size; omega) (.cells (A4 (lb (le) 0) (lb (le) 1) (lb (le) 2) (lb (le) 3)) 25)
        have bS := Bk.new w1 (A4 (lb (le) 0) (lb (le) 1) (lb (le) 2) (lb (le) 3)) 25
        obtain ⟨S, hS⟩ : ∃ z, z = w1.heap.size := ⟨_, rfl⟩
        rw [← hS] at bS ⊢
        clear hS hx1 hsx
        generalize World.alloc _ _ = wn13 at *
        clear z0 zf0 z1 zf1 z2 zf2 z3 zf3
        clear hn1 hn2 hn3 hn4
        have z0 := bB.cell 0
        have zf0 := bB.frozen 0
        have z1 := bB.cell 1
        have zf1 := bB.frozen 1
        have z2 := bB.cell 2
        have zf2 := bB.frozen 2
        have z3 := bB.cell 3
        have zf3 := bB.frozen 3
        simp only [List.getElem?_toArray, List.getElem?_cons_zero, List.getElem?_cons_succ] at z0 z1 z2 z3
        have l0 := bL.cell 0
        have lf0 := bL.frozen 0
        have l1 := bL.cell 1
        have lf1 := bL.frozen 1
        have l2 := bL.cell 2
        have lf2 := bL.frozen 2
        have l3 := bL.cell 3
        have lf3 := bL.frozen 3
        simp only [List.getElem?_toArray, List.getElem?_cons_zero, List.getElem?_cons_succ] at l0 l1 l2 l3
        have h0 := bH.cell 0
        have hf0 := bH.frozen 0
        have h1 := bH.cell 1
        have hf1 := bH.frozen 1
        have h2 := bH.cell 2
        have hf2 := bH.frozen 2
        have h3 := bH.cell 3
        have hf3 := bH.frozen 3
        simp only [List.getElem?_toArray, List.getElem?_cons_zero, List.getElem?_cons_succ] at h0 h1 h2 h3
        have m0 := bM.cell 0
        have mf0 := bM.frozen 0
        have m1 := bM.cell 1
        have mf1 := bM.frozen 1
        have m2 := bM.cell 2
        have mf2 := bM.frozen 2
        have m3 := bM.cell 3
        have mf3 := bM.frozen 3
        simp only [List.getElem?_toArray, List.getElem?_cons_zero, List.getElem?_cons_succ] at m0 m1 m2 m3
        have s0 := bS.cell 0
        have sf0 := bS.frozen 0
        have s1 := bS.cell 1
        have sf1 := bS.frozen 1
        have s2 := bS.cell 2
        have sf2 := bS.frozen 2
        have s3 := bS.cell 3
        have sf3 := bS.frozen 3
        simp only [List.getElem?_toArray, List.getElem?_cons_zero, List.getElem?_cons_succ] at s0 s1 s2 s3
        go_wp2_with (first | (go_at_call 25; refine (num2_any _ _).mono ?_; rintro e w9 ⟨rfl, rfl⟩) | (go_at_call 19; refine (cmp _ _ (by first | exact HX.out.lt | exact HY.out.lt | exact HnM.out | exact HL.out | exact HH.out | exact HM.out | exact HS.out) (by first | exact HX.out.lt | exact HY.out.lt | exact HnM.out | exact HL.out | exact HH.out | exact HM.out | exact HS.out) _).mono ?_; rintro e w8 ⟨rfl, hb8⟩; have bB := bB.below hb8 bB.lt; have bL := bL.below hb8 bL.lt; have bH := bH.below hb8 bH.lt; have bM := bM.below hb8 bM.lt; have bS := bS.below hb8 bS.lt; have hBo := hBo.trans (hb8.mono hBo.size); have z0 := bB.cell 0; have zf0 := bB.frozen 0; have z1 := bB.cell 1; have zf1 := bB.frozen 1; have z2 := bB.cell 2; have zf2 := bB.frozen 2; have z3 := bB.cell 3; have zf3 := bB.frozen 3; simp only [List.getElem?_toArray, List.getElem?_cons_zero, List.getElem?_cons_succ] at z0 z1 z2 z3; have l0 := bL.cell 0; have lf0 := bL.frozen 0; have l1 := bL.cell 1; have lf1 := bL.frozen 1; have l2 := bL.cell 2; have lf2 := bL.frozen 2; have l3 := bL.cell 3; have lf3 := bL.frozen 3; simp only [List.getElem?_toArray, List.getElem?_cons_zero, List.getElem?_cons_succ] at l0 l1 l2 l3; have h0 := bH.cell 0; have hf0 := bH.frozen 0; have h1 := bH.cell 1; have hf1 := bH.frozen 1; have h2 := bH.cell 2; have hf2 := bH.frozen 2; have h3 := bH.cell 3; have hf3 := bH.frozen 3; simp only [List.getElem?_toArray, List.getElem?_cons_zero, List.getElem?_cons_succ] at h0 h1 h2 h3; have m0 := bM.cell 0; have mf0 := bM.frozen 0; have m1 := bM.cell 1; have mf1 := bM.frozen 1; have m2 := bM.cell 2; have mf2 := bM.frozen 2; have m3 := bM.cell 3; have mf3 := bM.frozen 3; simp only [List.getElem?_toArray, List.getElem?_cons_zero, List.getElem?_cons_succ] at m0 m1 m2 m3; have s0 := bS.cell 0; have sf0 := bS.frozen 0; have s1 := bS.cell 1; have sf1 := bS.frozen 1; have s2 := bS.cell 2; have sf2 := bS.frozen 2; have s3 := bS.cell 3; have sf3 := bS.frozen 3; simp only [List.getElem?_toArray, List.getElem?_cons_zero, List.getElem?_cons_succ] at s0 s1 s2 s3))
        go_roundw
        case rel => exact ⟨k + 1, by omega, by omega, by go_num, hBo⟩
        case measure => simp [intOf]; omega
      · have hb8 : decide ((k : Int) < 8) = false := by simp; omega
        go_wp2_with (go_at_call 27; refine (wakes2 _).mono ?_; rintro e w4 ⟨rfl, hb4⟩)
        go_ret
        exact ⟨rfl, hbo.trans (hb4.mono (by omega))⟩
    · have hbl2 : decide ((k : Int) < (qs.length : Int)) = false := by simp; omega
      go_wp2_with (go_at_call 27; refine (wakes2 _).mono ?_; rintro e w4 ⟨rfl, hb4⟩)
      go_ret
      exact ⟨rfl, hbo.trans (hb4.mono (by omega))⟩
end Go.Proofs.Ytljfenjpnanoiaa

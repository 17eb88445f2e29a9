import Derived.Test.YtgolpadmcalimaaAsks
import Derived.Test.YtgolpadmcalimaaFake
import Derived.Test.YtgolpadmcalimaaRFake
import Derived.Test.YtgolpadmcalimaaBlob
import Derived.Test.YtgolpadmcalimaaWakes
import Derived.Deep.RegionWith
import Derived.Deep.DeepCutAuto
import Derived.Deep.CutBlock
import Derived.Deep.RegionHeld3
set_option linter.unusedSimpArgs false
set_option linter.unusedVariables false
namespace Go.Proofs.Ytgolpadmcalimaa
open Go.RowKit

theorem rfake_none (f n : Nat) (w : World) : Calls Try.prog 13 #[V f, V n, V 0] w fun e w' => e = .returned (.tuple #[V 0, .int .i64 1]) ∧ Below w.heap.size w w' := by
  have hne : ∀ w, (binOp .eql 25 (.agg (A4 0 0 0 0)) (.agg (A4 0 0 0 0))).run Try.prog w = .ok (.bool true) w := fun w => by rw [eql26, eq4_same]
  rw [V_zero]
  go_enter Try.func13, Try.ntmps13
  go_wp2
  refine bodyPost_ret (v := .tuple #[.agg (A4 0 0 0 0), .int .i64 1]) ?_ rfl ⟨rfl, ?_⟩
  · simp [results, Try.results13, go_sem]
  · exact (((((Below.refl _ w).alloc (Nat.le_refl _) _).alloc (by simp) _).alloc (by simp; omega) _).alloc (by simp; omega) _).alloc (by simp; omega) _
/-- What both tell, whatever the denominator is. -/
def FkA (f n d r : Nat) (x : Int) : Prop := if d = 0 then r = 0 ∧ x = 1 else FkS f n d r x
theorem FkA.one {f n d r r' : Nat} {x x' : Int} (h : FkA f n d r x) (h' : FkA f n d r' x') : r = r' ∧ x = x' := by
  unfold FkA at h h'
  by_cases e : d = 0
  · rw [if_pos e] at h h'; exact ⟨h.1.trans h'.1.symm, h.2.trans h'.2.symm⟩
  · rw [if_neg e] at h h'; exact h.one h'
theorem fakeA (f n d : Nat) (hf : f < M256) (hn : n < M256) (hd : d < M256) (w : World) : Calls Try.prog 12 #[V f, V n, V d] w fun e w' => (∃ r x, e = .returned (.tuple #[V r, .int .i64 x]) ∧ FkA f n d r x) ∧ Below w.heap.size w w' := by
  by_cases e : d = 0
  · subst e; exact (fake_none f n w).mono fun e w' h => ⟨⟨0, 1, h.1, by simp [FkA]⟩, h.2⟩
  · exact (fake f n d hf hn hd (by omega) w).mono fun e' w' h => by obtain ⟨⟨r, x, h1, h2⟩, h3⟩ := h; exact ⟨⟨r, x, h1, by unfold FkA; rw [if_neg e]; exact h2⟩, h3⟩
theorem rfakeA (f n d : Nat) (hf : f < M256) (hn : n < M256) (hd : d < M256) (w : World) : Calls Try.prog 13 #[V f, V n, V d] w fun e w' => (∃ r x, e = .returned (.tuple #[V r, .int .i64 x]) ∧ FkA f n d r x) ∧ Below w.heap.size w w' := by
  by_cases e : d = 0
  · subst e; exact (rfake_none f n w).mono fun e w' h => ⟨⟨0, 1, h.1, by simp [FkA]⟩, h.2⟩
  · exact (rfake f n d hf hn hd (by omega) w).mono fun e' w' h => by obtain ⟨⟨r, x, h1, h2⟩, h3⟩ := h; exact ⟨⟨r, x, h1, by unfold FkA; rw [if_neg e]; exact h2⟩, h3⟩
/-- The three numbers of a question, cell by cell. -/
def As3 (b o a b2 c : Nat) (w' : World) : Prop := w'.cell? ⟨b, o, none⟩ = some (.int .u64 (lb a 0)) ∧ w'.cell? ⟨b, o + 1, none⟩ = some (.int .u64 (lb a 1)) ∧ w'.cell? ⟨b, o + 2, none⟩ = some (.int .u64 (lb a 2)) ∧ w'.cell? ⟨b, o + 3, none⟩ = some (.int .u64 (lb a 3)) ∧ w'.cell? ⟨b, o + 4, none⟩ = some (.int .u64 (lb b2 0)) ∧ w'.cell? ⟨b, o + 5, none⟩ = some (.int .u64 (lb b2 1)) ∧ w'.cell? ⟨b, o + 6, none⟩ = some (.int .u64 (lb b2 2)) ∧ w'.cell? ⟨b, o + 7, none⟩ = some (.int .u64 (lb b2 3)) ∧ w'.cell? ⟨b, o + 8, none⟩ = some (.int .u64 (lb c 0)) ∧ w'.cell? ⟨b, o + 9, none⟩ = some (.int .u64 (lb c 1)) ∧ w'.cell? ⟨b, o + 10, none⟩ = some (.int .u64 (lb c 2)) ∧ w'.cell? ⟨b, o + 11, none⟩ = some (.int .u64 (lb c 3))
theorem As3.below {b o a b2 c : Nat} {w w' : World} (h : As3 b o a b2 c w) (hb : Below w.heap.size w w') : As3 b o a b2 c w' := by
  obtain ⟨h0, h1, h2, h3, h4, h5, h6, h7, h8, h9, h10, h11⟩ := h
  exact ⟨below_at hb (cell_lt h0) h0, below_at hb (cell_lt h1) h1, below_at hb (cell_lt h2) h2, below_at hb (cell_lt h3) h3, below_at hb (cell_lt h4) h4, below_at hb (cell_lt h5) h5, below_at hb (cell_lt h6) h6, below_at hb (cell_lt h7) h7, below_at hb (cell_lt h8) h8, below_at hb (cell_lt h9) h9, below_at hb (cell_lt h10) h10, below_at hb (cell_lt h11) h11⟩
theorem As3.drew {b o a b2 c : Nat} {w : World} (h : As3 b o a b2 c w) : As3 b o a b2 c w.drew := h
theorem As3.alloc {b o a b2 c : Nat} {w : World} (h : As3 b o a b2 c w) (x : Obj) : As3 b o a b2 c (w.alloc x) := h.below ((Below.refl _ w).alloc (Nat.le_refl _) x)
theorem As3.set {b o a b2 c : Nat} {w : World} (h : As3 b o a b2 c w) {x : Addr} (ha : b ≠ x.block) (u : Value) : As3 b o a b2 c (w.setCell x u) := by
  have e : ∀ i, (w.setCell x u).cell? ⟨b, i, none⟩ = w.cell? ⟨b, i, none⟩ := fun i => World.cell?_of_block (Below.heap_setCell w x u b ha)
  unfold As3; simp only [e]; exact h
set_option maxRecDepth 100000 in
set_option maxHeartbeats 2000000 in
theorem feeFakes_walk (v : Value) (qs : List AskD) (w : World) (hs : Sa w v qs) :
    Calls Try.prog 3 #[v] w fun e w' => e = .returned (.bool true) ∧ Below w.heap.size w w' := by
  obtain ⟨hok, hlen, ad, cap, rfl, hat0⟩ := hs
  have HA : Hid (∀ i (hi : i < qs.length), ∃ b off, ad = some ⟨b, off, none⟩ ∧ ∀ j, j < 15 → w.cell? ⟨b, off + i * 15 + j, none⟩ = (acells qs[i])[j]?) := hat0
  have HO : Hid (∀ q ∈ qs, AskOk q) := hok
  have hlen : qs.length ≤ 9223372036854775807 := hlen
  clear hat0 hok
  go_enter Try.func3, Try.ntmps3
  go_wp2_with fail
  go_loopw [3] (fun i wr => ∃ k : Nat, k ≤ qs.length ∧ k ≤ 8 ∧ i = .int .i64 k ∧ Below w.heap.size w wr) (fun i _ => 8 - (intOf i).toNat)
  case atStart => exact ⟨0, by omega, by omega, rfl, Below.refl _ _⟩
  case round =>
    obtain ⟨k, hk1, hk2, rfl, hbo⟩ := hrel
    have hszo := hbo.size
    by_cases hlt : k < qs.length
    · by_cases hlt2 : k < 8
      · obtain ⟨b, off, rfl, hat⟩ := HA.out k hlt
        have HQ : Hid (AskOk qs[k]) := HO.out _ (List.getElem_mem hlt)
        generalize qs[k] = q at hat HQ
        obtain ⟨a, b2, c, x, u, t⟩ := q
        simp only [acells] at hat
        have hbw : b < wr.heap.size := Nat.lt_of_lt_of_le (cell_lt (hat 0 (by omega))) hszo
        have c0 : wr.cell? ⟨b, off + k * 15, none⟩ = some (.int .u64 (lb a 0)) := (hbo.cell (p := ⟨b, off + k * 15, none⟩) (cell_lt (hat 0 (by omega)))).trans (hat 0 (by omega))
        have c1 : wr.cell? ⟨b, off + k * 15 + 1, none⟩ = some (.int .u64 (lb a 1)) := (hbo.cell (p := ⟨b, off + k * 15 + 1, none⟩) (cell_lt (hat 1 (by omega)))).trans (hat 1 (by omega))
        have c2 : wr.cell? ⟨b, off + k * 15 + 2, none⟩ = some (.int .u64 (lb a 2)) := (hbo.cell (p := ⟨b, off + k * 15 + 2, none⟩) (cell_lt (hat 2 (by omega)))).trans (hat 2 (by omega))
        have c3 : wr.cell? ⟨b, off + k * 15 + 3, none⟩ = some (.int .u64 (lb a 3)) := (hbo.cell (p := ⟨b, off + k * 15 + 3, none⟩) (cell_lt (hat 3 (by omega)))).trans (hat 3 (by omega))
        have c4 : wr.cell? ⟨b, off + k * 15 + 4, none⟩ = some (.int .u64 (lb b2 0)) := (hbo.cell (p := ⟨b, off + k * 15 + 4, none⟩) (cell_lt (hat 4 (by omega)))).trans (hat 4 (by omega))
        have c5 : wr.cell? ⟨b, off + k * 15 + 5, none⟩ = some (.int .u64 (lb b2 1)) := (hbo.cell (p := ⟨b, off + k * 15 + 5, none⟩) (cell_lt (hat 5 (by omega)))).trans (hat 5 (by omega))
        have c6 : wr.cell? ⟨b, off + k * 15 + 6, none⟩ = some (.int .u64 (lb b2 2)) := (hbo.cell (p := ⟨b, off + k * 15 + 6, none⟩) (cell_lt (hat 6 (by omega)))).trans (hat 6 (by omega))
        have c7 : wr.cell? ⟨b, off + k * 15 + 7, none⟩ = some (.int .u64 (lb b2 3)) := (hbo.cell (p := ⟨b, off + k * 15 + 7, none⟩) (cell_lt (hat 7 (by omega)))).trans (hat 7 (by omega))
        have c8 : wr.cell? ⟨b, off + k * 15 + 8, none⟩ = some (.int .u64 (lb c 0)) := (hbo.cell (p := ⟨b, off + k * 15 + 8, none⟩) (cell_lt (hat 8 (by omega)))).trans (hat 8 (by omega))
        have c9 : wr.cell? ⟨b, off + k * 15 + 9, none⟩ = some (.int .u64 (lb c 1)) := (hbo.cell (p := ⟨b, off + k * 15 + 9, none⟩) (cell_lt (hat 9 (by omega)))).trans (hat 9 (by omega))
        have c10 : wr.cell? ⟨b, off + k * 15 + 10, none⟩ = some (.int .u64 (lb c 2)) := (hbo.cell (p := ⟨b, off + k * 15 + 10, none⟩) (cell_lt (hat 10 (by omega)))).trans (hat 10 (by omega))
        have c11 : wr.cell? ⟨b, off + k * 15 + 11, none⟩ = some (.int .u64 (lb c 3)) := (hbo.cell (p := ⟨b, off + k * 15 + 11, none⟩) (cell_lt (hat 11 (by omega)))).trans (hat 11 (by omega))
        have c12 : wr.cell? ⟨b, off + k * 15 + 12, none⟩ = some (.int .i64 x) := (hbo.cell (p := ⟨b, off + k * 15 + 12, none⟩) (cell_lt (hat 12 (by omega)))).trans (hat 12 (by omega))
        have c13 : wr.cell? ⟨b, off + k * 15 + 13, none⟩ = some (.int .i64 u) := (hbo.cell (p := ⟨b, off + k * 15 + 13, none⟩) (cell_lt (hat 13 (by omega)))).trans (hat 13 (by omega))
        have c14 : wr.cell? ⟨b, off + k * 15 + 14, none⟩ = some (.int .i64 t) := (hbo.cell (p := ⟨b, off + k * 15 + 14, none⟩) (cell_lt (hat 14 (by omega)))).trans (hat 14 (by omega))
        clear hat
        go_upto_region 4 with fail
        go_cut [4, 5] (fun p e wx => ∃ B r1 x1, p = .pointer (some ⟨B, 0, none⟩) ∧ Bk wx B (A4 (lb (r1) 0) (lb (r1) 1) (lb (r1) 2) (lb (r1) 3)) 25 ∧ e = .int .i64 x1 ∧ FkA a b2 c r1 x1 ∧ Below wr.heap.size wr wx)
        case first =>
          have hT : As3 b (off + k * 15) a b2 c wr := ⟨c0, c1, c2, c3, c4, c5, c6, c7, c8, c9, c10, c11⟩
          go_region_held3 (fun w' => w'.cell? ⟨b, off + k * 15, none⟩ = some (.int .u64 (lb a 0)) ∧ w'.cell? ⟨b, off + k * 15 + 1, none⟩ = some (.int .u64 (lb a 1)) ∧ w'.cell? ⟨b, off + k * 15 + 2, none⟩ = some (.int .u64 (lb a 2)) ∧ w'.cell? ⟨b, off + k * 15 + 3, none⟩ = some (.int .u64 (lb a 3)) ∧ w'.cell? ⟨b, off + k * 15 + 4, none⟩ = some (.int .u64 (lb b2 0)) ∧ w'.cell? ⟨b, off + k * 15 + 5, none⟩ = some (.int .u64 (lb b2 1)) ∧ w'.cell? ⟨b, off + k * 15 + 6, none⟩ = some (.int .u64 (lb b2 2)) ∧ w'.cell? ⟨b, off + k * 15 + 7, none⟩ = some (.int .u64 (lb b2 3)) ∧ w'.cell? ⟨b, off + k * 15 + 8, none⟩ = some (.int .u64 (lb c 0)) ∧ w'.cell? ⟨b, off + k * 15 + 9, none⟩ = some (.int .u64 (lb c 1)) ∧ w'.cell? ⟨b, off + k * 15 + 10, none⟩ = some (.int .u64 (lb c 2)) ∧ w'.cell? ⟨b, off + k * 15 + 11, none⟩ = some (.int .u64 (lb c 3))) ((show As3 b (off + k * 15) a b2 c _; repeat (first | with_reducible exact hT | with_reducible refine As3.drew ?_ | with_reducible refine As3.alloc ?_ _ | with_reducible refine As3.set ?_ (by simp <;> omega) _))) ((go_at_call 12; refine (fakeA a b2 c HQ.out.a HQ.out.b HQ.out.c _).mono ?_; rintro e w2 ⟨⟨r1, x1, rfl, hF⟩, hb2⟩; have hT := As3.below (b := b) (o := off + k * 15) (a := a) (b2 := b2) (c := c) (by repeat (first | with_reducible exact hT | with_reducible refine As3.drew ?_ | with_reducible refine As3.alloc ?_ _)) hb2; have hsz2 := hb2.size; (try simp only [World.size_alloc, World.size_drew] at hsz2 hb2); have bw : Below wr.heap.size wr w2 := Below.trans (by repeat (first | with_reducible exact Below.refl _ _ | with_reducible refine Below.drew ?_ | with_reducible refine Below.alloc ?_ (by first | omega | (simp <;> omega)) _)) (hb2.mono (by omega)); try (have hz := Bk.below (b := wr.heap.size) (vs := A4 0 0 0 0) (t := 25) (by first | with_reducible exact (Bk.new wr _ _).drew | with_reducible exact ((Bk.new wr _ _).alloc _).drew | with_reducible exact Bk.new wr _ _ | with_reducible exact (Bk.new wr _ _).alloc _) hb2 (by omega); have lz := hz.lt; have nz : ¬ wr.heap.size = w2.heap.size := (by omega); have z0 := hz.cell 0; have zf0 := hz.frozen 0; have z1 := hz.cell 1; have zf1 := hz.frozen 1; have z2 := hz.cell 2; have zf2 := hz.frozen 2; have z3 := hz.cell 3; have zf3 := hz.frozen 3; simp only [List.getElem?_toArray, List.getElem?_cons_zero, List.getElem?_cons_succ] at z0 z1 z2 z3); try (have hy := Bk.below (b := wr.heap.size + 1) (vs := A4 0 0 0 0) (t := 25) (by first | with_reducible exact (Bk.new' (wr.alloc _) _ _ (by simp)).drew | with_reducible exact Bk.new' (wr.alloc _) _ _ (by simp)) hb2 (by omega); have ly := hy.lt; have ny : ¬ wr.heap.size + 1 = w2.heap.size := (by omega); have y0 := hy.cell 0; have yf0 := hy.frozen 0; have y1 := hy.cell 1; have yf1 := hy.frozen 1; have y2 := hy.cell 2; have yf2 := hy.frozen 2; have y3 := hy.cell 3; have yf3 := hy.frozen 3; simp only [List.getElem?_toArray, List.getElem?_cons_zero, List.getElem?_cons_succ] at y0 y1 y2 y3)))
          all_goals
            go_wp2_with fail
            go_meet
            refine ⟨_, r1, x1, rfl, ?_, rfl, hF, ?_⟩
            · repeat (first | with_reducible exact hz | with_reducible exact hy | with_reducible exact Bk.new _ _ _ | with_reducible exact Bk.new' _ _ _ (by simp) | with_reducible refine set4_Bk (x0 := .int .u64 0) (x1 := .int .u64 0) (x2 := .int .u64 0) (x3 := .int .u64 0) ?_ _ _ _ _ | with_reducible refine set4_other ?_ (by omega) _ _ _ _ | with_reducible refine Bk.alloc ?_ _)
            · repeat (first | with_reducible exact bw | with_reducible refine set4_below ?_ (by omega) _ _ _ _ | with_reducible refine Below.alloc ?_ (by first | omega | (simp <;> omega)) _)
        case rest =>
          obtain ⟨B1, r1, x1, rfl, bB1, rfl, hF1, hbx⟩ := hcut
          obtain ⟨wa, rfl⟩ : ∃ wa : World, wa = wc := ⟨_, rfl⟩
          have c0 := (hbx.cell (p := ⟨b, off + k * 15, none⟩) hbw).trans c0
          have c1 := (hbx.cell (p := ⟨b, off + k * 15 + 1, none⟩) hbw).trans c1
          have c2 := (hbx.cell (p := ⟨b, off + k * 15 + 2, none⟩) hbw).trans c2
          have c3 := (hbx.cell (p := ⟨b, off + k * 15 + 3, none⟩) hbw).trans c3
          have c4 := (hbx.cell (p := ⟨b, off + k * 15 + 4, none⟩) hbw).trans c4
          have c5 := (hbx.cell (p := ⟨b, off + k * 15 + 5, none⟩) hbw).trans c5
          have c6 := (hbx.cell (p := ⟨b, off + k * 15 + 6, none⟩) hbw).trans c6
          have c7 := (hbx.cell (p := ⟨b, off + k * 15 + 7, none⟩) hbw).trans c7
          have c8 := (hbx.cell (p := ⟨b, off + k * 15 + 8, none⟩) hbw).trans c8
          have c9 := (hbx.cell (p := ⟨b, off + k * 15 + 9, none⟩) hbw).trans c9
          have c10 := (hbx.cell (p := ⟨b, off + k * 15 + 10, none⟩) hbw).trans c10
          have c11 := (hbx.cell (p := ⟨b, off + k * 15 + 11, none⟩) hbw).trans c11
          have hbw2 : b < wa.heap.size := Nat.lt_of_lt_of_le hbw hbx.size
          have HF1 : Hid (FkA a b2 c r1 x1) := hF1
          clear hF1
          go_upto_region 5 with fail
          go_cut [6, 7] (fun p e wx => ∃ B r2 x2, p = .pointer (some ⟨B, 0, none⟩) ∧ Bk wx B (A4 (lb (r2) 0) (lb (r2) 1) (lb (r2) 2) (lb (r2) 3)) 25 ∧ e = .int .i64 x2 ∧ FkA a b2 c r2 x2 ∧ Below wa.heap.size wa wx)
          case first =>
            have hT : As3 b (off + k * 15) a b2 c wa := ⟨c0, c1, c2, c3, c4, c5, c6, c7, c8, c9, c10, c11⟩
            go_region_held3 (fun w' => w'.cell? ⟨b, off + k * 15, none⟩ = some (.int .u64 (lb a 0)) ∧ w'.cell? ⟨b, off + k * 15 + 1, none⟩ = some (.int .u64 (lb a 1)) ∧ w'.cell? ⟨b, off + k * 15 + 2, none⟩ = some (.int .u64 (lb a 2)) ∧ w'.cell? ⟨b, off + k * 15 + 3, none⟩ = some (.int .u64 (lb a 3)) ∧ w'.cell? ⟨b, off + k * 15 + 4, none⟩ = some (.int .u64 (lb b2 0)) ∧ w'.cell? ⟨b, off + k * 15 + 5, none⟩ = some (.int .u64 (lb b2 1)) ∧ w'.cell? ⟨b, off + k * 15 + 6, none⟩ = some (.int .u64 (lb b2 2)) ∧ w'.cell? ⟨b, off + k * 15 + 7, none⟩ = some (.int .u64 (lb b2 3)) ∧ w'.cell? ⟨b, off + k * 15 + 8, none⟩ = some (.int .u64 (lb c 0)) ∧ w'.cell? ⟨b, off + k * 15 + 9, none⟩ = some (.int .u64 (lb c 1)) ∧ w'.cell? ⟨b, off + k * 15 + 10, none⟩ = some (.int .u64 (lb c 2)) ∧ w'.cell? ⟨b, off + k * 15 + 11, none⟩ = some (.int .u64 (lb c 3))) ((show As3 b (off + k * 15) a b2 c _; repeat (first | with_reducible exact hT | with_reducible refine As3.drew ?_ | with_reducible refine As3.alloc ?_ _ | with_reducible refine As3.set ?_ (by simp <;> omega) _))) ((go_at_call 13; refine (rfakeA a b2 c HQ.out.a HQ.out.b HQ.out.c _).mono ?_; rintro e w2 ⟨⟨r2, x2, rfl, hF⟩, hb2⟩; have hT := As3.below (b := b) (o := off + k * 15) (a := a) (b2 := b2) (c := c) (by repeat (first | with_reducible exact hT | with_reducible refine As3.drew ?_ | with_reducible refine As3.alloc ?_ _)) hb2; have hsz2 := hb2.size; (try simp only [World.size_alloc, World.size_drew] at hsz2 hb2); have bw : Below wa.heap.size wa w2 := Below.trans (by repeat (first | with_reducible exact Below.refl _ _ | with_reducible refine Below.drew ?_ | with_reducible refine Below.alloc ?_ (by first | omega | (simp <;> omega)) _)) (hb2.mono (by omega)); try (have hz := Bk.below (b := wa.heap.size) (vs := A4 0 0 0 0) (t := 25) (by first | with_reducible exact (Bk.new wa _ _).drew | with_reducible exact ((Bk.new wa _ _).alloc _).drew | with_reducible exact Bk.new wa _ _ | with_reducible exact (Bk.new wa _ _).alloc _) hb2 (by omega); have lz := hz.lt; have nz : ¬ wa.heap.size = w2.heap.size := (by omega); have z0 := hz.cell 0; have zf0 := hz.frozen 0; have z1 := hz.cell 1; have zf1 := hz.frozen 1; have z2 := hz.cell 2; have zf2 := hz.frozen 2; have z3 := hz.cell 3; have zf3 := hz.frozen 3; simp only [List.getElem?_toArray, List.getElem?_cons_zero, List.getElem?_cons_succ] at z0 z1 z2 z3); try (have hy := Bk.below (b := wa.heap.size + 1) (vs := A4 0 0 0 0) (t := 25) (by first | with_reducible exact (Bk.new' (wa.alloc _) _ _ (by simp)).drew | with_reducible exact Bk.new' (wa.alloc _) _ _ (by simp)) hb2 (by omega); have ly := hy.lt; have ny : ¬ wa.heap.size + 1 = w2.heap.size := (by omega); have y0 := hy.cell 0; have yf0 := hy.frozen 0; have y1 := hy.cell 1; have yf1 := hy.frozen 1; have y2 := hy.cell 2; have yf2 := hy.frozen 2; have y3 := hy.cell 3; have yf3 := hy.frozen 3; simp only [List.getElem?_toArray, List.getElem?_cons_zero, List.getElem?_cons_succ] at y0 y1 y2 y3)))
            all_goals
              go_wp2_with fail
              go_meet
              refine ⟨_, r2, x2, rfl, ?_, rfl, hF, ?_⟩
              · repeat (first | with_reducible exact hz | with_reducible exact hy | with_reducible exact Bk.new _ _ _ | with_reducible exact Bk.new' _ _ _ (by simp) | with_reducible refine set4_Bk (x0 := .int .u64 0) (x1 := .int .u64 0) (x2 := .int .u64 0) (x3 := .int .u64 0) ?_ _ _ _ _ | with_reducible refine set4_other ?_ (by omega) _ _ _ _ | with_reducible refine Bk.alloc ?_ _)
              · repeat (first | with_reducible exact bw | with_reducible refine set4_below ?_ (by omega) _ _ _ _ | with_reducible refine Below.alloc ?_ (by first | omega | (simp <;> omega)) _)
          case rest =>
            obtain ⟨B2, r2, x2, rfl, bB2, rfl, hF2, hby⟩ := hcut
            obtain ⟨rfl, rfl⟩ := HF1.out.one hF2
            have bB1 := bB1.below hby bB1.lt
            have he : ∀ w, (binOp .neq 25 (V r1) (V r1)).run Try.prog w = .ok (.bool false) w := fun w => by rw [neq26, eq4_same]; rfl
            clear c0 c1 c2 c3 c4 c5 c6 c7 c8 c9 c10 c11 c12 c13 c14 HF1 hF2
            have p0 := bB1.cell 0
            have pf0 := bB1.frozen 0
            have p1 := bB1.cell 1
            have pf1 := bB1.frozen 1
            have p2 := bB1.cell 2
            have pf2 := bB1.frozen 2
            have p3 := bB1.cell 3
            have pf3 := bB1.frozen 3
            simp only [List.getElem?_toArray, List.getElem?_cons_zero, List.getElem?_cons_succ] at p0 p1 p2 p3
            have q0 := bB2.cell 0
            have qf0 := bB2.frozen 0
            have q1 := bB2.cell 1
            have qf1 := bB2.frozen 1
            have q2 := bB2.cell 2
            have qf2 := bB2.frozen 2
            have q3 := bB2.cell 3
            have qf3 := bB2.frozen 3
            simp only [List.getElem?_toArray, List.getElem?_cons_zero, List.getElem?_cons_succ] at q0 q1 q2 q3
            go_wp2_with (go_at_call 14; refine (num2_any _ _).mono ?_; rintro e w7 ⟨rfl, rfl⟩)
            go_roundw
            case rel => exact ⟨k + 1, by omega, by omega, by go_num, (hbo.trans (hbx.mono (by omega))).trans (hby.mono (by have := hbx.size; omega))⟩
            case measure => simp [intOf]; omega
      · have hb8 : decide ((k : Int) < 8) = false := by simp; omega
        go_wp2_with (go_at_call 15; refine (wakes2 _).mono ?_; rintro e w4 ⟨rfl, hb4⟩)
        go_ret
        exact ⟨rfl, hbo.trans (hb4.mono (by omega))⟩
    · have hbl2 : decide ((k : Int) < (qs.length : Int)) = false := by simp; omega
      go_wp2_with (go_at_call 15; refine (wakes2 _).mono ?_; rintro e w4 ⟨rfl, hb4⟩)
      go_ret
      exact ⟨rfl, hbo.trans (hb4.mono (by omega))⟩
end Go.Proofs.Ytgolpadmcalimaa

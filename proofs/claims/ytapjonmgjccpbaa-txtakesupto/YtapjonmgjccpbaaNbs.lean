import Derived.Test.YtapjonmgjccpbaaJ18
import Derived.Test.YtapjonmgjccpbaaJ10
import Derived.Deep.RegionHeld3
import Derived.Deep.DeepCutAuto
set_option linter.unusedSimpArgs false
set_option linter.unusedVariables false
set_option maxRecDepth 100000
namespace Go.Proofs.Ytapjonmgjccpbaa
open Go.RowKit Go.Shelf
attribute [local go_sem] Oper.semAt_some

/-! tx.numbers, as a sequence of texts. -/
def S8 (X : Nat) (t : TX) (f n g : Nat) (w0 w' : World) : Prop := w'.cell? ⟨X, 0, none⟩ = some (.int .i64 (f : Int)) ∧ w'.cell? ⟨X, 1, none⟩ = some (.int .i64 (n : Int)) ∧ w'.cell? ⟨X, 2, none⟩ = some (.int .u64 (lb (t.ti) 0)) ∧ w'.cell? ⟨X, 3, none⟩ = some (.int .u64 (lb (t.ti) 1)) ∧ w'.cell? ⟨X, 4, none⟩ = some (.int .u64 (lb (t.ti) 2)) ∧ w'.cell? ⟨X, 5, none⟩ = some (.int .u64 (lb (t.ti) 3)) ∧ w'.cell? ⟨X, 6, none⟩ = some (.int .u64 (lb (t.ca) 0)) ∧ w'.cell? ⟨X, 7, none⟩ = some (.int .u64 (lb (t.ca) 1)) ∧ w'.cell? ⟨X, 8, none⟩ = some (.int .u64 (lb (t.ca) 2)) ∧ w'.cell? ⟨X, 9, none⟩ = some (.int .u64 (lb (t.ca) 3)) ∧ w'.cell? ⟨X, 10, none⟩ = some (.int .u64 (lb (t.bc) 0)) ∧ w'.cell? ⟨X, 11, none⟩ = some (.int .u64 (lb (t.bc) 1)) ∧ w'.cell? ⟨X, 12, none⟩ = some (.int .u64 (lb (t.bc) 2)) ∧ w'.cell? ⟨X, 13, none⟩ = some (.int .u64 (lb (t.bc) 3)) ∧ w'.cell? ⟨X, 14, none⟩ = some (.int .u64 (lb (t.va) 0)) ∧ w'.cell? ⟨X, 15, none⟩ = some (.int .u64 (lb (t.va) 1)) ∧ w'.cell? ⟨X, 16, none⟩ = some (.int .u64 (lb (t.va) 2)) ∧ w'.cell? ⟨X, 17, none⟩ = some (.int .u64 (lb (t.va) 3)) ∧ w'.cell? ⟨X, 18, none⟩ = some (.int .i64 (g : Int)) ∧ Below w0.heap.size w0 w'
theorem S8.below {X : Nat} {t : TX} {f n g : Nat} {w0 w w' : World} (H : S8 X t f n g w0 w) (hb : Below w.heap.size w w') : S8 X t f n g w0 w' := by
  obtain ⟨h0, h1, h2, h3, h4, h5, h6, h7, h8, h9, h10, h11, h12, h13, h14, h15, h16, h17, h18, hB⟩ := H
  exact ⟨(hb.cell (cell_lt' h0)).trans h0, (hb.cell (cell_lt' h1)).trans h1, (hb.cell (cell_lt' h2)).trans h2, (hb.cell (cell_lt' h3)).trans h3, (hb.cell (cell_lt' h4)).trans h4, (hb.cell (cell_lt' h5)).trans h5, (hb.cell (cell_lt' h6)).trans h6, (hb.cell (cell_lt' h7)).trans h7, (hb.cell (cell_lt' h8)).trans h8, (hb.cell (cell_lt' h9)).trans h9, (hb.cell (cell_lt' h10)).trans h10, (hb.cell (cell_lt' h11)).trans h11, (hb.cell (cell_lt' h12)).trans h12, (hb.cell (cell_lt' h13)).trans h13, (hb.cell (cell_lt' h14)).trans h14, (hb.cell (cell_lt' h15)).trans h15, (hb.cell (cell_lt' h16)).trans h16, (hb.cell (cell_lt' h17)).trans h17, (hb.cell (cell_lt' h18)).trans h18, hB.trans (hb.mono hB.size)⟩
theorem S8.drew {X : Nat} {t : TX} {f n g : Nat} {w0 w : World} (H : S8 X t f n g w0 w) : S8 X t f n g w0 w.drew := H.below ((Below.refl _ w).drew)
theorem S8.alloc {X : Nat} {t : TX} {f n g : Nat} {w0 w : World} (H : S8 X t f n g w0 w) (o : Obj) : S8 X t f n g w0 (w.alloc o) := H.below ((Below.refl _ w).alloc (Nat.le_refl _) o)
theorem S8.bel {X : Nat} {t : TX} {f n g : Nat} {w0 w : World} (H : S8 X t f n g w0 w) : Below w0.heap.size w0 w := by
  obtain ⟨-, -, -, -, -, -, -, -, -, -, -, -, -, -, -, -, -, -, -, hB⟩ := H
  exact hB
def nms (t : TX) (f n g : Nat) : List Nat := [f, n, t.ti, t.ca, t.bc, t.va, g]
theorem numbers_any (t : TX) (u v : Value) (w : World) : Calls Try.prog 52 #[.agg (txc t u v)] w fun e w' => e = .returned (.func (.func 80) #[] #[.pointer (some ⟨w.heap.size, 0, none⟩)]) ∧ w' = w.alloc (.cells (txc t u v) 30) := by
  go_enter Try.func52, Try.ntmps52
  go_wp2
  go_ret
  exact ⟨rfl, rfl⟩
set_option maxHeartbeats 4000000 in
theorem numbers_seq (t : TX) (u v : Value) (X f n g N : Nat) (w : World) (bX : Bk w X (txc t u v) 30) (hw : TXw t) (hf : t.fr = (f : Int)) (hn : t.no = (n : Int)) (hg : t.ga = (g : Int)) (hf2 : f ≤ 9223372036854775807) (hn2 : n ≤ 9223372036854775807) (hg2 : g ≤ 9223372036854775807) :
    Texts 80 #[.pointer (some ⟨X, 0, none⟩)] ((nms t f n g).map nT) N w := by
  intro l J Jx W hbW hJ hJx hY h0
  have bX := bX.below hbW bX.lt
  have HY : Hid (∀ pre x A0 A, J pre A0 → Below A0.heap.size A0 A → pre.length < 7 → YieldAt Fence.wide 4 Try.prog l (senc x) A fun e B => (e = .returned (.bool true) ∧ J (pre ++ [x]) B ∧ KpI N A B) ∨ (e = .returned (.bool false) ∧ Jx (pre ++ [x]) B)) := hY
  have HJ : Hid (∀ s A B, J s A → Below A.heap.size A B → J s B) := hJ
  have HWh : Hid (∀ k : Nat, k = f ∨ k = n ∨ k = g → ∀ w, Calls Try.prog 81 #[.int .i64 (k : Int)] w fun e w' => e = .returned (V k) ∧ Below w.heap.size w w') := fun k hk w => whole k (by rcases hk with h | h | h <;> omega) w
  have HTX : Hid (∀ k : Nat, k < M256 → ∀ w, Calls Try.prog 82 #[V k] w fun e w' => e = .returned (.string (nT k)) ∧ Below w.heap.size w w') := fun k hk w => text k hk w
  have HM : Hid (f < M256 ∧ n < M256 ∧ t.ti < M256 ∧ t.ca < M256 ∧ t.bc < M256 ∧ t.va < M256 ∧ g < M256) := ⟨by unfold M256; omega, by unfold M256; omega, hw.ti, hw.ca, hw.bc, hw.va, by unfold M256; omega⟩
  have hT : S8 X t f n g W W := by
    have e : txc t u v = txc ⟨(f : Int), (n : Int), t.ti, t.ca, t.bc, t.va, (g : Int), t.hs, t.bs⟩ u v := by rw [← hf, ← hn, ← hg]
    rw [e] at bX
    exact ⟨bX.cell 0, bX.cell 1, bX.cell 2, bX.cell 3, bX.cell 4, bX.cell 5, bX.cell 6, bX.cell 7, bX.cell 8, bX.cell 9, bX.cell 10, bX.cell 11, bX.cell 12, bX.cell 13, bX.cell 14, bX.cell 15, bX.cell 16, bX.cell 17, bX.cell 18, Below.refl _ _⟩
  clear hY hJ hJx hbW bX hw hf hn hg
  show CallsIn Fence.wide 5 Try.prog 80 #[.func (.yield l) #[] #[], .pointer (some ⟨X, 0, none⟩)] W _
  refine callsIn_of_wp Try.func80 rfl trivial ?_ rfl
  simp only [Try.ntmps80, List.size_toArray, List.length_cons, List.length_nil, Nat.reduceAdd, Nat.reduceSub, Array.replicate_succ, Array.replicate_zero, List.push_toArray, List.append_toArray, List.nil_append, List.cons_append]
  refine wpIn_wide.2 ?_
  go_wp2_with fail
  go_region_held3 (fun w' => w'.cell? ⟨X, 0, none⟩ = some (.int .i64 (f : Int)) ∧ w'.cell? ⟨X, 1, none⟩ = some (.int .i64 (n : Int)) ∧ w'.cell? ⟨X, 2, none⟩ = some (.int .u64 (lb (t.ti) 0)) ∧ w'.cell? ⟨X, 3, none⟩ = some (.int .u64 (lb (t.ti) 1)) ∧ w'.cell? ⟨X, 4, none⟩ = some (.int .u64 (lb (t.ti) 2)) ∧ w'.cell? ⟨X, 5, none⟩ = some (.int .u64 (lb (t.ti) 3)) ∧ w'.cell? ⟨X, 6, none⟩ = some (.int .u64 (lb (t.ca) 0)) ∧ w'.cell? ⟨X, 7, none⟩ = some (.int .u64 (lb (t.ca) 1)) ∧ w'.cell? ⟨X, 8, none⟩ = some (.int .u64 (lb (t.ca) 2)) ∧ w'.cell? ⟨X, 9, none⟩ = some (.int .u64 (lb (t.ca) 3)) ∧ w'.cell? ⟨X, 10, none⟩ = some (.int .u64 (lb (t.bc) 0)) ∧ w'.cell? ⟨X, 11, none⟩ = some (.int .u64 (lb (t.bc) 1)) ∧ w'.cell? ⟨X, 12, none⟩ = some (.int .u64 (lb (t.bc) 2)) ∧ w'.cell? ⟨X, 13, none⟩ = some (.int .u64 (lb (t.bc) 3)) ∧ w'.cell? ⟨X, 14, none⟩ = some (.int .u64 (lb (t.va) 0)) ∧ w'.cell? ⟨X, 15, none⟩ = some (.int .u64 (lb (t.va) 1)) ∧ w'.cell? ⟨X, 16, none⟩ = some (.int .u64 (lb (t.va) 2)) ∧ w'.cell? ⟨X, 17, none⟩ = some (.int .u64 (lb (t.va) 3)) ∧ w'.cell? ⟨X, 18, none⟩ = some (.int .i64 (g : Int)) ∧ Below W.heap.size W w') ((show S8 X t f n g W _; repeat (first | with_reducible exact hT | with_reducible refine S8.drew ?_ | with_reducible refine S8.alloc ?_ _))) ((go_at_call 81; refine (HWh.out _ (by first | exact .inl rfl | exact .inr (.inl rfl) | exact .inr (.inr rfl)) _).mono ?_; rintro e w7 ⟨rfl, hb7⟩; have hT := S8.below (X := X) (t := t) (f := f) (n := n) (g := g) (w0 := W) (by repeat (first | with_reducible exact hT | with_reducible refine S8.drew ?_ | with_reducible refine S8.alloc ?_ _)) hb7))
  have hJ0 : J [] w7 := HJ.out _ _ _ h0 hT.bel
  clear hT h0 hb7 HWh
  go_wp2_with fail
  refine (wpIn_wide (n := 5)).1 ?_
  gi_loopw [23] (fun i wr => ∃ k : Nat, k ≤ 7 ∧ i = .int .i64 (k : Int) ∧ J (((nms t f n g).take k).map nT) wr) (fun i _ => 7 - (intOf i).toNat)
  case atStart => exact ⟨0, by omega, rfl, hJ0⟩
  case round =>
    clear hJ0
    obtain ⟨k, hk, rfl, hJk⟩ := hrel
    by_cases hlt : k < 7
    · have h7 : k = 0 ∨ k = 1 ∨ k = 2 ∨ k = 3 ∨ k = 4 ∨ k = 5 ∨ k = 6 := by omega
      clear hlt hk
      rcases h7 with rfl | rfl | rfl | rfl | rfl | rfl | rfl
      · have hix := fun w => ix7_0 f n t.ti t.ca t.bc t.va g w
        gi_wp2_with (refine ⟨trivial, ?_⟩; gi_at_call 82; refine (callsIn_wide.2 (HTX.out (f) HM.out.1 _)).mono ?_; rintro e w2 ⟨rfl, hb2⟩)
        have hb0 : Below wr.heap.size wr (wr.alloc (.cells (A4 (lb (f) 0) (lb (f) 1) (lb (f) 2) (lb (f) 3)) 26)) := (Below.refl _ wr).alloc (Nat.le_refl _) _
        obtain ⟨fn, tmps, assign, body, hy, hR⟩ := HY.out _ (nT (f)) wr w2 hJk (hb0.trans (hb2.mono hb0.size)) (by show 0 < 7; omega)
        simp only [senc] at hy
        rw [hy]
        gi_wp2
        refine hR.mono ?_
        clear hR hy
        rintro e W3 (⟨rfl, hJ3, hk3⟩ | ⟨rfl, hJx3⟩)
        · gi_wp2
          go_roundw
          case rel => exact ⟨1, by omega, by go_num, hJ3⟩
          case measure => simp [intOf]
        · gi_wp2
          refine bodyPost_ret (results_none rfl _ _ _) rfl ?_
          exact ⟨⟨_, rfl⟩, .inr ⟨_, trivial, hJx3⟩⟩
      · have hix := fun w => ix7_1 f n t.ti t.ca t.bc t.va g w
        gi_wp2_with (refine ⟨trivial, ?_⟩; gi_at_call 82; refine (callsIn_wide.2 (HTX.out (n) HM.out.2.1 _)).mono ?_; rintro e w2 ⟨rfl, hb2⟩)
        have hb0 : Below wr.heap.size wr (wr.alloc (.cells (A4 (lb (n) 0) (lb (n) 1) (lb (n) 2) (lb (n) 3)) 26)) := (Below.refl _ wr).alloc (Nat.le_refl _) _
        obtain ⟨fn, tmps, assign, body, hy, hR⟩ := HY.out _ (nT (n)) wr w2 hJk (hb0.trans (hb2.mono hb0.size)) (by show 1 < 7; omega)
        simp only [senc] at hy
        rw [hy]
        gi_wp2
        refine hR.mono ?_
        clear hR hy
        rintro e W3 (⟨rfl, hJ3, hk3⟩ | ⟨rfl, hJx3⟩)
        · gi_wp2
          go_roundw
          case rel => exact ⟨2, by omega, by go_num, hJ3⟩
          case measure => simp [intOf]
        · gi_wp2
          refine bodyPost_ret (results_none rfl _ _ _) rfl ?_
          exact ⟨⟨_, rfl⟩, .inr ⟨_, trivial, hJx3⟩⟩
      · have hix := fun w => ix7_2 f n t.ti t.ca t.bc t.va g w
        gi_wp2_with (refine ⟨trivial, ?_⟩; gi_at_call 82; refine (callsIn_wide.2 (HTX.out (t.ti) HM.out.2.2.1 _)).mono ?_; rintro e w2 ⟨rfl, hb2⟩)
        have hb0 : Below wr.heap.size wr (wr.alloc (.cells (A4 (lb (t.ti) 0) (lb (t.ti) 1) (lb (t.ti) 2) (lb (t.ti) 3)) 26)) := (Below.refl _ wr).alloc (Nat.le_refl _) _
        obtain ⟨fn, tmps, assign, body, hy, hR⟩ := HY.out _ (nT (t.ti)) wr w2 hJk (hb0.trans (hb2.mono hb0.size)) (by show 2 < 7; omega)
        simp only [senc] at hy
        rw [hy]
        gi_wp2
        refine hR.mono ?_
        clear hR hy
        rintro e W3 (⟨rfl, hJ3, hk3⟩ | ⟨rfl, hJx3⟩)
        · gi_wp2
          go_roundw
          case rel => exact ⟨3, by omega, by go_num, hJ3⟩
          case measure => simp [intOf]
        · gi_wp2
          refine bodyPost_ret (results_none rfl _ _ _) rfl ?_
          exact ⟨⟨_, rfl⟩, .inr ⟨_, trivial, hJx3⟩⟩
      · have hix := fun w => ix7_3 f n t.ti t.ca t.bc t.va g w
        gi_wp2_with (refine ⟨trivial, ?_⟩; gi_at_call 82; refine (callsIn_wide.2 (HTX.out (t.ca) HM.out.2.2.2.1 _)).mono ?_; rintro e w2 ⟨rfl, hb2⟩)
        have hb0 : Below wr.heap.size wr (wr.alloc (.cells (A4 (lb (t.ca) 0) (lb (t.ca) 1) (lb (t.ca) 2) (lb (t.ca) 3)) 26)) := (Below.refl _ wr).alloc (Nat.le_refl _) _
        obtain ⟨fn, tmps, assign, body, hy, hR⟩ := HY.out _ (nT (t.ca)) wr w2 hJk (hb0.trans (hb2.mono hb0.size)) (by show 3 < 7; omega)
        simp only [senc] at hy
        rw [hy]
        gi_wp2
        refine hR.mono ?_
        clear hR hy
        rintro e W3 (⟨rfl, hJ3, hk3⟩ | ⟨rfl, hJx3⟩)
        · gi_wp2
          go_roundw
          case rel => exact ⟨4, by omega, by go_num, hJ3⟩
          case measure => simp [intOf]
        · gi_wp2
          refine bodyPost_ret (results_none rfl _ _ _) rfl ?_
          exact ⟨⟨_, rfl⟩, .inr ⟨_, trivial, hJx3⟩⟩
      · have hix := fun w => ix7_4 f n t.ti t.ca t.bc t.va g w
        gi_wp2_with (refine ⟨trivial, ?_⟩; gi_at_call 82; refine (callsIn_wide.2 (HTX.out (t.bc) HM.out.2.2.2.2.1 _)).mono ?_; rintro e w2 ⟨rfl, hb2⟩)
        have hb0 : Below wr.heap.size wr (wr.alloc (.cells (A4 (lb (t.bc) 0) (lb (t.bc) 1) (lb (t.bc) 2) (lb (t.bc) 3)) 26)) := (Below.refl _ wr).alloc (Nat.le_refl _) _
        obtain ⟨fn, tmps, assign, body, hy, hR⟩ := HY.out _ (nT (t.bc)) wr w2 hJk (hb0.trans (hb2.mono hb0.size)) (by show 4 < 7; omega)
        simp only [senc] at hy
        rw [hy]
        gi_wp2
        refine hR.mono ?_
        clear hR hy
        rintro e W3 (⟨rfl, hJ3, hk3⟩ | ⟨rfl, hJx3⟩)
        · gi_wp2
          go_roundw
          case rel => exact ⟨5, by omega, by go_num, hJ3⟩
          case measure => simp [intOf]
        · gi_wp2
          refine bodyPost_ret (results_none rfl _ _ _) rfl ?_
          exact ⟨⟨_, rfl⟩, .inr ⟨_, trivial, hJx3⟩⟩
      · have hix := fun w => ix7_5 f n t.ti t.ca t.bc t.va g w
        gi_wp2_with (refine ⟨trivial, ?_⟩; gi_at_call 82; refine (callsIn_wide.2 (HTX.out (t.va) HM.out.2.2.2.2.2.1 _)).mono ?_; rintro e w2 ⟨rfl, hb2⟩)
        have hb0 : Below wr.heap.size wr (wr.alloc (.cells (A4 (lb (t.va) 0) (lb (t.va) 1) (lb (t.va) 2) (lb (t.va) 3)) 26)) := (Below.refl _ wr).alloc (Nat.le_refl _) _
        obtain ⟨fn, tmps, assign, body, hy, hR⟩ := HY.out _ (nT (t.va)) wr w2 hJk (hb0.trans (hb2.mono hb0.size)) (by show 5 < 7; omega)
        simp only [senc] at hy
        rw [hy]
        gi_wp2
        refine hR.mono ?_
        clear hR hy
        rintro e W3 (⟨rfl, hJ3, hk3⟩ | ⟨rfl, hJx3⟩)
        · gi_wp2
          go_roundw
          case rel => exact ⟨6, by omega, by go_num, hJ3⟩
          case measure => simp [intOf]
        · gi_wp2
          refine bodyPost_ret (results_none rfl _ _ _) rfl ?_
          exact ⟨⟨_, rfl⟩, .inr ⟨_, trivial, hJx3⟩⟩
      · have hix := fun w => ix7_6 f n t.ti t.ca t.bc t.va g w
        gi_wp2_with (refine ⟨trivial, ?_⟩; gi_at_call 82; refine (callsIn_wide.2 (HTX.out (g) HM.out.2.2.2.2.2.2 _)).mono ?_; rintro e w2 ⟨rfl, hb2⟩)
        have hb0 : Below wr.heap.size wr (wr.alloc (.cells (A4 (lb (g) 0) (lb (g) 1) (lb (g) 2) (lb (g) 3)) 26)) := (Below.refl _ wr).alloc (Nat.le_refl _) _
        obtain ⟨fn, tmps, assign, body, hy, hR⟩ := HY.out _ (nT (g)) wr w2 hJk (hb0.trans (hb2.mono hb0.size)) (by show 6 < 7; omega)
        simp only [senc] at hy
        rw [hy]
        gi_wp2
        refine hR.mono ?_
        clear hR hy
        rintro e W3 (⟨rfl, hJ3, hk3⟩ | ⟨rfl, hJx3⟩)
        · gi_wp2
          go_roundw
          case rel => exact ⟨7, by omega, by go_num, hJ3⟩
          case measure => simp [intOf]
        · gi_wp2
          refine bodyPost_ret (results_none rfl _ _ _) rfl ?_
          exact ⟨⟨_, rfl⟩, .inr ⟨_, trivial, hJx3⟩⟩
    · obtain rfl : k = 7 := by omega
      gi_wp2
      go_end0
      exact ⟨⟨_, rfl⟩, .inl ⟨_, rfl, hJk⟩⟩
end Go.Proofs.Ytapjonmgjccpbaa

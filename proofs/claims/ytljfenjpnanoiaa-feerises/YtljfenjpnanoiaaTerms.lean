import Derived.Test.YtljfenjpnanoiaaFakeN
import Derived.Test.YtljfenjpnanoiaaRF
import Derived.Test.YtljfenjpnanoiaaBack
import Derived.Test.YtljfenjpnanoiaaEql
import Derived.Test.YtljfenjpnanoiaaSls
import Derived.Test.YtljfenjpnanoiaaBlk
set_option linter.unusedSimpArgs false
set_option linter.unusedVariables false
namespace Go.Proofs.Ytljfenjpnanoiaa
open Go.RowKit Go.Shelf
attribute [local go_sem] Oper.semAt_some

set_option maxRecDepth 100000 in
set_option maxHeartbeats 2000000 in
theorem terms_seq (m f n d Bf Bn Bd o p : Nat) (hm : 1 ≤ m) (hf : f < M256) (hn : n < M256) (hd : d < M256) (hd0 : 0 < d) (w : World)
    (bF : Bk w Bf (A4 (lb (f) 0) (lb (f) 1) (lb (f) 2) (lb (f) 3)) 25) (bN : Bk w Bn (A4 (lb (n) 0) (lb (n) 1) (lb (n) 2) (lb (n) 3)) 25) (bD : Bk w Bd (A4 (lb (d) 0) (lb (d) 1) (lb (d) 2) (lb (d) 3)) 25) (no : o < w.heap.size) (np : p < w.heap.size) (nf : Bf ≠ o ∧ Bf ≠ p) (nn : Bn ≠ o ∧ Bn ≠ p) (nd : Bd ≠ o ∧ Bd ≠ p) :
    SeqB Fence.wide m Try.prog 52 #[.pointer (some ⟨Bf, 0, none⟩), .pointer (some ⟨Bd, 0, none⟩), .pointer (some ⟨Bn, 0, none⟩)] tenc (KpX o p) (TS f n d) (TP f n d) w := by
  intro l J Jx W hbW hJ hJx hY h0
  have bF := bF.below hbW bF.lt
  have bN := bN.below hbW bN.lt
  have bD := bD.below hbW bD.lt
  have no : o < W.heap.size := Nat.lt_of_lt_of_le no hbW.size
  have np : p < W.heap.size := Nat.lt_of_lt_of_le np hbW.size
  have hmul := fun w => mul f d hf hd w
  have hnt := fun (k : Nat) (hk : k ≤ 4097) w => nextTerm (tm f n d k).1 n d (k + 1) (by omega) (by omega) (tm_lt f n d k) hn hd hd0 w
  have HNT : Hid (∀ (k : Nat) (hk : k ≤ 4097) w, Calls Try.prog 53 #[V (tm f n d k).1, V n, V d, .int .i64 ((k + 1 : Nat) : Int)] w fun e w' => e = .returned (.tuple #[V (tm f n d (k + 1)).1, .int .i64 (tm f n d (k + 1)).2]) ∧ Below w.heap.size w w') := hnt
  have HY : Hid (∀ pre x A, J pre A → YieldAt Fence.wide (m - 1) Try.prog l (tenc x) A fun e B => (e = .returned (.bool true) ∧ J (pre ++ [x]) B ∧ KpX o p A B) ∨ (e = .returned (.bool false) ∧ Jx (pre ++ [x]) B)) := hY
  have HJ : Hid (∀ s A B, J s A → Below W.heap.size A B → J s B) := hJ
  have HJx : Hid (∀ s A B, Jx s A → Below W.heap.size A B → Jx s B) := hJx
  have HM : Hid (∀ w, Calls Try.prog 22 #[V f, V d] w fun e w' => e = .returned (.tuple #[V (tm f n d 0).1, .int .i64 (tm f n d 0).2]) ∧ Below w.heap.size w w') := hmul
  clear hmul hnt hY hJ hJx hf hn hd hd0 hbW
  show CallsIn Fence.wide m Try.prog 52 #[.func (.yield l) #[] #[], .pointer (some ⟨Bf, 0, none⟩), .pointer (some ⟨Bd, 0, none⟩), .pointer (some ⟨Bn, 0, none⟩)] W _
  refine callsIn_of_wp Try.func52 rfl trivial ?_ rfl
  simp only [Try.ntmps52, List.size_toArray, List.length_cons, List.length_nil, Nat.reduceAdd, Nat.reduceSub, Array.replicate_succ, Array.replicate_zero, List.push_toArray, List.append_toArray, List.nil_append, List.cons_append]
  have hNw : ∀ w1 : World, Below W.heap.size W w1 → Bn < w1.heap.size := fun w1 h => Nat.lt_of_lt_of_le bN.lt h.size
  have f0 := bF.cell 0
  have ff0 := bF.frozen 0
  have f1 := bF.cell 1
  have ff1 := bF.frozen 1
  have f2 := bF.cell 2
  have ff2 := bF.frozen 2
  have f3 := bF.cell 3
  have ff3 := bF.frozen 3
  simp only [List.getElem?_toArray, List.getElem?_cons_zero, List.getElem?_cons_succ] at f0 f1 f2 f3
  have d0 := bD.cell 0
  have df0 := bD.frozen 0
  have d1 := bD.cell 1
  have df1 := bD.frozen 1
  have d2 := bD.cell 2
  have df2 := bD.frozen 2
  have d3 := bD.cell 3
  have df3 := bD.frozen 3
  simp only [List.getElem?_toArray, List.getElem?_cons_zero, List.getElem?_cons_succ] at d0 d1 d2 d3
  gi_wp2_with (refine ⟨trivial, ?_⟩; gi_at_call 22; refine (callsIn_wide.2 (HM.out _)).mono ?_; rintro e w1 ⟨rfl, hb1⟩)
  have bA := Bk.new w1 (A4 (lb ((tm f n d 0).1) 0) (lb ((tm f n d 0).1) 1) (lb ((tm f n d 0).1) 2) (lb ((tm f n d 0).1) 3)) 25
  have bD := (bD.below hb1 bD.lt).alloc (.cells (A4 (lb ((tm f n d 0).1) 0) (lb ((tm f n d 0).1) 1) (lb ((tm f n d 0).1) 2) (lb ((tm f n d 0).1) 3)) 25)
  have bN := (bN.below hb1 bN.lt).alloc (.cells (A4 (lb ((tm f n d 0).1) 0) (lb ((tm f n d 0).1) 1) (lb ((tm f n d 0).1) 2) (lb ((tm f n d 0).1) 3)) 25)
  have hbW : Below W.heap.size W (w1.alloc (.cells (A4 (lb ((tm f n d 0).1) 0) (lb ((tm f n d 0).1) 1) (lb ((tm f n d 0).1) 2) (lb ((tm f n d 0).1) 3)) 25)) := hb1.alloc hb1.size _
  have hA0 : W.heap.size ≤ w1.heap.size := hb1.size
  have hJ0 := HJ.out _ _ _ h0 hbW
  have nDA : Bd < w1.heap.size := by have := f0; have := bD.lt; have h := hb1.size; exact Nat.lt_of_lt_of_le (cell_lt d0) h
  have nNA : Bn < w1.heap.size := hNw w1 hb1
  obtain ⟨A, hA⟩ : ∃ A, A = w1.heap.size := ⟨_, rfl⟩
  rw [← hA] at bA hA0 nDA nNA ⊢
  generalize w1.alloc _ = w2 at *
  clear hA hb1 h0 f0 f1 f2 f3 ff0 ff1 ff2 ff3 d0 d1 d2 d3 df0 df1 df2 df3 bF hbW hNw
  gi_loopw [6, 7] (fun e i wr => ∃ k : Nat, k ≤ 4097 ∧ e = .int .i64 (tm f n d k).2 ∧ i = .int .i64 ((k + 1 : Nat) : Int) ∧ Alive f n d k ∧ Bk wr A (A4 (lb ((tm f n d k).1) 0) (lb ((tm f n d k).1) 1) (lb ((tm f n d k).1) 2) (lb ((tm f n d k).1) 3)) 25 ∧ Bk wr Bd (A4 (lb (d) 0) (lb (d) 1) (lb (d) 2) (lb (d) 3)) 25 ∧ Bk wr Bn (A4 (lb (n) 0) (lb (n) 1) (lb (n) 2) (lb (n) 3)) 25 ∧ J (ys f n d k) wr) (fun _ i _ => (4100 - intOf i).toNat)
  case atStart => exact ⟨0, by omega, rfl, rfl, fun j hj => absurd hj (by omega), bA, bD, bN, hJ0⟩
  case round =>
    clear bA bD bN hJ0
    obtain ⟨k, hk, rfl, rfl, hal, bA, bD, bN, hJk⟩ := hrel
    have HAl : Hid (Alive f n d k) := hal
    have HB : Hid (Bk wr A (A4 (lb ((tm f n d k).1) 0) (lb ((tm f n d k).1) 1) (lb ((tm f n d k).1) 2) (lb ((tm f n d k).1) 3)) 25 ∧ Bk wr Bd (A4 (lb (d) 0) (lb (d) 1) (lb (d) 2) (lb (d) 3)) 25 ∧ Bk wr Bn (A4 (lb (n) 0) (lb (n) 1) (lb (n) 2) (lb (n) 3)) 25) := ⟨bA, bD, bN⟩
    clear hal
    have a0 := bA.cell 0
    have af0 := bA.frozen 0
    have a1 := bA.cell 1
    have af1 := bA.frozen 1
    have a2 := bA.cell 2
    have af2 := bA.frozen 2
    have a3 := bA.cell 3
    have af3 := bA.frozen 3
    simp only [List.getElem?_toArray, List.getElem?_cons_zero, List.getElem?_cons_succ] at a0 a1 a2 a3
    clear bA bD bN
    have hterm : (tm f n d k).1 < M256 := tm_lt f n d k
    by_cases he : (tm f n d k).2 = 0
    · by_cases ht : (tm f n d k).1 = 0
      · -- the end
        have hneq : ∀ w, (binOp .neq 25 (V (tm f n d k).1) (.agg (A4 0 0 0 0))).run Try.prog w = .ok (.bool false) w := fun w => by rw [neq26_0 _ hterm, ht]; rfl
        have HS : Hid (TS f n d (ys f n d k)) := ⟨k, HAl.out, .inl ⟨he, ht, rfl⟩⟩
        rw [he]
        clear he ht hterm
        gi_wp2
        go_end0
        exact ⟨⟨_, rfl⟩, .inl ⟨_, HS.out, hJk⟩⟩
      · have hneq : ∀ w, (binOp .neq 25 (V (tm f n d k).1) (.agg (A4 0 0 0 0))).run Try.prog w = .ok (.bool true) w := fun w => by rw [neq26_0 _ hterm, decide_eq_false ht]; rfl
        have HAs : Hid (Alive f n d (k + 1)) := alive_succ HAl.out he ht
        have HP : Hid (TP f n d (ys f n d (k + 1))) := ⟨k, HAl.out, .inl ⟨he, ht, rfl⟩⟩
        obtain ⟨fn, tmps, assign, body, hy, hR⟩ := HY.out _ ((tm f n d k).1, 0) wr hJk
        simp only [tenc] at hy
        rw [he]
        clear he ht hterm
        gi_wp2
        refine hR.mono ?_
        rintro e W3 (⟨rfl, hJ3, hk3⟩ | ⟨rfl, hJx3⟩)
        · have bA3 := hk3 _ _ _ (by omega) (by omega) HB.out.1
          have bD3 := hk3 _ _ _ nd.1 nd.2 HB.out.2.1
          have bN3 := hk3 _ _ _ nn.1 nn.2 HB.out.2.2
          have lA3 := bA3.lt
          have a0 := bA3.cell 0
          have af0 := bA3.frozen 0
          have a1 := bA3.cell 1
          have af1 := bA3.frozen 1
          have a2 := bA3.cell 2
          have af2 := bA3.frozen 2
          have a3 := bA3.cell 3
          have af3 := bA3.frozen 3
          simp only [List.getElem?_toArray, List.getElem?_cons_zero, List.getElem?_cons_succ] at a0 a1 a2 a3
          have d0 := bD3.cell 0
          have df0 := bD3.frozen 0
          have d1 := bD3.cell 1
          have df1 := bD3.frozen 1
          have d2 := bD3.cell 2
          have df2 := bD3.frozen 2
          have d3 := bD3.cell 3
          have df3 := bD3.frozen 3
          simp only [List.getElem?_toArray, List.getElem?_cons_zero, List.getElem?_cons_succ] at d0 d1 d2 d3
          have n0 := bN3.cell 0
          have nf0 := bN3.frozen 0
          have n1 := bN3.cell 1
          have nf1 := bN3.frozen 1
          have n2 := bN3.cell 2
          have nf2 := bN3.frozen 2
          have n3 := bN3.cell 3
          have nf3 := bN3.frozen 3
          simp only [List.getElem?_toArray, List.getElem?_cons_zero, List.getElem?_cons_succ] at n0 n1 n2 n3
          gi_wp2_with (refine ⟨trivial, ?_⟩; gi_at_call 53; refine (callsIn_wide.2 (HNT.out k hk _)).mono ?_; rintro e W4 ⟨rfl, hb4⟩; have bA4 := bA3.below hb4 lA3; have p0 := bA4.cell 0; have pf0 := bA4.frozen 0; have p1 := bA4.cell 1; have pf1 := bA4.frozen 1; have p2 := bA4.cell 2; have pf2 := bA4.frozen 2; have p3 := bA4.cell 3; have pf3 := bA4.frozen 3; simp only [List.getElem?_toArray, List.getElem?_cons_zero, List.getElem?_cons_succ] at p0 p1 p2 p3)
          have hs4 := hb4.size
          go_roundw
          case rel =>
            refine ⟨k + 1, alive_le HAs.out, rfl, by go_num, HAs.out, set4_Bk bA4 _ _ _ _, set4_other (bD3.below hb4 bD3.lt) (by omega) _ _ _ _, set4_other (bN3.below hb4 bN3.lt) (by omega) _ _ _ _, ?_⟩
            rw [ys_succ]
            exact HJ.out _ _ _ hJ3 (set4_below (hb4.mono (by omega)) hA0 _ _ _ _)
          case measure => simp [intOf]; omega
        · gi_wp2
          refine bodyPost_ret (results_none rfl _ _ _) rfl ?_
          exact ⟨⟨_, rfl⟩, .inr ⟨_, HP.out, by rw [ys_succ]; exact hJx3⟩⟩
    · have he8 : (tm f n d k).2 = 8 := (tm_err f n d k).resolve_left he
      have HS : Hid (TS f n d (ys f n d k ++ [(0, 8)])) := ⟨k, HAl.out, .inr ⟨he8, rfl⟩⟩
      have HP : Hid (TP f n d (ys f n d k ++ [(0, 8)])) := ⟨k, HAl.out, .inr ⟨he8, rfl⟩⟩
      obtain ⟨fn, tmps, assign, body, hy, hR⟩ := HY.out _ ((0 : Nat), (8 : Int)) wr hJk
      simp only [tenc, V_zero] at hy
      rw [he8]
      clear he he8 hterm
      gi_wp2
      refine hR.mono ?_
      rintro e W3 (⟨rfl, hJ3, hk3⟩ | ⟨rfl, hJx3⟩)
      · gi_wp2
        go_end0
        exact ⟨⟨_, rfl⟩, .inl ⟨_, HS.out, hJ3⟩⟩
      · gi_wp2
        go_end0
        exact ⟨⟨_, rfl⟩, .inr ⟨_, HP.out, hJx3⟩⟩
end Go.Proofs.Ytljfenjpnanoiaa

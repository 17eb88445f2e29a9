import Derived.Test.YtljfenjpnanoiaaDivC
import Derived.Test.YtljfenjpnanoiaaMul
import Derived.Test.YtljfenjpnanoiaaAdd
import Derived.Test.YtljfenjpnanoiaaSub
import Derived.Test.YtljfenjpnanoiaaCmp
import Derived.Test.YtljfenjpnanoiaaNumE
import Derived.Test.YtljfenjpnanoiaaWakes
import Derived.Test.YtljfenjpnanoiaaSls
import Derived.Test.YtljfenjpnanoiaaPCmp0
import Derived.Test.YtljfenjpnanoiaaBlk
import Derived.Deep.RegionWith
import Derived.Deep.DeepCutAuto
import Derived.Deep.CutBlock
import Derived.Deep.RegionHeld3
set_option linter.unusedSimpArgs false
set_option linter.unusedVariables false
namespace Go.Proofs.Ytljfenjpnanoiaa
open Go.RowKit

/-- Three numbers of a list, cell by cell. -/
def Th3 (b o p q a c d : Nat) (w' : World) : Prop := w'.cell? ⟨b, o, none⟩ = some (.int .u64 (lb a 0)) ∧ w'.cell? ⟨b, o + 1, none⟩ = some (.int .u64 (lb a 1)) ∧ w'.cell? ⟨b, o + 2, none⟩ = some (.int .u64 (lb a 2)) ∧ w'.cell? ⟨b, o + 3, none⟩ = some (.int .u64 (lb a 3)) ∧ w'.cell? ⟨b, p, none⟩ = some (.int .u64 (lb c 0)) ∧ w'.cell? ⟨b, p + 1, none⟩ = some (.int .u64 (lb c 1)) ∧ w'.cell? ⟨b, p + 2, none⟩ = some (.int .u64 (lb c 2)) ∧ w'.cell? ⟨b, p + 3, none⟩ = some (.int .u64 (lb c 3)) ∧ w'.cell? ⟨b, q, none⟩ = some (.int .u64 (lb d 0)) ∧ w'.cell? ⟨b, q + 1, none⟩ = some (.int .u64 (lb d 1)) ∧ w'.cell? ⟨b, q + 2, none⟩ = some (.int .u64 (lb d 2)) ∧ w'.cell? ⟨b, q + 3, none⟩ = some (.int .u64 (lb d 3))
theorem Th3.below {b o p q a c d : Nat} {w w' : World} (h : Th3 b o p q a c d w) (hb : Below w.heap.size w w') : Th3 b o p q a c d w' := by
  obtain ⟨h0, h1, h2, h3, h4, h5, h6, h7, h8, h9, h10, h11⟩ := h
  exact ⟨below_at hb (cell_lt h0) h0, below_at hb (cell_lt h1) h1, below_at hb (cell_lt h2) h2, below_at hb (cell_lt h3) h3, below_at hb (cell_lt h4) h4, below_at hb (cell_lt h5) h5, below_at hb (cell_lt h6) h6, below_at hb (cell_lt h7) h7, below_at hb (cell_lt h8) h8, below_at hb (cell_lt h9) h9, below_at hb (cell_lt h10) h10, below_at hb (cell_lt h11) h11⟩
theorem Th3.drew {b o p q a c d : Nat} {w : World} (h : Th3 b o p q a c d w) : Th3 b o p q a c d w.drew := h
theorem Th3.alloc {b o p q a c d : Nat} {w : World} (h : Th3 b o p q a c d w) (x : Obj) : Th3 b o p q a c d (w.alloc x) := h.below ((Below.refl _ w).alloc (Nat.le_refl _) x)
theorem Th3.set {b o p q a c d : Nat} {w : World} (h : Th3 b o p q a c d w) {x : Addr} (ha : b ≠ x.block) (u : Value) : Th3 b o p q a c d (w.setCell x u) := by
  have e : ∀ i, (w.setCell x u).cell? ⟨b, i, none⟩ = w.cell? ⟨b, i, none⟩ := fun i => World.cell?_of_block (Below.heap_setCell w x u b ha)
  unfold Th3; simp only [e]; exact h
theorem add_ok (n m s : Nat) (hn : n < M256) (hm : m < M256) (h : n + m = s) (hs : s < M256) (w : World) : Calls Try.prog 18 #[V n, V m] w fun e w' => e = .returned (.tuple #[V s, .int .i64 0]) ∧ Below w.heap.size w w' := by
  have := add n m hn hm w
  simpa only [addV, addOkE, h, hs, if_true] using this
theorem add_over (n m : Nat) (hn : n < M256) (hm : m < M256) (h : ¬ n + m < M256) (w : World) : Calls Try.prog 18 #[V n, V m] w fun e w' => e = .returned (.tuple #[V 0, .int .i64 8]) ∧ Below w.heap.size w w' := by
  have := add n m hn hm w
  simpa only [addV, addOkE, h, if_false] using this
theorem mul_ok (n m s : Nat) (hn : n < M256) (hm : m < M256) (h : n * m = s) (hs : s < M256) (w : World) : Calls Try.prog 22 #[V n, V m] w fun e w' => e = .returned (.tuple #[V s, .int .i64 0]) ∧ Below w.heap.size w w' := by
  have := mul n m hn hm w
  simpa only [mulV, mulOkE, h, hs, if_true] using this
theorem mul_over (n m : Nat) (hn : n < M256) (hm : m < M256) (h : ¬ n * m < M256) (w : World) : Calls Try.prog 22 #[V n, V m] w fun e w' => e = .returned (.tuple #[V 0, .int .i64 8]) ∧ Below w.heap.size w w' := by
  have := mul n m hn hm w
  simpa only [mulV, mulOkE, h, if_false] using this
theorem sub_ok (n m s : Nat) (hn : n < M256) (hm : m < M256) (h : n = s + m) (w : World) : Calls Try.prog 21 #[V n, V m] w fun e w' => e = .returned (.tuple #[V s, .int .i64 0]) ∧ Below w.heap.size w w' := by
  have := sub n m hn hm w
  have h1 : m ≤ n := by omega
  have h2 : n - m = s := by omega
  simpa only [subV, subOkE, h1, h2, if_true] using this
theorem cmp_ge (n m : Nat) (hn : n < M256) (hm : m < M256) (h : m ≤ n) : ∃ c : Int, decide (c < 0) = false ∧ ∀ w, Calls Try.prog 19 #[V n, V m] w fun e w' => e = .returned (.int .i64 c) ∧ Below w.heap.size w w' :=
  ⟨cmpV n m, by
    have h0 : ¬ n < m := Nat.not_lt.2 h
    simp only [cmpV, h0, if_false]
    split <;> decide, cmp n m hn hm⟩
theorem cmp_less (n m : Nat) (hn : n < M256) (hm : m < M256) (h : n < m) (w : World) : Calls Try.prog 19 #[V n, V m] w fun e w' => e = .returned (.int .i64 (-1)) ∧ Below w.heap.size w w' := by
  have := cmp n m hn hm w
  simpa only [cmpV, h, if_true] using this
theorem div_none (n m : Nat) (hn : n < M256) (h : m = 0) (w : World) : Calls Try.prog 17 #[V n, V m] w fun e w' => e = .returned (.tuple #[V 0, V 0, .int .i64 3]) ∧ Below w.heap.size w w' := by
  subst h; exact div_zero n hn w
theorem div_ok (n m q r : Nat) (hn : n < M256) (hm : m < M256) (h : 0 < m) (hq : n / m = q) (hr : n % m = r) (w : World) : Calls Try.prog 17 #[V n, V m] w fun e w' => e = .returned (.tuple #[V q, V r, .int .i64 0]) ∧ Below w.heap.size w w' := by
  have := div n m hn hm w
  have h1 : ¬ m = 0 := by omega
  simpa only [divR, divE, h1, hq, hr, if_false] using this
theorem same_neq (v : Nat) (w : World) : (binOp .neq 25 (V v) (V v)).run Try.prog w = .ok (.bool false) w := by rw [neq26, eq4_same]; rfl
theorem within53 (w : World) : Calls Try.prog 16 #[.int .i64 5, .int .i64 3] w fun e w' => e = .returned (.int .i64 2) ∧ w' = w := by
  go_enter Try.func16, Try.ntmps16
  go_wp2
  go_ret
  exact ⟨rfl, rfl⟩
set_option maxRecDepth 100000 in
set_option maxHeartbeats 10000000 in
theorem numLaws_walk (v : Value) (ns : List Nat) (w : World) (hs : Sl w v ns) :
    Calls Try.prog 7 #[v] w fun e w' => e = .returned (.bool true) ∧ Below w.heap.size w w' := by
  obtain ⟨ad, cap, rfl, hat⟩ := hs.at
  have HA : Hid (∀ i (hi : i < ns.length), ∃ b off, ad = some ⟨b, off, none⟩ ∧ w.cell? ⟨b, off + i * 4, none⟩ = some (.int .u64 (lb ns[i] 0)) ∧ w.cell? ⟨b, off + i * 4 + 1, none⟩ = some (.int .u64 (lb ns[i] 1)) ∧ w.cell? ⟨b, off + i * 4 + 2, none⟩ = some (.int .u64 (lb ns[i] 2)) ∧ w.cell? ⟨b, off + i * 4 + 3, none⟩ = some (.int .u64 (lb ns[i] 3))) := hat
  have HS : Hid (Sl w (.slice ad ns.length cap) ns) := hs
  have hlen : ns.length ≤ 9223372036854775807 := hs.2.1
  clear hat hs
  go_enter Try.func7, Try.ntmps7
  go_wp2_with fail
  go_loopw [3] (fun i wr => ∃ k : Nat, k ≤ ns.length ∧ k ≤ 12 ∧ i = .int .i64 k ∧ Below w.heap.size w wr) (fun i _ => 12 - (intOf i).toNat)
  case atStart => exact ⟨0, by omega, by omega, rfl, Below.refl _ _⟩
  case round =>
    obtain ⟨i, hi1, hi2, rfl, hbo⟩ := hrel
    have hszo := hbo.size
    by_cases hlt : i + 2 < ns.length
    · by_cases hlt2 : i < 12
      · focus
          have hlt' : (i : Int) + 2 < (ns.length : Int) := by omega
          have hx0 : (i : Int) < (ns.length : Int) := by omega
          have hx1 : (i : Int) + 1 < (ns.length : Int) := by omega
          have hx2 : 0 ≤ (i : Int) + 1 := by omega
          have hx3 : 0 ≤ (i : Int) + 2 := by omega
          have hx4 : i < ns.length := by omega
          have hx5 : i + 1 < ns.length := by omega
          have hx6 : ((i : Int) + 1).toNat = i + 1 := by omega
          have hx7 : ((i : Int) + 2).toNat = i + 2 := by omega
          have hx8 : -1 ≤ (i : Int) := by omega
          have hx9 : -2 ≤ (i : Int) := by omega
          have hw1 : IntKind.i64.wrap ((i : Int) + 1) = (i : Int) + 1 := by rw [IntKind.wrap_i64]; omega
          have hw2 : IntKind.i64.wrap ((i : Int) + 2) = (i : Int) + 2 := by rw [IntKind.wrap_i64]; omega
          have hxa : ¬ (i : Int) + 1 < 0 := by omega
          have hxb : ¬ (i : Int) + 2 < 0 := by omega
          obtain ⟨b, off, rfl, h00, h01, h02, h03⟩ := HA.out i (by omega)
          obtain ⟨b', off', hab, h10, h11, h12, h13⟩ := HA.out (i + 1) (by omega)
          obtain ⟨rfl, rfl⟩ : b = b' ∧ off = off' := by simpa using hab
          obtain ⟨b'', off'', hab', h20, h21, h22, h23⟩ := HA.out (i + 2) (by omega)
          obtain ⟨rfl, rfl⟩ : b = b'' ∧ off = off'' := by simpa using hab'
          have Ha : Hid (ns[i] < M256) := HS.out.1 _ (List.getElem_mem _)
          have Hb : Hid (ns[i + 1] < M256) := HS.out.1 _ (List.getElem_mem _)
          have Hd : Hid (ns[i + 2] < M256) := HS.out.1 _ (List.getElem_mem _)
          generalize ns[i] = a at h00 h01 h02 h03 Ha
          generalize ns[i + 1] = b2 at h10 h11 h12 h13 Hb
          generalize ns[i + 2] = d at h20 h21 h22 h23 Hd
          have hbw : b < wr.heap.size := Nat.lt_of_lt_of_le (cell_lt h00) hszo
          have e0 := (hbo.cell (p := ⟨b, off + i * 4, none⟩) (cell_lt h00)).trans h00
          have e1 := (hbo.cell (p := ⟨b, off + i * 4 + 1, none⟩) (cell_lt h01)).trans h01
          have e2 := (hbo.cell (p := ⟨b, off + i * 4 + 2, none⟩) (cell_lt h02)).trans h02
          have e3 := (hbo.cell (p := ⟨b, off + i * 4 + 3, none⟩) (cell_lt h03)).trans h03
          have e4 := (hbo.cell (p := ⟨b, off + (i + 1) * 4, none⟩) (cell_lt h10)).trans h10
          have e5 := (hbo.cell (p := ⟨b, off + (i + 1) * 4 + 1, none⟩) (cell_lt h11)).trans h11
          have e6 := (hbo.cell (p := ⟨b, off + (i + 1) * 4 + 2, none⟩) (cell_lt h12)).trans h12
          have e7 := (hbo.cell (p := ⟨b, off + (i + 1) * 4 + 3, none⟩) (cell_lt h13)).trans h13
          have e8 := (hbo.cell (p := ⟨b, off + (i + 2) * 4, none⟩) (cell_lt h20)).trans h20
          have e9 := (hbo.cell (p := ⟨b, off + (i + 2) * 4 + 1, none⟩) (cell_lt h21)).trans h21
          have e10 := (hbo.cell (p := ⟨b, off + (i + 2) * 4 + 2, none⟩) (cell_lt h22)).trans h22
          have e11 := (hbo.cell (p := ⟨b, off + (i + 2) * 4 + 3, none⟩) (cell_lt h23)).trans h23
          clear hab hab' h00 h01 h02 h03 h10 h11 h12 h13 h20 h21 h22 h23
          go_upto_region 4 with fail
          go_cut [4, 5, 6] (fun p q r wx => ∃ A B D, p = .pointer (some ⟨A, 0, none⟩) ∧ q = .pointer (some ⟨B, 0, none⟩) ∧ r = .pointer (some ⟨D, 0, none⟩) ∧ Bk wx A (A4 (lb (a) 0) (lb (a) 1) (lb (a) 2) (lb (a) 3)) 25 ∧ Bk wx B (A4 (lb (b2) 0) (lb (b2) 1) (lb (b2) 2) (lb (b2) 3)) 25 ∧ Bk wx D (A4 (lb (d) 0) (lb (d) 1) (lb (d) 2) (lb (d) 3)) 25 ∧ Below wr.heap.size wr wx)
          case first =>
            have hT : Th3 b (off + i * 4) (off + (i + 1) * 4) (off + (i + 2) * 4) a b2 d wr := ⟨e0, e1, e2, e3, e4, e5, e6, e7, e8, e9, e10, e11⟩
            have bw : Below wr.heap.size wr wr := Below.refl _ _
            go_region_held3 (fun w' => w'.cell? ⟨b, off + i * 4, none⟩ = some (.int .u64 (lb a 0)) ∧ w'.cell? ⟨b, off + i * 4 + 1, none⟩ = some (.int .u64 (lb a 1)) ∧ w'.cell? ⟨b, off + i * 4 + 2, none⟩ = some (.int .u64 (lb a 2)) ∧ w'.cell? ⟨b, off + i * 4 + 3, none⟩ = some (.int .u64 (lb a 3)) ∧ w'.cell? ⟨b, off + (i + 1) * 4, none⟩ = some (.int .u64 (lb b2 0)) ∧ w'.cell? ⟨b, off + (i + 1) * 4 + 1, none⟩ = some (.int .u64 (lb b2 1)) ∧ w'.cell? ⟨b, off + (i + 1) * 4 + 2, none⟩ = some (.int .u64 (lb b2 2)) ∧ w'.cell? ⟨b, off + (i + 1) * 4 + 3, none⟩ = some (.int .u64 (lb b2 3)) ∧ w'.cell? ⟨b, off + (i + 2) * 4, none⟩ = some (.int .u64 (lb d 0)) ∧ w'.cell? ⟨b, off + (i + 2) * 4 + 1, none⟩ = some (.int .u64 (lb d 1)) ∧ w'.cell? ⟨b, off + (i + 2) * 4 + 2, none⟩ = some (.int .u64 (lb d 2)) ∧ w'.cell? ⟨b, off + (i + 2) * 4 + 3, none⟩ = some (.int .u64 (lb d 3))) ((show Th3 b (off + i * 4) (off + (i + 1) * 4) (off + (i + 2) * 4) a b2 d _; repeat (first | with_reducible exact hT | with_reducible refine Th3.drew ?_ | with_reducible refine Th3.alloc ?_ _ | with_reducible refine Th3.set ?_ (by simp <;> omega) _))) (fail)
            all_goals
              go_wp2_with fail
              go_meet
              refine ⟨_, _, _, rfl, rfl, rfl, ?_, ?_, ?_, ?_⟩
              · repeat (first | with_reducible exact Bk.new _ _ _ | with_reducible exact Bk.new' _ _ _ (by simp) | with_reducible refine Bk.drew ?_ | with_reducible refine Bk.alloc ?_ _)
              · repeat (first | with_reducible exact Bk.new _ _ _ | with_reducible exact Bk.new' _ _ _ (by simp) | with_reducible refine Bk.drew ?_ | with_reducible refine Bk.alloc ?_ _)
              · repeat (first | with_reducible exact Bk.new _ _ _ | with_reducible exact Bk.new' _ _ _ (by simp) | with_reducible refine Bk.drew ?_ | with_reducible refine Bk.alloc ?_ _)
              · repeat (first | with_reducible exact bw | with_reducible refine Below.drew ?_ | with_reducible refine Below.alloc ?_ (by first | omega | (simp <;> omega)) _)
          case rest =>
            obtain ⟨A, B, D, rfl, rfl, rfl, bA, bB, bD, hB⟩ := hcut
            obtain ⟨wa, rfl⟩ : ∃ wa : World, wa = wc := ⟨_, rfl⟩
            clear e0 e1 e2 e3 e4 e5 e6 e7 e8 e9 e10 e11
            by_cases hs : a + b2 < M256
            · obtain ⟨s, hsE⟩ : ∃ s, a + b2 = s := ⟨_, rfl⟩
              have hsM : s < M256 := by omega
              have Hs : Hid (s < M256) := hsM
              have hab := fun w => add_ok a b2 s Ha.out Hb.out hsE hsM w
              have hba := fun w => add_ok b2 a s Hb.out Ha.out (by omega) hsM w
              have hsu := fun w => sub_ok s b2 a hsM Hb.out (by omega) w
              obtain ⟨c, hcd, hcm⟩ := cmp_ge s a hsM Ha.out (by omega)
              have hes := fun w => same_neq s w
              have hea := fun w => same_neq a w
              have fa0 := bA.cell 0
              have faf0 := bA.frozen 0
              have fa1 := bA.cell 1
              have faf1 := bA.frozen 1
              have fa2 := bA.cell 2
              have faf2 := bA.frozen 2
              have fa3 := bA.cell 3
              have faf3 := bA.frozen 3
              simp only [List.getElem?_toArray, List.getElem?_cons_zero, List.getElem?_cons_succ] at fa0 fa1 fa2 fa3
              have fb0 := bB.cell 0
              have fbf0 := bB.frozen 0
              have fb1 := bB.cell 1
              have fbf1 := bB.frozen 1
              have fb2 := bB.cell 2
              have fbf2 := bB.frozen 2
              have fb3 := bB.cell 3
              have fbf3 := bB.frozen 3
              simp only [List.getElem?_toArray, List.getElem?_cons_zero, List.getElem?_cons_succ] at fb0 fb1 fb2 fb3
              go_upto_region 6 with (first | (go_at_call 20; refine (num_any _ _).mono ?_; rintro e w9 ⟨rfl, rfl⟩) | (go_at_call 18; refine (hab _).mono ?_; rintro e v1 ⟨rfl, hbv1⟩))
              have bA := ((bA.below hbv1 bA.lt).alloc (.cells (A4 (lb (s) 0) (lb (s) 1) (lb (s) 2) (lb (s) 3)) 25))
              have bB := ((bB.below hbv1 bB.lt).alloc (.cells (A4 (lb (s) 0) (lb (s) 1) (lb (s) 2) (lb (s) 3)) 25))
              have bD := ((bD.below hbv1 bD.lt).alloc (.cells (A4 (lb (s) 0) (lb (s) 1) (lb (s) 2) (lb (s) 3)) 25))
              have hsv1 := hbv1.size
              have hB := ((hB.trans (hbv1.mono hB.size)).alloc (by first | (have := hB.size; omega) | (simp; have := hB.size; omega)) (.cells (A4 (lb (s) 0) (lb (s) 1) (lb (s) 2) (lb (s) 3)) 25))
              have bS := (Bk.new v1 (A4 (lb (s) 0) (lb (s) 1) (lb (s) 2) (lb (s) 3)) 25)
              obtain ⟨S, hS⟩ : ∃ z, z = v1.heap.size := ⟨_, rfl⟩
              rw [← hS] at bS ⊢
              clear hS
              clear hbv1 hsv1
              clear fa0 faf0 fa1 faf1 fa2 faf2 fa3 faf3 fb0 fbf0 fb1 fbf1 fb2 fbf2 fb3 fbf3
              generalize World.alloc _ _ = w_v1 at *
              have fb0 := bB.cell 0
              have fbf0 := bB.frozen 0
              have fb1 := bB.cell 1
              have fbf1 := bB.frozen 1
              have fb2 := bB.cell 2
              have fbf2 := bB.frozen 2
              have fb3 := bB.cell 3
              have fbf3 := bB.frozen 3
              simp only [List.getElem?_toArray, List.getElem?_cons_zero, List.getElem?_cons_succ] at fb0 fb1 fb2 fb3
              have fa0 := bA.cell 0
              have faf0 := bA.frozen 0
              have fa1 := bA.cell 1
              have faf1 := bA.frozen 1
              have fa2 := bA.cell 2
              have faf2 := bA.frozen 2
              have fa3 := bA.cell 3
              have faf3 := bA.frozen 3
              simp only [List.getElem?_toArray, List.getElem?_cons_zero, List.getElem?_cons_succ] at fa0 fa1 fa2 fa3
              go_upto_region 7 with (first | (go_at_call 20; refine (num_any _ _).mono ?_; rintro e w9 ⟨rfl, rfl⟩) | (go_at_call 18; refine (hba _).mono ?_; rintro e v2 ⟨rfl, hbv2⟩))
              have bA := ((bA.below hbv2 bA.lt).alloc (.cells (A4 (lb (s) 0) (lb (s) 1) (lb (s) 2) (lb (s) 3)) 25))
              have bB := ((bB.below hbv2 bB.lt).alloc (.cells (A4 (lb (s) 0) (lb (s) 1) (lb (s) 2) (lb (s) 3)) 25))
              have bD := ((bD.below hbv2 bD.lt).alloc (.cells (A4 (lb (s) 0) (lb (s) 1) (lb (s) 2) (lb (s) 3)) 25))
              have bS := ((bS.below hbv2 bS.lt).alloc (.cells (A4 (lb (s) 0) (lb (s) 1) (lb (s) 2) (lb (s) 3)) 25))
              have hsv2 := hbv2.size
              have hB := ((hB.trans (hbv2.mono hB.size)).alloc (by first | (have := hB.size; omega) | (simp; have := hB.size; omega)) (.cells (A4 (lb (s) 0) (lb (s) 1) (lb (s) 2) (lb (s) 3)) 25))
              have bT := (Bk.new v2 (A4 (lb (s) 0) (lb (s) 1) (lb (s) 2) (lb (s) 3)) 25)
              obtain ⟨T, hT⟩ : ∃ z, z = v2.heap.size := ⟨_, rfl⟩
              rw [← hT] at bT ⊢
              clear hT
              clear hbv2 hsv2
              clear fb0 fbf0 fb1 fbf1 fb2 fbf2 fb3 fbf3 fa0 faf0 fa1 faf1 fa2 faf2 fa3 faf3
              generalize World.alloc _ _ = w_v2 at *
              have fs0 := bS.cell 0
              have fsf0 := bS.frozen 0
              have fs1 := bS.cell 1
              have fsf1 := bS.frozen 1
              have fs2 := bS.cell 2
              have fsf2 := bS.frozen 2
              have fs3 := bS.cell 3
              have fsf3 := bS.frozen 3
              simp only [List.getElem?_toArray, List.getElem?_cons_zero, List.getElem?_cons_succ] at fs0 fs1 fs2 fs3
              have ft0 := bT.cell 0
              have ftf0 := bT.frozen 0
              have ft1 := bT.cell 1
              have ftf1 := bT.frozen 1
              have ft2 := bT.cell 2
              have ftf2 := bT.frozen 2
              have ft3 := bT.cell 3
              have ftf3 := bT.frozen 3
              simp only [List.getElem?_toArray, List.getElem?_cons_zero, List.getElem?_cons_succ] at ft0 ft1 ft2 ft3
              have fb0 := bB.cell 0
              have fbf0 := bB.frozen 0
              have fb1 := bB.cell 1
              have fbf1 := bB.frozen 1
              have fb2 := bB.cell 2
              have fbf2 := bB.frozen 2
              have fb3 := bB.cell 3
              have fbf3 := bB.frozen 3
              simp only [List.getElem?_toArray, List.getElem?_cons_zero, List.getElem?_cons_succ] at fb0 fb1 fb2 fb3
              go_upto_region 11 with (first | (go_at_call 20; refine (num_any _ _).mono ?_; rintro e w9 ⟨rfl, rfl⟩) | (go_at_call 21; refine (hsu _).mono ?_; rintro e v3 ⟨rfl, hbv3⟩))
              have bA := ((bA.below hbv3 bA.lt).alloc (.cells (A4 (lb (a) 0) (lb (a) 1) (lb (a) 2) (lb (a) 3)) 25))
              have bB := ((bB.below hbv3 bB.lt).alloc (.cells (A4 (lb (a) 0) (lb (a) 1) (lb (a) 2) (lb (a) 3)) 25))
              have bD := ((bD.below hbv3 bD.lt).alloc (.cells (A4 (lb (a) 0) (lb (a) 1) (lb (a) 2) (lb (a) 3)) 25))
              have bS := ((bS.below hbv3 bS.lt).alloc (.cells (A4 (lb (a) 0) (lb (a) 1) (lb (a) 2) (lb (a) 3)) 25))
              have bT := ((bT.below hbv3 bT.lt).alloc (.cells (A4 (lb (a) 0) (lb (a) 1) (lb (a) 2) (lb (a) 3)) 25))
              have hsv3 := hbv3.size
              have hB := ((hB.trans (hbv3.mono hB.size)).alloc (by first | (have := hB.size; omega) | (simp; have := hB.size; omega)) (.cells (A4 (lb (a) 0) (lb (a) 1) (lb (a) 2) (lb (a) 3)) 25))
              have bK := (Bk.new v3 (A4 (lb (a) 0) (lb (a) 1) (lb (a) 2) (lb (a) 3)) 25)
              obtain ⟨K, hK⟩ : ∃ z, z = v3.heap.size := ⟨_, rfl⟩
              rw [← hK] at bK ⊢
              clear hK
              clear hbv3 hsv3
              clear fs0 fsf0 fs1 fsf1 fs2 fsf2 fs3 fsf3 ft0 ftf0 ft1 ftf1 ft2 ftf2 ft3 ftf3 fb0 fbf0 fb1 fbf1 fb2 fbf2 fb3 fbf3
              generalize World.alloc _ _ = w_v3 at *
              have fk0 := bK.cell 0
              have fkf0 := bK.frozen 0
              have fk1 := bK.cell 1
              have fkf1 := bK.frozen 1
              have fk2 := bK.cell 2
              have fkf2 := bK.frozen 2
              have fk3 := bK.cell 3
              have fkf3 := bK.frozen 3
              simp only [List.getElem?_toArray, List.getElem?_cons_zero, List.getElem?_cons_succ] at fk0 fk1 fk2 fk3
              have fa0 := bA.cell 0
              have faf0 := bA.frozen 0
              have fa1 := bA.cell 1
              have faf1 := bA.frozen 1
              have fa2 := bA.cell 2
              have faf2 := bA.frozen 2
              have fa3 := bA.cell 3
              have faf3 := bA.frozen 3
              simp only [List.getElem?_toArray, List.getElem?_cons_zero, List.getElem?_cons_succ] at fa0 fa1 fa2 fa3
              have fs0 := bS.cell 0
              have fsf0 := bS.frozen 0
              have fs1 := bS.cell 1
              have fsf1 := bS.frozen 1
              have fs2 := bS.cell 2
              have fsf2 := bS.frozen 2
              have fs3 := bS.cell 3
              have fsf3 := bS.frozen 3
              simp only [List.getElem?_toArray, List.getElem?_cons_zero, List.getElem?_cons_succ] at fs0 fs1 fs2 fs3
              go_upto_region 13 with (first | (go_at_call 20; refine (num_any _ _).mono ?_; rintro e w9 ⟨rfl, rfl⟩) | (go_at_call 19; refine (hcm _).mono ?_; rintro e v4 ⟨rfl, hbv4⟩))
              have bA := (bA.below hbv4 bA.lt)
              have bB := (bB.below hbv4 bB.lt)
              have bD := (bD.below hbv4 bD.lt)
              have bS := (bS.below hbv4 bS.lt)
              have bT := (bT.below hbv4 bT.lt)
              have bK := (bK.below hbv4 bK.lt)
              have hsv4 := hbv4.size
              have hB := (hB.trans (hbv4.mono hB.size))
              clear hbv4 hsv4
              clear fk0 fkf0 fk1 fkf1 fk2 fkf2 fk3 fkf3 fa0 faf0 fa1 faf1 fa2 faf2 fa3 faf3 fs0 fsf0 fs1 fsf1 fs2 fsf2 fs3 fsf3
              clear hab hba hsu hcm hcd hes hea
              by_cases hm : s * d < M256
              · obtain ⟨x, hx⟩ : ∃ x, s * d = x := ⟨_, rfl⟩
                obtain ⟨y, hy⟩ : ∃ y, a * d = y := ⟨_, rfl⟩
                obtain ⟨z, hz⟩ : ∃ z, b2 * d = z := ⟨_, rfl⟩
                have hyz : y + z = x := by rw [← hx, ← hy, ← hz, ← hsE, Nat.add_mul]
                have hxM : x < M256 := by omega
                have h1 := fun w => mul_ok s d x Hs.out Hd.out hx hxM w
                have h2 := fun w => mul_ok a d y Ha.out Hd.out hy (by omega) w
                have h3 := fun w => mul_ok b2 d z Hb.out Hd.out hz (by omega) w
                have h4 := fun w => add_ok y z x (by omega) (by omega) hyz hxM w
                have hex := fun w => same_neq x w
                clear hx hy hz hyz hm hxM
                have fs0 := bS.cell 0
                have fsf0 := bS.frozen 0
                have fs1 := bS.cell 1
                have fsf1 := bS.frozen 1
                have fs2 := bS.cell 2
                have fsf2 := bS.frozen 2
                have fs3 := bS.cell 3
                have fsf3 := bS.frozen 3
                simp only [List.getElem?_toArray, List.getElem?_cons_zero, List.getElem?_cons_succ] at fs0 fs1 fs2 fs3
                have fd0 := bD.cell 0
                have fdf0 := bD.frozen 0
                have fd1 := bD.cell 1
                have fdf1 := bD.frozen 1
                have fd2 := bD.cell 2
                have fdf2 := bD.frozen 2
                have fd3 := bD.cell 3
                have fdf3 := bD.frozen 3
                simp only [List.getElem?_toArray, List.getElem?_cons_zero, List.getElem?_cons_succ] at fd0 fd1 fd2 fd3
                go_upto_region 14 with (first | (go_at_call 20; refine (num_any _ _).mono ?_; rintro e w9 ⟨rfl, rfl⟩) | (go_at_call 22; refine (h1 _).mono ?_; rintro e v5 ⟨rfl, hbv5⟩))
                have bA := ((bA.below hbv5 bA.lt).alloc (.cells (A4 (lb (x) 0) (lb (x) 1) (lb (x) 2) (lb (x) 3)) 25))
                have bB := ((bB.below hbv5 bB.lt).alloc (.cells (A4 (lb (x) 0) (lb (x) 1) (lb (x) 2) (lb (x) 3)) 25))
                have bD := ((bD.below hbv5 bD.lt).alloc (.cells (A4 (lb (x) 0) (lb (x) 1) (lb (x) 2) (lb (x) 3)) 25))
                have bS := ((bS.below hbv5 bS.lt).alloc (.cells (A4 (lb (x) 0) (lb (x) 1) (lb (x) 2) (lb (x) 3)) 25))
                have bT := ((bT.below hbv5 bT.lt).alloc (.cells (A4 (lb (x) 0) (lb (x) 1) (lb (x) 2) (lb (x) 3)) 25))
                have bK := ((bK.below hbv5 bK.lt).alloc (.cells (A4 (lb (x) 0) (lb (x) 1) (lb (x) 2) (lb (x) 3)) 25))
                have hsv5 := hbv5.size
                have hB := ((hB.trans (hbv5.mono hB.size)).alloc (by first | (have := hB.size; omega) | (simp; have := hB.size; omega)) (.cells (A4 (lb (x) 0) (lb (x) 1) (lb (x) 2) (lb (x) 3)) 25))
                have bX := (Bk.new v5 (A4 (lb (x) 0) (lb (x) 1) (lb (x) 2) (lb (x) 3)) 25)
                obtain ⟨X, hX⟩ : ∃ z, z = v5.heap.size := ⟨_, rfl⟩
                rw [← hX] at bX ⊢
                clear hX
                clear hbv5 hsv5
                clear fs0 fsf0 fs1 fsf1 fs2 fsf2 fs3 fsf3 fd0 fdf0 fd1 fdf1 fd2 fdf2 fd3 fdf3
                generalize World.alloc _ _ = w_v5 at *
                have fa0 := bA.cell 0
                have faf0 := bA.frozen 0
                have fa1 := bA.cell 1
                have faf1 := bA.frozen 1
                have fa2 := bA.cell 2
                have faf2 := bA.frozen 2
                have fa3 := bA.cell 3
                have faf3 := bA.frozen 3
                simp only [List.getElem?_toArray, List.getElem?_cons_zero, List.getElem?_cons_succ] at fa0 fa1 fa2 fa3
                have fd0 := bD.cell 0
                have fdf0 := bD.frozen 0
                have fd1 := bD.cell 1
                have fdf1 := bD.frozen 1
                have fd2 := bD.cell 2
                have fdf2 := bD.frozen 2
                have fd3 := bD.cell 3
                have fdf3 := bD.frozen 3
                simp only [List.getElem?_toArray, List.getElem?_cons_zero, List.getElem?_cons_succ] at fd0 fd1 fd2 fd3
                go_upto_region 15 with (first | (go_at_call 20; refine (num_any _ _).mono ?_; rintro e w9 ⟨rfl, rfl⟩) | (go_at_call 22; refine (h2 _).mono ?_; rintro e v6 ⟨rfl, hbv6⟩))
                have bA := ((bA.below hbv6 bA.lt).alloc (.cells (A4 (lb (y) 0) (lb (y) 1) (lb (y) 2) (lb (y) 3)) 25))
                have bB := ((bB.below hbv6 bB.lt).alloc (.cells (A4 (lb (y) 0) (lb (y) 1) (lb (y) 2) (lb (y) 3)) 25))
                have bD := ((bD.below hbv6 bD.lt).alloc (.cells (A4 (lb (y) 0) (lb (y) 1) (lb (y) 2) (lb (y) 3)) 25))
                have bS := ((bS.below hbv6 bS.lt).alloc (.cells (A4 (lb (y) 0) (lb (y) 1) (lb (y) 2) (lb (y) 3)) 25))
                have bT := ((bT.below hbv6 bT.lt).alloc (.cells (A4 (lb (y) 0) (lb (y) 1) (lb (y) 2) (lb (y) 3)) 25))
                have bK := ((bK.below hbv6 bK.lt).alloc (.cells (A4 (lb (y) 0) (lb (y) 1) (lb (y) 2) (lb (y) 3)) 25))
                have bX := ((bX.below hbv6 bX.lt).alloc (.cells (A4 (lb (y) 0) (lb (y) 1) (lb (y) 2) (lb (y) 3)) 25))
                have hsv6 := hbv6.size
                have hB := ((hB.trans (hbv6.mono hB.size)).alloc (by first | (have := hB.size; omega) | (simp; have := hB.size; omega)) (.cells (A4 (lb (y) 0) (lb (y) 1) (lb (y) 2) (lb (y) 3)) 25))
                have bY := (Bk.new v6 (A4 (lb (y) 0) (lb (y) 1) (lb (y) 2) (lb (y) 3)) 25)
                obtain ⟨Y, hY⟩ : ∃ z, z = v6.heap.size := ⟨_, rfl⟩
                rw [← hY] at bY ⊢
                clear hY
                clear hbv6 hsv6
                clear fa0 faf0 fa1 faf1 fa2 faf2 fa3 faf3 fd0 fdf0 fd1 fdf1 fd2 fdf2 fd3 fdf3
                generalize World.alloc _ _ = w_v6 at *
                have fb0 := bB.cell 0
                have fbf0 := bB.frozen 0
                have fb1 := bB.cell 1
                have fbf1 := bB.frozen 1
                have fb2 := bB.cell 2
                have fbf2 := bB.frozen 2
                have fb3 := bB.cell 3
                have fbf3 := bB.frozen 3
                simp only [List.getElem?_toArray, List.getElem?_cons_zero, List.getElem?_cons_succ] at fb0 fb1 fb2 fb3
                have fd0 := bD.cell 0
                have fdf0 := bD.frozen 0
                have fd1 := bD.cell 1
                have fdf1 := bD.frozen 1
                have fd2 := bD.cell 2
                have fdf2 := bD.frozen 2
                have fd3 := bD.cell 3
                have fdf3 := bD.frozen 3
                simp only [List.getElem?_toArray, List.getElem?_cons_zero, List.getElem?_cons_succ] at fd0 fd1 fd2 fd3
                go_upto_region 16 with (first | (go_at_call 20; refine (num_any _ _).mono ?_; rintro e w9 ⟨rfl, rfl⟩) | (go_at_call 22; refine (h3 _).mono ?_; rintro e v7 ⟨rfl, hbv7⟩))
                have bA := ((bA.below hbv7 bA.lt).alloc (.cells (A4 (lb (z) 0) (lb (z) 1) (lb (z) 2) (lb (z) 3)) 25))
                have bB := ((bB.below hbv7 bB.lt).alloc (.cells (A4 (lb (z) 0) (lb (z) 1) (lb (z) 2) (lb (z) 3)) 25))
                have bD := ((bD.below hbv7 bD.lt).alloc (.cells (A4 (lb (z) 0) (lb (z) 1) (lb (z) 2) (lb (z) 3)) 25))
                have bS := ((bS.below hbv7 bS.lt).alloc (.cells (A4 (lb (z) 0) (lb (z) 1) (lb (z) 2) (lb (z) 3)) 25))
                have bT := ((bT.below hbv7 bT.lt).alloc (.cells (A4 (lb (z) 0) (lb (z) 1) (lb (z) 2) (lb (z) 3)) 25))
                have bK := ((bK.below hbv7 bK.lt).alloc (.cells (A4 (lb (z) 0) (lb (z) 1) (lb (z) 2) (lb (z) 3)) 25))
                have bX := ((bX.below hbv7 bX.lt).alloc (.cells (A4 (lb (z) 0) (lb (z) 1) (lb (z) 2) (lb (z) 3)) 25))
                have bY := ((bY.below hbv7 bY.lt).alloc (.cells (A4 (lb (z) 0) (lb (z) 1) (lb (z) 2) (lb (z) 3)) 25))
                have hsv7 := hbv7.size
                have hB := ((hB.trans (hbv7.mono hB.size)).alloc (by first | (have := hB.size; omega) | (simp; have := hB.size; omega)) (.cells (A4 (lb (z) 0) (lb (z) 1) (lb (z) 2) (lb (z) 3)) 25))
                have bZ := (Bk.new v7 (A4 (lb (z) 0) (lb (z) 1) (lb (z) 2) (lb (z) 3)) 25)
                obtain ⟨Z, hZ⟩ : ∃ z, z = v7.heap.size := ⟨_, rfl⟩
                rw [← hZ] at bZ ⊢
                clear hZ
                clear hbv7 hsv7
                clear fb0 fbf0 fb1 fbf1 fb2 fbf2 fb3 fbf3 fd0 fdf0 fd1 fdf1 fd2 fdf2 fd3 fdf3
                generalize World.alloc _ _ = w_v7 at *
                have fy0 := bY.cell 0
                have fyf0 := bY.frozen 0
                have fy1 := bY.cell 1
                have fyf1 := bY.frozen 1
                have fy2 := bY.cell 2
                have fyf2 := bY.frozen 2
                have fy3 := bY.cell 3
                have fyf3 := bY.frozen 3
                simp only [List.getElem?_toArray, List.getElem?_cons_zero, List.getElem?_cons_succ] at fy0 fy1 fy2 fy3
                have fz0 := bZ.cell 0
                have fzf0 := bZ.frozen 0
                have fz1 := bZ.cell 1
                have fzf1 := bZ.frozen 1
                have fz2 := bZ.cell 2
                have fzf2 := bZ.frozen 2
                have fz3 := bZ.cell 3
                have fzf3 := bZ.frozen 3
                simp only [List.getElem?_toArray, List.getElem?_cons_zero, List.getElem?_cons_succ] at fz0 fz1 fz2 fz3
                go_upto_region 18 with (first | (go_at_call 20; refine (num_any _ _).mono ?_; rintro e w9 ⟨rfl, rfl⟩) | (go_at_call 18; refine (h4 _).mono ?_; rintro e v8 ⟨rfl, hbv8⟩))
                have bA := ((bA.below hbv8 bA.lt).alloc (.cells (A4 (lb (x) 0) (lb (x) 1) (lb (x) 2) (lb (x) 3)) 25))
                have bB := ((bB.below hbv8 bB.lt).alloc (.cells (A4 (lb (x) 0) (lb (x) 1) (lb (x) 2) (lb (x) 3)) 25))
                have bD := ((bD.below hbv8 bD.lt).alloc (.cells (A4 (lb (x) 0) (lb (x) 1) (lb (x) 2) (lb (x) 3)) 25))
                have bS := ((bS.below hbv8 bS.lt).alloc (.cells (A4 (lb (x) 0) (lb (x) 1) (lb (x) 2) (lb (x) 3)) 25))
                have bT := ((bT.below hbv8 bT.lt).alloc (.cells (A4 (lb (x) 0) (lb (x) 1) (lb (x) 2) (lb (x) 3)) 25))
                have bK := ((bK.below hbv8 bK.lt).alloc (.cells (A4 (lb (x) 0) (lb (x) 1) (lb (x) 2) (lb (x) 3)) 25))
                have bX := ((bX.below hbv8 bX.lt).alloc (.cells (A4 (lb (x) 0) (lb (x) 1) (lb (x) 2) (lb (x) 3)) 25))
                have bY := ((bY.below hbv8 bY.lt).alloc (.cells (A4 (lb (x) 0) (lb (x) 1) (lb (x) 2) (lb (x) 3)) 25))
                have bZ := ((bZ.below hbv8 bZ.lt).alloc (.cells (A4 (lb (x) 0) (lb (x) 1) (lb (x) 2) (lb (x) 3)) 25))
                have hsv8 := hbv8.size
                have hB := ((hB.trans (hbv8.mono hB.size)).alloc (by first | (have := hB.size; omega) | (simp; have := hB.size; omega)) (.cells (A4 (lb (x) 0) (lb (x) 1) (lb (x) 2) (lb (x) 3)) 25))
                have bW := (Bk.new v8 (A4 (lb (x) 0) (lb (x) 1) (lb (x) 2) (lb (x) 3)) 25)
                obtain ⟨W, hW⟩ : ∃ z, z = v8.heap.size := ⟨_, rfl⟩
                rw [← hW] at bW ⊢
                clear hW
                clear hbv8 hsv8
                clear fy0 fyf0 fy1 fyf1 fy2 fyf2 fy3 fyf3 fz0 fzf0 fz1 fzf1 fz2 fzf2 fz3 fzf3
                generalize World.alloc _ _ = w_v8 at *
                have fw0 := bW.cell 0
                have fwf0 := bW.frozen 0
                have fw1 := bW.cell 1
                have fwf1 := bW.frozen 1
                have fw2 := bW.cell 2
                have fwf2 := bW.frozen 2
                have fw3 := bW.cell 3
                have fwf3 := bW.frozen 3
                simp only [List.getElem?_toArray, List.getElem?_cons_zero, List.getElem?_cons_succ] at fw0 fw1 fw2 fw3
                have fx0 := bX.cell 0
                have fxf0 := bX.frozen 0
                have fx1 := bX.cell 1
                have fxf1 := bX.frozen 1
                have fx2 := bX.cell 2
                have fxf2 := bX.frozen 2
                have fx3 := bX.cell 3
                have fxf3 := bX.frozen 3
                simp only [List.getElem?_toArray, List.getElem?_cons_zero, List.getElem?_cons_succ] at fx0 fx1 fx2 fx3
                go_upto_region 20 with (go_at_call 20; refine (num_any _ _).mono ?_; rintro e w9 ⟨rfl, rfl⟩)
                clear fw0 fwf0 fw1 fwf1 fw2 fwf2 fw3 fwf3 fx0 fxf0 fx1 fxf1 fx2 fxf2 fx3 fxf3
                clear h1 h2 h3 h4 hex
                by_cases h0 : b2 = 0
                · have hdv := fun w => div_none a b2 Ha.out h0 w
                  clear h0
                  have fa0 := bA.cell 0
                  have faf0 := bA.frozen 0
                  have fa1 := bA.cell 1
                  have faf1 := bA.frozen 1
                  have fa2 := bA.cell 2
                  have faf2 := bA.frozen 2
                  have fa3 := bA.cell 3
                  have faf3 := bA.frozen 3
                  simp only [List.getElem?_toArray, List.getElem?_cons_zero, List.getElem?_cons_succ] at fa0 fa1 fa2 fa3
                  have fb0 := bB.cell 0
                  have fbf0 := bB.frozen 0
                  have fb1 := bB.cell 1
                  have fbf1 := bB.frozen 1
                  have fb2 := bB.cell 2
                  have fbf2 := bB.frozen 2
                  have fb3 := bB.cell 3
                  have fbf3 := bB.frozen 3
                  simp only [List.getElem?_toArray, List.getElem?_cons_zero, List.getElem?_cons_succ] at fb0 fb1 fb2 fb3
                  go_upto_region 21 with (first | (go_at_call 20; refine (num_any _ _).mono ?_; rintro e w9 ⟨rfl, rfl⟩) | (go_at_call 17; refine (hdv _).mono ?_; rintro e v9 ⟨rfl, hbv9⟩))
                  have bA := (((bA.below hbv9 bA.lt).alloc (.cells (A4 (lb (0) 0) (lb (0) 1) (lb (0) 2) (lb (0) 3)) 25)).alloc (.cells (A4 (lb (0) 0) (lb (0) 1) (lb (0) 2) (lb (0) 3)) 25))
                  have bB := (((bB.below hbv9 bB.lt).alloc (.cells (A4 (lb (0) 0) (lb (0) 1) (lb (0) 2) (lb (0) 3)) 25)).alloc (.cells (A4 (lb (0) 0) (lb (0) 1) (lb (0) 2) (lb (0) 3)) 25))
                  have bD := (((bD.below hbv9 bD.lt).alloc (.cells (A4 (lb (0) 0) (lb (0) 1) (lb (0) 2) (lb (0) 3)) 25)).alloc (.cells (A4 (lb (0) 0) (lb (0) 1) (lb (0) 2) (lb (0) 3)) 25))
                  have bS := (((bS.below hbv9 bS.lt).alloc (.cells (A4 (lb (0) 0) (lb (0) 1) (lb (0) 2) (lb (0) 3)) 25)).alloc (.cells (A4 (lb (0) 0) (lb (0) 1) (lb (0) 2) (lb (0) 3)) 25))
                  have bT := (((bT.below hbv9 bT.lt).alloc (.cells (A4 (lb (0) 0) (lb (0) 1) (lb (0) 2) (lb (0) 3)) 25)).alloc (.cells (A4 (lb (0) 0) (lb (0) 1) (lb (0) 2) (lb (0) 3)) 25))
                  have bK := (((bK.below hbv9 bK.lt).alloc (.cells (A4 (lb (0) 0) (lb (0) 1) (lb (0) 2) (lb (0) 3)) 25)).alloc (.cells (A4 (lb (0) 0) (lb (0) 1) (lb (0) 2) (lb (0) 3)) 25))
                  have bX := (((bX.below hbv9 bX.lt).alloc (.cells (A4 (lb (0) 0) (lb (0) 1) (lb (0) 2) (lb (0) 3)) 25)).alloc (.cells (A4 (lb (0) 0) (lb (0) 1) (lb (0) 2) (lb (0) 3)) 25))
                  have bY := (((bY.below hbv9 bY.lt).alloc (.cells (A4 (lb (0) 0) (lb (0) 1) (lb (0) 2) (lb (0) 3)) 25)).alloc (.cells (A4 (lb (0) 0) (lb (0) 1) (lb (0) 2) (lb (0) 3)) 25))
                  have bZ := (((bZ.below hbv9 bZ.lt).alloc (.cells (A4 (lb (0) 0) (lb (0) 1) (lb (0) 2) (lb (0) 3)) 25)).alloc (.cells (A4 (lb (0) 0) (lb (0) 1) (lb (0) 2) (lb (0) 3)) 25))
                  have bW := (((bW.below hbv9 bW.lt).alloc (.cells (A4 (lb (0) 0) (lb (0) 1) (lb (0) 2) (lb (0) 3)) 25)).alloc (.cells (A4 (lb (0) 0) (lb (0) 1) (lb (0) 2) (lb (0) 3)) 25))
                  have hsv9 := hbv9.size
                  have hB := (((hB.trans (hbv9.mono hB.size)).alloc (by first | (have := hB.size; omega) | (simp; have := hB.size; omega)) (.cells (A4 (lb (0) 0) (lb (0) 1) (lb (0) 2) (lb (0) 3)) 25)).alloc (by first | (have := hB.size; omega) | (simp; have := hB.size; omega)) (.cells (A4 (lb (0) 0) (lb (0) 1) (lb (0) 2) (lb (0) 3)) 25))
                  have bQ := ((Bk.new v9 (A4 (lb (0) 0) (lb (0) 1) (lb (0) 2) (lb (0) 3)) 25).alloc (.cells (A4 (lb (0) 0) (lb (0) 1) (lb (0) 2) (lb (0) 3)) 25))
                  have bR : Bk ((v9.alloc (.cells (A4 (lb (0) 0) (lb (0) 1) (lb (0) 2) (lb (0) 3)) 25)).alloc (.cells (A4 (lb (0) 0) (lb (0) 1) (lb (0) 2) (lb (0) 3)) 25)) (v9.heap.size + 1) (A4 (lb (0) 0) (lb (0) 1) (lb (0) 2) (lb (0) 3)) 25 := Bk.new' _ _ _ (by simp)
                  obtain ⟨Q, hQ⟩ : ∃ z, z = v9.heap.size := ⟨_, rfl⟩
                  rw [← hQ] at bQ bR ⊢
                  clear hQ
                  clear hbv9 hsv9
                  clear fa0 faf0 fa1 faf1 fa2 faf2 fa3 faf3 fb0 fbf0 fb1 fbf1 fb2 fbf2 fb3 fbf3
                  generalize Q + 1 = R at bR ⊢
                  generalize World.alloc (World.alloc _ _) _ = w_v9 at *
                  go_wp2_with (first | (go_at_call 20; refine (num_any _ _).mono ?_; rintro e w9 ⟨rfl, rfl⟩))
                  go_roundw
                  case rel => exact ⟨i + 1, by omega, by omega, by go_num, hbo.trans ((hB).mono (by omega))⟩
                  case measure => simp [intOf]; omega
                · obtain ⟨q, hq⟩ : ∃ q, q = a / b2 := ⟨_, rfl⟩
                  obtain ⟨r, hr⟩ : ∃ r, r = a % b2 := ⟨_, rfl⟩
                  have hqr : q * b2 + r = a := by subst hq hr; rw [Nat.mul_comm]; exact Nat.div_add_mod a b2
                  have hrb : r < b2 := by subst hr; exact Nat.mod_lt _ (by omega)
                  obtain ⟨pq, hpq⟩ : ∃ pq, q * b2 = pq := ⟨_, rfl⟩
                  have hqa : q ≤ a := by subst hq; exact Nat.div_le_self _ _
                  have hdv := fun w => div_ok a b2 q r Ha.out Hb.out (by omega) hq.symm hr.symm w
                  have hmu := fun w => mul_ok q b2 pq (Nat.lt_of_le_of_lt hqa Ha.out) Hb.out hpq (by have := Ha.out; omega) w
                  have had := fun w => add_ok pq r a (by have := Ha.out; omega) (by have := Hb.out; omega) (by omega) Ha.out w
                  have hcm := fun w => cmp_less r b2 (by have := Hb.out; omega) Hb.out hrb w
                  clear hq hr hqr hpq hqa hrb h0
                  have he := fun w => same_neq a w
                  have fa0 := bA.cell 0
                  have faf0 := bA.frozen 0
                  have fa1 := bA.cell 1
                  have faf1 := bA.frozen 1
                  have fa2 := bA.cell 2
                  have faf2 := bA.frozen 2
                  have fa3 := bA.cell 3
                  have faf3 := bA.frozen 3
                  simp only [List.getElem?_toArray, List.getElem?_cons_zero, List.getElem?_cons_succ] at fa0 fa1 fa2 fa3
                  have fb0 := bB.cell 0
                  have fbf0 := bB.frozen 0
                  have fb1 := bB.cell 1
                  have fbf1 := bB.frozen 1
                  have fb2 := bB.cell 2
                  have fbf2 := bB.frozen 2
                  have fb3 := bB.cell 3
                  have fbf3 := bB.frozen 3
                  simp only [List.getElem?_toArray, List.getElem?_cons_zero, List.getElem?_cons_succ] at fb0 fb1 fb2 fb3
                  go_upto_region 21 with (first | (go_at_call 20; refine (num_any _ _).mono ?_; rintro e w9 ⟨rfl, rfl⟩) | (go_at_call 17; refine (hdv _).mono ?_; rintro e v9 ⟨rfl, hbv9⟩))
                  have bA := (((bA.below hbv9 bA.lt).alloc (.cells (A4 (lb (q) 0) (lb (q) 1) (lb (q) 2) (lb (q) 3)) 25)).alloc (.cells (A4 (lb (r) 0) (lb (r) 1) (lb (r) 2) (lb (r) 3)) 25))
                  have bB := (((bB.below hbv9 bB.lt).alloc (.cells (A4 (lb (q) 0) (lb (q) 1) (lb (q) 2) (lb (q) 3)) 25)).alloc (.cells (A4 (lb (r) 0) (lb (r) 1) (lb (r) 2) (lb (r) 3)) 25))
                  have bD := (((bD.below hbv9 bD.lt).alloc (.cells (A4 (lb (q) 0) (lb (q) 1) (lb (q) 2) (lb (q) 3)) 25)).alloc (.cells (A4 (lb (r) 0) (lb (r) 1) (lb (r) 2) (lb (r) 3)) 25))
                  have bS := (((bS.below hbv9 bS.lt).alloc (.cells (A4 (lb (q) 0) (lb (q) 1) (lb (q) 2) (lb (q) 3)) 25)).alloc (.cells (A4 (lb (r) 0) (lb (r) 1) (lb (r) 2) (lb (r) 3)) 25))
                  have bT := (((bT.below hbv9 bT.lt).alloc (.cells (A4 (lb (q) 0) (lb (q) 1) (lb (q) 2) (lb (q) 3)) 25)).alloc (.cells (A4 (lb (r) 0) (lb (r) 1) (lb (r) 2) (lb (r) 3)) 25))
                  have bK := (((bK.below hbv9 bK.lt).alloc (.cells (A4 (lb (q) 0) (lb (q) 1) (lb (q) 2) (lb (q) 3)) 25)).alloc (.cells (A4 (lb (r) 0) (lb (r) 1) (lb (r) 2) (lb (r) 3)) 25))
                  have bX := (((bX.below hbv9 bX.lt).alloc (.cells (A4 (lb (q) 0) (lb (q) 1) (lb (q) 2) (lb (q) 3)) 25)).alloc (.cells (A4 (lb (r) 0) (lb (r) 1) (lb (r) 2) (lb (r) 3)) 25))
                  have bY := (((bY.below hbv9 bY.lt).alloc (.cells (A4 (lb (q) 0) (lb (q) 1) (lb (q) 2) (lb (q) 3)) 25)).alloc (.cells (A4 (lb (r) 0) (lb (r) 1) (lb (r) 2) (lb (r) 3)) 25))
                  have bZ := (((bZ.below hbv9 bZ.lt).alloc (.cells (A4 (lb (q) 0) (lb (q) 1) (lb (q) 2) (lb (q) 3)) 25)).alloc (.cells (A4 (lb (r) 0) (lb (r) 1) (lb (r) 2) (lb (r) 3)) 25))
                  have bW := (((bW.below hbv9 bW.lt).alloc (.cells (A4 (lb (q) 0) (lb (q) 1) (lb (q) 2) (lb (q) 3)) 25)).alloc (.cells (A4 (lb (r) 0) (lb (r) 1) (lb (r) 2) (lb (r) 3)) 25))
                  have hsv9 := hbv9.size
                  have hB := (((hB.trans (hbv9.mono hB.size)).alloc (by first | (have := hB.size; omega) | (simp; have := hB.size; omega)) (.cells (A4 (lb (q) 0) (lb (q) 1) (lb (q) 2) (lb (q) 3)) 25)).alloc (by first | (have := hB.size; omega) | (simp; have := hB.size; omega)) (.cells (A4 (lb (r) 0) (lb (r) 1) (lb (r) 2) (lb (r) 3)) 25))
                  have bQ := ((Bk.new v9 (A4 (lb (q) 0) (lb (q) 1) (lb (q) 2) (lb (q) 3)) 25).alloc (.cells (A4 (lb (r) 0) (lb (r) 1) (lb (r) 2) (lb (r) 3)) 25))
                  have bR : Bk ((v9.alloc (.cells (A4 (lb (q) 0) (lb (q) 1) (lb (q) 2) (lb (q) 3)) 25)).alloc (.cells (A4 (lb (r) 0) (lb (r) 1) (lb (r) 2) (lb (r) 3)) 25)) (v9.heap.size + 1) (A4 (lb (r) 0) (lb (r) 1) (lb (r) 2) (lb (r) 3)) 25 := Bk.new' _ _ _ (by simp)
                  obtain ⟨Q, hQ⟩ : ∃ z, z = v9.heap.size := ⟨_, rfl⟩
                  rw [← hQ] at bQ bR ⊢
                  clear hQ
                  clear hbv9 hsv9
                  clear fa0 faf0 fa1 faf1 fa2 faf2 fa3 faf3 fb0 fbf0 fb1 fbf1 fb2 fbf2 fb3 fbf3
                  generalize Q + 1 = R at bR ⊢
                  generalize World.alloc (World.alloc _ _) _ = w_v9 at *
                  have fq0 := bQ.cell 0
                  have fqf0 := bQ.frozen 0
                  have fq1 := bQ.cell 1
                  have fqf1 := bQ.frozen 1
                  have fq2 := bQ.cell 2
                  have fqf2 := bQ.frozen 2
                  have fq3 := bQ.cell 3
                  have fqf3 := bQ.frozen 3
                  simp only [List.getElem?_toArray, List.getElem?_cons_zero, List.getElem?_cons_succ] at fq0 fq1 fq2 fq3
                  have fb0 := bB.cell 0
                  have fbf0 := bB.frozen 0
                  have fb1 := bB.cell 1
                  have fbf1 := bB.frozen 1
                  have fb2 := bB.cell 2
                  have fbf2 := bB.frozen 2
                  have fb3 := bB.cell 3
                  have fbf3 := bB.frozen 3
                  simp only [List.getElem?_toArray, List.getElem?_cons_zero, List.getElem?_cons_succ] at fb0 fb1 fb2 fb3
                  go_upto_region 23 with (first | (go_at_call 20; refine (num_any _ _).mono ?_; rintro e w9 ⟨rfl, rfl⟩) | (go_at_call 22; refine (hmu _).mono ?_; rintro e v10 ⟨rfl, hbv10⟩))
                  have bA := ((bA.below hbv10 bA.lt).alloc (.cells (A4 (lb (pq) 0) (lb (pq) 1) (lb (pq) 2) (lb (pq) 3)) 25))
                  have bB := ((bB.below hbv10 bB.lt).alloc (.cells (A4 (lb (pq) 0) (lb (pq) 1) (lb (pq) 2) (lb (pq) 3)) 25))
                  have bD := ((bD.below hbv10 bD.lt).alloc (.cells (A4 (lb (pq) 0) (lb (pq) 1) (lb (pq) 2) (lb (pq) 3)) 25))
                  have bS := ((bS.below hbv10 bS.lt).alloc (.cells (A4 (lb (pq) 0) (lb (pq) 1) (lb (pq) 2) (lb (pq) 3)) 25))
                  have bT := ((bT.below hbv10 bT.lt).alloc (.cells (A4 (lb (pq) 0) (lb (pq) 1) (lb (pq) 2) (lb (pq) 3)) 25))
                  have bK := ((bK.below hbv10 bK.lt).alloc (.cells (A4 (lb (pq) 0) (lb (pq) 1) (lb (pq) 2) (lb (pq) 3)) 25))
                  have bX := ((bX.below hbv10 bX.lt).alloc (.cells (A4 (lb (pq) 0) (lb (pq) 1) (lb (pq) 2) (lb (pq) 3)) 25))
                  have bY := ((bY.below hbv10 bY.lt).alloc (.cells (A4 (lb (pq) 0) (lb (pq) 1) (lb (pq) 2) (lb (pq) 3)) 25))
                  have bZ := ((bZ.below hbv10 bZ.lt).alloc (.cells (A4 (lb (pq) 0) (lb (pq) 1) (lb (pq) 2) (lb (pq) 3)) 25))
                  have bW := ((bW.below hbv10 bW.lt).alloc (.cells (A4 (lb (pq) 0) (lb (pq) 1) (lb (pq) 2) (lb (pq) 3)) 25))
                  have bQ := ((bQ.below hbv10 bQ.lt).alloc (.cells (A4 (lb (pq) 0) (lb (pq) 1) (lb (pq) 2) (lb (pq) 3)) 25))
                  have bR := ((bR.below hbv10 bR.lt).alloc (.cells (A4 (lb (pq) 0) (lb (pq) 1) (lb (pq) 2) (lb (pq) 3)) 25))
                  have hsv10 := hbv10.size
                  have hB := ((hB.trans (hbv10.mono hB.size)).alloc (by first | (have := hB.size; omega) | (simp; have := hB.size; omega)) (.cells (A4 (lb (pq) 0) (lb (pq) 1) (lb (pq) 2) (lb (pq) 3)) 25))
                  have bP := (Bk.new v10 (A4 (lb (pq) 0) (lb (pq) 1) (lb (pq) 2) (lb (pq) 3)) 25)
                  obtain ⟨P, hP⟩ : ∃ z, z = v10.heap.size := ⟨_, rfl⟩
                  rw [← hP] at bP ⊢
                  clear hP
                  clear hbv10 hsv10
                  clear fq0 fqf0 fq1 fqf1 fq2 fqf2 fq3 fqf3 fb0 fbf0 fb1 fbf1 fb2 fbf2 fb3 fbf3
                  generalize World.alloc _ _ = w_v10 at *
                  have fp0 := bP.cell 0
                  have fpf0 := bP.frozen 0
                  have fp1 := bP.cell 1
                  have fpf1 := bP.frozen 1
                  have fp2 := bP.cell 2
                  have fpf2 := bP.frozen 2
                  have fp3 := bP.cell 3
                  have fpf3 := bP.frozen 3
                  simp only [List.getElem?_toArray, List.getElem?_cons_zero, List.getElem?_cons_succ] at fp0 fp1 fp2 fp3
                  have fr0 := bR.cell 0
                  have frf0 := bR.frozen 0
                  have fr1 := bR.cell 1
                  have frf1 := bR.frozen 1
                  have fr2 := bR.cell 2
                  have frf2 := bR.frozen 2
                  have fr3 := bR.cell 3
                  have frf3 := bR.frozen 3
                  simp only [List.getElem?_toArray, List.getElem?_cons_zero, List.getElem?_cons_succ] at fr0 fr1 fr2 fr3
                  go_upto_region 24 with (first | (go_at_call 20; refine (num_any _ _).mono ?_; rintro e w9 ⟨rfl, rfl⟩) | (go_at_call 18; refine (had _).mono ?_; rintro e v11 ⟨rfl, hbv11⟩))
                  have bA := ((bA.below hbv11 bA.lt).alloc (.cells (A4 (lb (a) 0) (lb (a) 1) (lb (a) 2) (lb (a) 3)) 25))
                  have bB := ((bB.below hbv11 bB.lt).alloc (.cells (A4 (lb (a) 0) (lb (a) 1) (lb (a) 2) (lb (a) 3)) 25))
                  have bD := ((bD.below hbv11 bD.lt).alloc (.cells (A4 (lb (a) 0) (lb (a) 1) (lb (a) 2) (lb (a) 3)) 25))
                  have bS := ((bS.below hbv11 bS.lt).alloc (.cells (A4 (lb (a) 0) (lb (a) 1) (lb (a) 2) (lb (a) 3)) 25))
                  have bT := ((bT.below hbv11 bT.lt).alloc (.cells (A4 (lb (a) 0) (lb (a) 1) (lb (a) 2) (lb (a) 3)) 25))
                  have bK := ((bK.below hbv11 bK.lt).alloc (.cells (A4 (lb (a) 0) (lb (a) 1) (lb (a) 2) (lb (a) 3)) 25))
                  have bX := ((bX.below hbv11 bX.lt).alloc (.cells (A4 (lb (a) 0) (lb (a) 1) (lb (a) 2) (lb (a) 3)) 25))
                  have bY := ((bY.below hbv11 bY.lt).alloc (.cells (A4 (lb (a) 0) (lb (a) 1) (lb (a) 2) (lb (a) 3)) 25))
                  have bZ := ((bZ.below hbv11 bZ.lt).alloc (.cells (A4 (lb (a) 0) (lb (a) 1) (lb (a) 2) (lb (a) 3)) 25))
                  have bW := ((bW.below hbv11 bW.lt).alloc (.cells (A4 (lb (a) 0) (lb (a) 1) (lb (a) 2) (lb (a) 3)) 25))
                  have bQ := ((bQ.below hbv11 bQ.lt).alloc (.cells (A4 (lb (a) 0) (lb (a) 1) (lb (a) 2) (lb (a) 3)) 25))
                  have bR := ((bR.below hbv11 bR.lt).alloc (.cells (A4 (lb (a) 0) (lb (a) 1) (lb (a) 2) (lb (a) 3)) 25))
                  have bP := ((bP.below hbv11 bP.lt).alloc (.cells (A4 (lb (a) 0) (lb (a) 1) (lb (a) 2) (lb (a) 3)) 25))
                  have hsv11 := hbv11.size
                  have hB := ((hB.trans (hbv11.mono hB.size)).alloc (by first | (have := hB.size; omega) | (simp; have := hB.size; omega)) (.cells (A4 (lb (a) 0) (lb (a) 1) (lb (a) 2) (lb (a) 3)) 25))
                  have bX := (Bk.new v11 (A4 (lb (a) 0) (lb (a) 1) (lb (a) 2) (lb (a) 3)) 25)
                  obtain ⟨X, hX⟩ : ∃ z, z = v11.heap.size := ⟨_, rfl⟩
                  rw [← hX] at bX ⊢
                  clear hX
                  clear hbv11 hsv11
                  clear fp0 fpf0 fp1 fpf1 fp2 fpf2 fp3 fpf3 fr0 frf0 fr1 frf1 fr2 frf2 fr3 frf3
                  generalize World.alloc _ _ = w_v11 at *
                  have fx0 := bX.cell 0
                  have fxf0 := bX.frozen 0
                  have fx1 := bX.cell 1
                  have fxf1 := bX.frozen 1
                  have fx2 := bX.cell 2
                  have fxf2 := bX.frozen 2
                  have fx3 := bX.cell 3
                  have fxf3 := bX.frozen 3
                  simp only [List.getElem?_toArray, List.getElem?_cons_zero, List.getElem?_cons_succ] at fx0 fx1 fx2 fx3
                  have fa0 := bA.cell 0
                  have faf0 := bA.frozen 0
                  have fa1 := bA.cell 1
                  have faf1 := bA.frozen 1
                  have fa2 := bA.cell 2
                  have faf2 := bA.frozen 2
                  have fa3 := bA.cell 3
                  have faf3 := bA.frozen 3
                  simp only [List.getElem?_toArray, List.getElem?_cons_zero, List.getElem?_cons_succ] at fa0 fa1 fa2 fa3
                  have fr0 := bR.cell 0
                  have frf0 := bR.frozen 0
                  have fr1 := bR.cell 1
                  have frf1 := bR.frozen 1
                  have fr2 := bR.cell 2
                  have frf2 := bR.frozen 2
                  have fr3 := bR.cell 3
                  have frf3 := bR.frozen 3
                  simp only [List.getElem?_toArray, List.getElem?_cons_zero, List.getElem?_cons_succ] at fr0 fr1 fr2 fr3
                  have fb0 := bB.cell 0
                  have fbf0 := bB.frozen 0
                  have fb1 := bB.cell 1
                  have fbf1 := bB.frozen 1
                  have fb2 := bB.cell 2
                  have fbf2 := bB.frozen 2
                  have fb3 := bB.cell 3
                  have fbf3 := bB.frozen 3
                  simp only [List.getElem?_toArray, List.getElem?_cons_zero, List.getElem?_cons_succ] at fb0 fb1 fb2 fb3
                  go_wp2_with (first | (go_at_call 20; refine (num_any _ _).mono ?_; rintro e w9 ⟨rfl, rfl⟩) | (go_at_call 19; refine (hcm _).mono ?_; rintro e v12 ⟨rfl, hbv12⟩))
                  go_roundw
                  case rel => exact ⟨i + 1, by omega, by omega, by go_num, hbo.trans ((hB.trans (hbv12.mono hB.size)).mono (by omega))⟩
                  case measure => simp [intOf]; omega
              · have h1 := fun w => mul_over s d Hs.out Hd.out hm w
                have h2 := fun w => mul a d Ha.out Hd.out w
                have h3 := fun w => mul b2 d Hb.out Hd.out w
                clear hm
                have fs0 := bS.cell 0
                have fsf0 := bS.frozen 0
                have fs1 := bS.cell 1
                have fsf1 := bS.frozen 1
                have fs2 := bS.cell 2
                have fsf2 := bS.frozen 2
                have fs3 := bS.cell 3
                have fsf3 := bS.frozen 3
                simp only [List.getElem?_toArray, List.getElem?_cons_zero, List.getElem?_cons_succ] at fs0 fs1 fs2 fs3
                have fd0 := bD.cell 0
                have fdf0 := bD.frozen 0
                have fd1 := bD.cell 1
                have fdf1 := bD.frozen 1
                have fd2 := bD.cell 2
                have fdf2 := bD.frozen 2
                have fd3 := bD.cell 3
                have fdf3 := bD.frozen 3
                simp only [List.getElem?_toArray, List.getElem?_cons_zero, List.getElem?_cons_succ] at fd0 fd1 fd2 fd3
                go_upto_region 14 with (first | (go_at_call 20; refine (num_any _ _).mono ?_; rintro e w9 ⟨rfl, rfl⟩) | (go_at_call 22; refine (h1 _).mono ?_; rintro e v5 ⟨rfl, hbv5⟩))
                have bA := ((bA.below hbv5 bA.lt).alloc (.cells (A4 (lb (0) 0) (lb (0) 1) (lb (0) 2) (lb (0) 3)) 25))
                have bB := ((bB.below hbv5 bB.lt).alloc (.cells (A4 (lb (0) 0) (lb (0) 1) (lb (0) 2) (lb (0) 3)) 25))
                have bD := ((bD.below hbv5 bD.lt).alloc (.cells (A4 (lb (0) 0) (lb (0) 1) (lb (0) 2) (lb (0) 3)) 25))
                have bS := ((bS.below hbv5 bS.lt).alloc (.cells (A4 (lb (0) 0) (lb (0) 1) (lb (0) 2) (lb (0) 3)) 25))
                have bT := ((bT.below hbv5 bT.lt).alloc (.cells (A4 (lb (0) 0) (lb (0) 1) (lb (0) 2) (lb (0) 3)) 25))
                have bK := ((bK.below hbv5 bK.lt).alloc (.cells (A4 (lb (0) 0) (lb (0) 1) (lb (0) 2) (lb (0) 3)) 25))
                have hsv5 := hbv5.size
                have hB := ((hB.trans (hbv5.mono hB.size)).alloc (by first | (have := hB.size; omega) | (simp; have := hB.size; omega)) (.cells (A4 (lb (0) 0) (lb (0) 1) (lb (0) 2) (lb (0) 3)) 25))
                have bX := (Bk.new v5 (A4 (lb (0) 0) (lb (0) 1) (lb (0) 2) (lb (0) 3)) 25)
                obtain ⟨X, hX⟩ : ∃ z, z = v5.heap.size := ⟨_, rfl⟩
                rw [← hX] at bX ⊢
                clear hX
                clear hbv5 hsv5
                clear fs0 fsf0 fs1 fsf1 fs2 fsf2 fs3 fsf3 fd0 fdf0 fd1 fdf1 fd2 fdf2 fd3 fdf3
                generalize World.alloc _ _ = w_v5 at *
                have fa0 := bA.cell 0
                have faf0 := bA.frozen 0
                have fa1 := bA.cell 1
                have faf1 := bA.frozen 1
                have fa2 := bA.cell 2
                have faf2 := bA.frozen 2
                have fa3 := bA.cell 3
                have faf3 := bA.frozen 3
                simp only [List.getElem?_toArray, List.getElem?_cons_zero, List.getElem?_cons_succ] at fa0 fa1 fa2 fa3
                have fd0 := bD.cell 0
                have fdf0 := bD.frozen 0
                have fd1 := bD.cell 1
                have fdf1 := bD.frozen 1
                have fd2 := bD.cell 2
                have fdf2 := bD.frozen 2
                have fd3 := bD.cell 3
                have fdf3 := bD.frozen 3
                simp only [List.getElem?_toArray, List.getElem?_cons_zero, List.getElem?_cons_succ] at fd0 fd1 fd2 fd3
                go_upto_region 15 with (first | (go_at_call 20; refine (num_any _ _).mono ?_; rintro e w9 ⟨rfl, rfl⟩) | (go_at_call 22; refine (h2 _).mono ?_; rintro e v6 ⟨rfl, hbv6⟩))
                have bA := ((bA.below hbv6 bA.lt).alloc (.cells (A4 (lb (mulV a d) 0) (lb (mulV a d) 1) (lb (mulV a d) 2) (lb (mulV a d) 3)) 25))
                have bB := ((bB.below hbv6 bB.lt).alloc (.cells (A4 (lb (mulV a d) 0) (lb (mulV a d) 1) (lb (mulV a d) 2) (lb (mulV a d) 3)) 25))
                have bD := ((bD.below hbv6 bD.lt).alloc (.cells (A4 (lb (mulV a d) 0) (lb (mulV a d) 1) (lb (mulV a d) 2) (lb (mulV a d) 3)) 25))
                have bS := ((bS.below hbv6 bS.lt).alloc (.cells (A4 (lb (mulV a d) 0) (lb (mulV a d) 1) (lb (mulV a d) 2) (lb (mulV a d) 3)) 25))
                have bT := ((bT.below hbv6 bT.lt).alloc (.cells (A4 (lb (mulV a d) 0) (lb (mulV a d) 1) (lb (mulV a d) 2) (lb (mulV a d) 3)) 25))
                have bK := ((bK.below hbv6 bK.lt).alloc (.cells (A4 (lb (mulV a d) 0) (lb (mulV a d) 1) (lb (mulV a d) 2) (lb (mulV a d) 3)) 25))
                have bX := ((bX.below hbv6 bX.lt).alloc (.cells (A4 (lb (mulV a d) 0) (lb (mulV a d) 1) (lb (mulV a d) 2) (lb (mulV a d) 3)) 25))
                have hsv6 := hbv6.size
                have hB := ((hB.trans (hbv6.mono hB.size)).alloc (by first | (have := hB.size; omega) | (simp; have := hB.size; omega)) (.cells (A4 (lb (mulV a d) 0) (lb (mulV a d) 1) (lb (mulV a d) 2) (lb (mulV a d) 3)) 25))
                have bY := (Bk.new v6 (A4 (lb (mulV a d) 0) (lb (mulV a d) 1) (lb (mulV a d) 2) (lb (mulV a d) 3)) 25)
                obtain ⟨Y, hY⟩ : ∃ z, z = v6.heap.size := ⟨_, rfl⟩
                rw [← hY] at bY ⊢
                clear hY
                clear hbv6 hsv6
                clear fa0 faf0 fa1 faf1 fa2 faf2 fa3 faf3 fd0 fdf0 fd1 fdf1 fd2 fdf2 fd3 fdf3
                generalize World.alloc _ _ = w_v6 at *
                have fb0 := bB.cell 0
                have fbf0 := bB.frozen 0
                have fb1 := bB.cell 1
                have fbf1 := bB.frozen 1
                have fb2 := bB.cell 2
                have fbf2 := bB.frozen 2
                have fb3 := bB.cell 3
                have fbf3 := bB.frozen 3
                simp only [List.getElem?_toArray, List.getElem?_cons_zero, List.getElem?_cons_succ] at fb0 fb1 fb2 fb3
                have fd0 := bD.cell 0
                have fdf0 := bD.frozen 0
                have fd1 := bD.cell 1
                have fdf1 := bD.frozen 1
                have fd2 := bD.cell 2
                have fdf2 := bD.frozen 2
                have fd3 := bD.cell 3
                have fdf3 := bD.frozen 3
                simp only [List.getElem?_toArray, List.getElem?_cons_zero, List.getElem?_cons_succ] at fd0 fd1 fd2 fd3
                go_upto_region 16 with (first | (go_at_call 20; refine (num_any _ _).mono ?_; rintro e w9 ⟨rfl, rfl⟩) | (go_at_call 22; refine (h3 _).mono ?_; rintro e v7 ⟨rfl, hbv7⟩))
                have bA := ((bA.below hbv7 bA.lt).alloc (.cells (A4 (lb (mulV b2 d) 0) (lb (mulV b2 d) 1) (lb (mulV b2 d) 2) (lb (mulV b2 d) 3)) 25))
                have bB := ((bB.below hbv7 bB.lt).alloc (.cells (A4 (lb (mulV b2 d) 0) (lb (mulV b2 d) 1) (lb (mulV b2 d) 2) (lb (mulV b2 d) 3)) 25))
                have bD := ((bD.below hbv7 bD.lt).alloc (.cells (A4 (lb (mulV b2 d) 0) (lb (mulV b2 d) 1) (lb (mulV b2 d) 2) (lb (mulV b2 d) 3)) 25))
                have bS := ((bS.below hbv7 bS.lt).alloc (.cells (A4 (lb (mulV b2 d) 0) (lb (mulV b2 d) 1) (lb (mulV b2 d) 2) (lb (mulV b2 d) 3)) 25))
                have bT := ((bT.below hbv7 bT.lt).alloc (.cells (A4 (lb (mulV b2 d) 0) (lb (mulV b2 d) 1) (lb (mulV b2 d) 2) (lb (mulV b2 d) 3)) 25))
                have bK := ((bK.below hbv7 bK.lt).alloc (.cells (A4 (lb (mulV b2 d) 0) (lb (mulV b2 d) 1) (lb (mulV b2 d) 2) (lb (mulV b2 d) 3)) 25))
                have bX := ((bX.below hbv7 bX.lt).alloc (.cells (A4 (lb (mulV b2 d) 0) (lb (mulV b2 d) 1) (lb (mulV b2 d) 2) (lb (mulV b2 d) 3)) 25))
                have bY := ((bY.below hbv7 bY.lt).alloc (.cells (A4 (lb (mulV b2 d) 0) (lb (mulV b2 d) 1) (lb (mulV b2 d) 2) (lb (mulV b2 d) 3)) 25))
                have hsv7 := hbv7.size
                have hB := ((hB.trans (hbv7.mono hB.size)).alloc (by first | (have := hB.size; omega) | (simp; have := hB.size; omega)) (.cells (A4 (lb (mulV b2 d) 0) (lb (mulV b2 d) 1) (lb (mulV b2 d) 2) (lb (mulV b2 d) 3)) 25))
                have bZ := (Bk.new v7 (A4 (lb (mulV b2 d) 0) (lb (mulV b2 d) 1) (lb (mulV b2 d) 2) (lb (mulV b2 d) 3)) 25)
                obtain ⟨Z, hZ⟩ : ∃ z, z = v7.heap.size := ⟨_, rfl⟩
                rw [← hZ] at bZ ⊢
                clear hZ
                clear hbv7 hsv7
                clear fb0 fbf0 fb1 fbf1 fb2 fbf2 fb3 fbf3 fd0 fdf0 fd1 fdf1 fd2 fdf2 fd3 fdf3
                generalize World.alloc _ _ = w_v7 at *
                go_upto_region 20 with (go_at_call 20; refine (num_any _ _).mono ?_; rintro e w9 ⟨rfl, rfl⟩)
                clear h1 h2 h3
                by_cases h0 : b2 = 0
                · have hdv := fun w => div_none a b2 Ha.out h0 w
                  clear h0
                  have fa0 := bA.cell 0
                  have faf0 := bA.frozen 0
                  have fa1 := bA.cell 1
                  have faf1 := bA.frozen 1
                  have fa2 := bA.cell 2
                  have faf2 := bA.frozen 2
                  have fa3 := bA.cell 3
                  have faf3 := bA.frozen 3
                  simp only [List.getElem?_toArray, List.getElem?_cons_zero, List.getElem?_cons_succ] at fa0 fa1 fa2 fa3
                  have fb0 := bB.cell 0
                  have fbf0 := bB.frozen 0
                  have fb1 := bB.cell 1
                  have fbf1 := bB.frozen 1
                  have fb2 := bB.cell 2
                  have fbf2 := bB.frozen 2
                  have fb3 := bB.cell 3
                  have fbf3 := bB.frozen 3
                  simp only [List.getElem?_toArray, List.getElem?_cons_zero, List.getElem?_cons_succ] at fb0 fb1 fb2 fb3
                  go_upto_region 21 with (first | (go_at_call 20; refine (num_any _ _).mono ?_; rintro e w9 ⟨rfl, rfl⟩) | (go_at_call 17; refine (hdv _).mono ?_; rintro e v8 ⟨rfl, hbv8⟩))
                  have bA := (((bA.below hbv8 bA.lt).alloc (.cells (A4 (lb (0) 0) (lb (0) 1) (lb (0) 2) (lb (0) 3)) 25)).alloc (.cells (A4 (lb (0) 0) (lb (0) 1) (lb (0) 2) (lb (0) 3)) 25))
                  have bB := (((bB.below hbv8 bB.lt).alloc (.cells (A4 (lb (0) 0) (lb (0) 1) (lb (0) 2) (lb (0) 3)) 25)).alloc (.cells (A4 (lb (0) 0) (lb (0) 1) (lb (0) 2) (lb (0) 3)) 25))
                  have bD := (((bD.below hbv8 bD.lt).alloc (.cells (A4 (lb (0) 0) (lb (0) 1) (lb (0) 2) (lb (0) 3)) 25)).alloc (.cells (A4 (lb (0) 0) (lb (0) 1) (lb (0) 2) (lb (0) 3)) 25))
                  have bS := (((bS.below hbv8 bS.lt).alloc (.cells (A4 (lb (0) 0) (lb (0) 1) (lb (0) 2) (lb (0) 3)) 25)).alloc (.cells (A4 (lb (0) 0) (lb (0) 1) (lb (0) 2) (lb (0) 3)) 25))
                  have bT := (((bT.below hbv8 bT.lt).alloc (.cells (A4 (lb (0) 0) (lb (0) 1) (lb (0) 2) (lb (0) 3)) 25)).alloc (.cells (A4 (lb (0) 0) (lb (0) 1) (lb (0) 2) (lb (0) 3)) 25))
                  have bK := (((bK.below hbv8 bK.lt).alloc (.cells (A4 (lb (0) 0) (lb (0) 1) (lb (0) 2) (lb (0) 3)) 25)).alloc (.cells (A4 (lb (0) 0) (lb (0) 1) (lb (0) 2) (lb (0) 3)) 25))
                  have bX := (((bX.below hbv8 bX.lt).alloc (.cells (A4 (lb (0) 0) (lb (0) 1) (lb (0) 2) (lb (0) 3)) 25)).alloc (.cells (A4 (lb (0) 0) (lb (0) 1) (lb (0) 2) (lb (0) 3)) 25))
                  have bY := (((bY.below hbv8 bY.lt).alloc (.cells (A4 (lb (0) 0) (lb (0) 1) (lb (0) 2) (lb (0) 3)) 25)).alloc (.cells (A4 (lb (0) 0) (lb (0) 1) (lb (0) 2) (lb (0) 3)) 25))
                  have bZ := (((bZ.below hbv8 bZ.lt).alloc (.cells (A4 (lb (0) 0) (lb (0) 1) (lb (0) 2) (lb (0) 3)) 25)).alloc (.cells (A4 (lb (0) 0) (lb (0) 1) (lb (0) 2) (lb (0) 3)) 25))
                  have hsv8 := hbv8.size
                  have hB := (((hB.trans (hbv8.mono hB.size)).alloc (by first | (have := hB.size; omega) | (simp; have := hB.size; omega)) (.cells (A4 (lb (0) 0) (lb (0) 1) (lb (0) 2) (lb (0) 3)) 25)).alloc (by first | (have := hB.size; omega) | (simp; have := hB.size; omega)) (.cells (A4 (lb (0) 0) (lb (0) 1) (lb (0) 2) (lb (0) 3)) 25))
                  have bQ := ((Bk.new v8 (A4 (lb (0) 0) (lb (0) 1) (lb (0) 2) (lb (0) 3)) 25).alloc (.cells (A4 (lb (0) 0) (lb (0) 1) (lb (0) 2) (lb (0) 3)) 25))
                  have bR : Bk ((v8.alloc (.cells (A4 (lb (0) 0) (lb (0) 1) (lb (0) 2) (lb (0) 3)) 25)).alloc (.cells (A4 (lb (0) 0) (lb (0) 1) (lb (0) 2) (lb (0) 3)) 25)) (v8.heap.size + 1) (A4 (lb (0) 0) (lb (0) 1) (lb (0) 2) (lb (0) 3)) 25 := Bk.new' _ _ _ (by simp)
                  obtain ⟨Q, hQ⟩ : ∃ z, z = v8.heap.size := ⟨_, rfl⟩
                  rw [← hQ] at bQ bR ⊢
                  clear hQ
                  clear hbv8 hsv8
                  clear fa0 faf0 fa1 faf1 fa2 faf2 fa3 faf3 fb0 fbf0 fb1 fbf1 fb2 fbf2 fb3 fbf3
                  generalize Q + 1 = R at bR ⊢
                  generalize World.alloc (World.alloc _ _) _ = w_v8 at *
                  go_wp2_with (first | (go_at_call 20; refine (num_any _ _).mono ?_; rintro e w9 ⟨rfl, rfl⟩))
                  go_roundw
                  case rel => exact ⟨i + 1, by omega, by omega, by go_num, hbo.trans ((hB).mono (by omega))⟩
                  case measure => simp [intOf]; omega
                · obtain ⟨q, hq⟩ : ∃ q, q = a / b2 := ⟨_, rfl⟩
                  obtain ⟨r, hr⟩ : ∃ r, r = a % b2 := ⟨_, rfl⟩
                  have hqr : q * b2 + r = a := by subst hq hr; rw [Nat.mul_comm]; exact Nat.div_add_mod a b2
                  have hrb : r < b2 := by subst hr; exact Nat.mod_lt _ (by omega)
                  obtain ⟨pq, hpq⟩ : ∃ pq, q * b2 = pq := ⟨_, rfl⟩
                  have hqa : q ≤ a := by subst hq; exact Nat.div_le_self _ _
                  have hdv := fun w => div_ok a b2 q r Ha.out Hb.out (by omega) hq.symm hr.symm w
                  have hmu := fun w => mul_ok q b2 pq (Nat.lt_of_le_of_lt hqa Ha.out) Hb.out hpq (by have := Ha.out; omega) w
                  have had := fun w => add_ok pq r a (by have := Ha.out; omega) (by have := Hb.out; omega) (by omega) Ha.out w
                  have hcm := fun w => cmp_less r b2 (by have := Hb.out; omega) Hb.out hrb w
                  clear hq hr hqr hpq hqa hrb h0
                  have he := fun w => same_neq a w
                  have fa0 := bA.cell 0
                  have faf0 := bA.frozen 0
                  have fa1 := bA.cell 1
                  have faf1 := bA.frozen 1
                  have fa2 := bA.cell 2
                  have faf2 := bA.frozen 2
                  have fa3 := bA.cell 3
                  have faf3 := bA.frozen 3
                  simp only [List.getElem?_toArray, List.getElem?_cons_zero, List.getElem?_cons_succ] at fa0 fa1 fa2 fa3
                  have fb0 := bB.cell 0
                  have fbf0 := bB.frozen 0
                  have fb1 := bB.cell 1
                  have fbf1 := bB.frozen 1
                  have fb2 := bB.cell 2
                  have fbf2 := bB.frozen 2
                  have fb3 := bB.cell 3
                  have fbf3 := bB.frozen 3
                  simp only [List.getElem?_toArray, List.getElem?_cons_zero, List.getElem?_cons_succ] at fb0 fb1 fb2 fb3
                  go_upto_region 21 with (first | (go_at_call 20; refine (num_any _ _).mono ?_; rintro e w9 ⟨rfl, rfl⟩) | (go_at_call 17; refine (hdv _).mono ?_; rintro e v8 ⟨rfl, hbv8⟩))
                  have bA := (((bA.below hbv8 bA.lt).alloc (.cells (A4 (lb (q) 0) (lb (q) 1) (lb (q) 2) (lb (q) 3)) 25)).alloc (.cells (A4 (lb (r) 0) (lb (r) 1) (lb (r) 2) (lb (r) 3)) 25))
                  have bB := (((bB.below hbv8 bB.lt).alloc (.cells (A4 (lb (q) 0) (lb (q) 1) (lb (q) 2) (lb (q) 3)) 25)).alloc (.cells (A4 (lb (r) 0) (lb (r) 1) (lb (r) 2) (lb (r) 3)) 25))
                  have bD := (((bD.below hbv8 bD.lt).alloc (.cells (A4 (lb (q) 0) (lb (q) 1) (lb (q) 2) (lb (q) 3)) 25)).alloc (.cells (A4 (lb (r) 0) (lb (r) 1) (lb (r) 2) (lb (r) 3)) 25))
                  have bS := (((bS.below hbv8 bS.lt).alloc (.cells (A4 (lb (q) 0) (lb (q) 1) (lb (q) 2) (lb (q) 3)) 25)).alloc (.cells (A4 (lb (r) 0) (lb (r) 1) (lb (r) 2) (lb (r) 3)) 25))
                  have bT := (((bT.below hbv8 bT.lt).alloc (.cells (A4 (lb (q) 0) (lb (q) 1) (lb (q) 2) (lb (q) 3)) 25)).alloc (.cells (A4 (lb (r) 0) (lb (r) 1) (lb (r) 2) (lb (r) 3)) 25))
                  have bK := (((bK.below hbv8 bK.lt).alloc (.cells (A4 (lb (q) 0) (lb (q) 1) (lb (q) 2) (lb (q) 3)) 25)).alloc (.cells (A4 (lb (r) 0) (lb (r) 1) (lb (r) 2) (lb (r) 3)) 25))
                  have bX := (((bX.below hbv8 bX.lt).alloc (.cells (A4 (lb (q) 0) (lb (q) 1) (lb (q) 2) (lb (q) 3)) 25)).alloc (.cells (A4 (lb (r) 0) (lb (r) 1) (lb (r) 2) (lb (r) 3)) 25))
                  have bY := (((bY.below hbv8 bY.lt).alloc (.cells (A4 (lb (q) 0) (lb (q) 1) (lb (q) 2) (lb (q) 3)) 25)).alloc (.cells (A4 (lb (r) 0) (lb (r) 1) (lb (r) 2) (lb (r) 3)) 25))
                  have bZ := (((bZ.below hbv8 bZ.lt).alloc (.cells (A4 (lb (q) 0) (lb (q) 1) (lb (q) 2) (lb (q) 3)) 25)).alloc (.cells (A4 (lb (r) 0) (lb (r) 1) (lb (r) 2) (lb (r) 3)) 25))
                  have hsv8 := hbv8.size
                  have hB := (((hB.trans (hbv8.mono hB.size)).alloc (by first | (have := hB.size; omega) | (simp; have := hB.size; omega)) (.cells (A4 (lb (q) 0) (lb (q) 1) (lb (q) 2) (lb (q) 3)) 25)).alloc (by first | (have := hB.size; omega) | (simp; have := hB.size; omega)) (.cells (A4 (lb (r) 0) (lb (r) 1) (lb (r) 2) (lb (r) 3)) 25))
                  have bQ := ((Bk.new v8 (A4 (lb (q) 0) (lb (q) 1) (lb (q) 2) (lb (q) 3)) 25).alloc (.cells (A4 (lb (r) 0) (lb (r) 1) (lb (r) 2) (lb (r) 3)) 25))
                  have bR : Bk ((v8.alloc (.cells (A4 (lb (q) 0) (lb (q) 1) (lb (q) 2) (lb (q) 3)) 25)).alloc (.cells (A4 (lb (r) 0) (lb (r) 1) (lb (r) 2) (lb (r) 3)) 25)) (v8.heap.size + 1) (A4 (lb (r) 0) (lb (r) 1) (lb (r) 2) (lb (r) 3)) 25 := Bk.new' _ _ _ (by simp)
                  obtain ⟨Q, hQ⟩ : ∃ z, z = v8.heap.size := ⟨_, rfl⟩
                  rw [← hQ] at bQ bR ⊢
                  clear hQ
                  clear hbv8 hsv8
                  clear fa0 faf0 fa1 faf1 fa2 faf2 fa3 faf3 fb0 fbf0 fb1 fbf1 fb2 fbf2 fb3 fbf3
                  generalize Q + 1 = R at bR ⊢
                  generalize World.alloc (World.alloc _ _) _ = w_v8 at *
                  have fq0 := bQ.cell 0
                  have fqf0 := bQ.frozen 0
                  have fq1 := bQ.cell 1
                  have fqf1 := bQ.frozen 1
                  have fq2 := bQ.cell 2
                  have fqf2 := bQ.frozen 2
                  have fq3 := bQ.cell 3
                  have fqf3 := bQ.frozen 3
                  simp only [List.getElem?_toArray, List.getElem?_cons_zero, List.getElem?_cons_succ] at fq0 fq1 fq2 fq3
                  have fb0 := bB.cell 0
                  have fbf0 := bB.frozen 0
                  have fb1 := bB.cell 1
                  have fbf1 := bB.frozen 1
                  have fb2 := bB.cell 2
                  have fbf2 := bB.frozen 2
                  have fb3 := bB.cell 3
                  have fbf3 := bB.frozen 3
                  simp only [List.getElem?_toArray, List.getElem?_cons_zero, List.getElem?_cons_succ] at fb0 fb1 fb2 fb3
                  go_upto_region 23 with (first | (go_at_call 20; refine (num_any _ _).mono ?_; rintro e w9 ⟨rfl, rfl⟩) | (go_at_call 22; refine (hmu _).mono ?_; rintro e v9 ⟨rfl, hbv9⟩))
                  have bA := ((bA.below hbv9 bA.lt).alloc (.cells (A4 (lb (pq) 0) (lb (pq) 1) (lb (pq) 2) (lb (pq) 3)) 25))
                  have bB := ((bB.below hbv9 bB.lt).alloc (.cells (A4 (lb (pq) 0) (lb (pq) 1) (lb (pq) 2) (lb (pq) 3)) 25))
                  have bD := ((bD.below hbv9 bD.lt).alloc (.cells (A4 (lb (pq) 0) (lb (pq) 1) (lb (pq) 2) (lb (pq) 3)) 25))
                  have bS := ((bS.below hbv9 bS.lt).alloc (.cells (A4 (lb (pq) 0) (lb (pq) 1) (lb (pq) 2) (lb (pq) 3)) 25))
                  have bT := ((bT.below hbv9 bT.lt).alloc (.cells (A4 (lb (pq) 0) (lb (pq) 1) (lb (pq) 2) (lb (pq) 3)) 25))
                  have bK := ((bK.below hbv9 bK.lt).alloc (.cells (A4 (lb (pq) 0) (lb (pq) 1) (lb (pq) 2) (lb (pq) 3)) 25))
                  have bX := ((bX.below hbv9 bX.lt).alloc (.cells (A4 (lb (pq) 0) (lb (pq) 1) (lb (pq) 2) (lb (pq) 3)) 25))
                  have bY := ((bY.below hbv9 bY.lt).alloc (.cells (A4 (lb (pq) 0) (lb (pq) 1) (lb (pq) 2) (lb (pq) 3)) 25))
                  have bZ := ((bZ.below hbv9 bZ.lt).alloc (.cells (A4 (lb (pq) 0) (lb (pq) 1) (lb (pq) 2) (lb (pq) 3)) 25))
                  have bQ := ((bQ.below hbv9 bQ.lt).alloc (.cells (A4 (lb (pq) 0) (lb (pq) 1) (lb (pq) 2) (lb (pq) 3)) 25))
                  have bR := ((bR.below hbv9 bR.lt).alloc (.cells (A4 (lb (pq) 0) (lb (pq) 1) (lb (pq) 2) (lb (pq) 3)) 25))
                  have hsv9 := hbv9.size
                  have hB := ((hB.trans (hbv9.mono hB.size)).alloc (by first | (have := hB.size; omega) | (simp; have := hB.size; omega)) (.cells (A4 (lb (pq) 0) (lb (pq) 1) (lb (pq) 2) (lb (pq) 3)) 25))
                  have bP := (Bk.new v9 (A4 (lb (pq) 0) (lb (pq) 1) (lb (pq) 2) (lb (pq) 3)) 25)
                  obtain ⟨P, hP⟩ : ∃ z, z = v9.heap.size := ⟨_, rfl⟩
                  rw [← hP] at bP ⊢
                  clear hP
                  clear hbv9 hsv9
                  clear fq0 fqf0 fq1 fqf1 fq2 fqf2 fq3 fqf3 fb0 fbf0 fb1 fbf1 fb2 fbf2 fb3 fbf3
                  generalize World.alloc _ _ = w_v9 at *
                  have fp0 := bP.cell 0
                  have fpf0 := bP.frozen 0
                  have fp1 := bP.cell 1
                  have fpf1 := bP.frozen 1
                  have fp2 := bP.cell 2
                  have fpf2 := bP.frozen 2
                  have fp3 := bP.cell 3
                  have fpf3 := bP.frozen 3
                  simp only [List.getElem?_toArray, List.getElem?_cons_zero, List.getElem?_cons_succ] at fp0 fp1 fp2 fp3
                  have fr0 := bR.cell 0
                  have frf0 := bR.frozen 0
                  have fr1 := bR.cell 1
                  have frf1 := bR.frozen 1
                  have fr2 := bR.cell 2
                  have frf2 := bR.frozen 2
                  have fr3 := bR.cell 3
                  have frf3 := bR.frozen 3
                  simp only [List.getElem?_toArray, List.getElem?_cons_zero, List.getElem?_cons_succ] at fr0 fr1 fr2 fr3
                  go_upto_region 24 with (first | (go_at_call 20; refine (num_any _ _).mono ?_; rintro e w9 ⟨rfl, rfl⟩) | (go_at_call 18; refine (had _).mono ?_; rintro e v10 ⟨rfl, hbv10⟩))
                  have bA := ((bA.below hbv10 bA.lt).alloc (.cells (A4 (lb (a) 0) (lb (a) 1) (lb (a) 2) (lb (a) 3)) 25))
                  have bB := ((bB.below hbv10 bB.lt).alloc (.cells (A4 (lb (a) 0) (lb (a) 1) (lb (a) 2) (lb (a) 3)) 25))
                  have bD := ((bD.below hbv10 bD.lt).alloc (.cells (A4 (lb (a) 0) (lb (a) 1) (lb (a) 2) (lb (a) 3)) 25))
                  have bS := ((bS.below hbv10 bS.lt).alloc (.cells (A4 (lb (a) 0) (lb (a) 1) (lb (a) 2) (lb (a) 3)) 25))
                  have bT := ((bT.below hbv10 bT.lt).alloc (.cells (A4 (lb (a) 0) (lb (a) 1) (lb (a) 2) (lb (a) 3)) 25))
                  have bK := ((bK.below hbv10 bK.lt).alloc (.cells (A4 (lb (a) 0) (lb (a) 1) (lb (a) 2) (lb (a) 3)) 25))
                  have bX := ((bX.below hbv10 bX.lt).alloc (.cells (A4 (lb (a) 0) (lb (a) 1) (lb (a) 2) (lb (a) 3)) 25))
                  have bY := ((bY.below hbv10 bY.lt).alloc (.cells (A4 (lb (a) 0) (lb (a) 1) (lb (a) 2) (lb (a) 3)) 25))
                  have bZ := ((bZ.below hbv10 bZ.lt).alloc (.cells (A4 (lb (a) 0) (lb (a) 1) (lb (a) 2) (lb (a) 3)) 25))
                  have bQ := ((bQ.below hbv10 bQ.lt).alloc (.cells (A4 (lb (a) 0) (lb (a) 1) (lb (a) 2) (lb (a) 3)) 25))
                  have bR := ((bR.below hbv10 bR.lt).alloc (.cells (A4 (lb (a) 0) (lb (a) 1) (lb (a) 2) (lb (a) 3)) 25))
                  have bP := ((bP.below hbv10 bP.lt).alloc (.cells (A4 (lb (a) 0) (lb (a) 1) (lb (a) 2) (lb (a) 3)) 25))
                  have hsv10 := hbv10.size
                  have hB := ((hB.trans (hbv10.mono hB.size)).alloc (by first | (have := hB.size; omega) | (simp; have := hB.size; omega)) (.cells (A4 (lb (a) 0) (lb (a) 1) (lb (a) 2) (lb (a) 3)) 25))
                  have bX := (Bk.new v10 (A4 (lb (a) 0) (lb (a) 1) (lb (a) 2) (lb (a) 3)) 25)
                  obtain ⟨X, hX⟩ : ∃ z, z = v10.heap.size := ⟨_, rfl⟩
                  rw [← hX] at bX ⊢
                  clear hX
                  clear hbv10 hsv10
                  clear fp0 fpf0 fp1 fpf1 fp2 fpf2 fp3 fpf3 fr0 frf0 fr1 frf1 fr2 frf2 fr3 frf3
                  generalize World.alloc _ _ = w_v10 at *
                  have fx0 := bX.cell 0
                  have fxf0 := bX.frozen 0
                  have fx1 := bX.cell 1
                  have fxf1 := bX.frozen 1
                  have fx2 := bX.cell 2
                  have fxf2 := bX.frozen 2
                  have fx3 := bX.cell 3
                  have fxf3 := bX.frozen 3
                  simp only [List.getElem?_toArray, List.getElem?_cons_zero, List.getElem?_cons_succ] at fx0 fx1 fx2 fx3
                  have fa0 := bA.cell 0
                  have faf0 := bA.frozen 0
                  have fa1 := bA.cell 1
                  have faf1 := bA.frozen 1
                  have fa2 := bA.cell 2
                  have faf2 := bA.frozen 2
                  have fa3 := bA.cell 3
                  have faf3 := bA.frozen 3
                  simp only [List.getElem?_toArray, List.getElem?_cons_zero, List.getElem?_cons_succ] at fa0 fa1 fa2 fa3
                  have fr0 := bR.cell 0
                  have frf0 := bR.frozen 0
                  have fr1 := bR.cell 1
                  have frf1 := bR.frozen 1
                  have fr2 := bR.cell 2
                  have frf2 := bR.frozen 2
                  have fr3 := bR.cell 3
                  have frf3 := bR.frozen 3
                  simp only [List.getElem?_toArray, List.getElem?_cons_zero, List.getElem?_cons_succ] at fr0 fr1 fr2 fr3
                  have fb0 := bB.cell 0
                  have fbf0 := bB.frozen 0
                  have fb1 := bB.cell 1
                  have fbf1 := bB.frozen 1
                  have fb2 := bB.cell 2
                  have fbf2 := bB.frozen 2
                  have fb3 := bB.cell 3
                  have fbf3 := bB.frozen 3
                  simp only [List.getElem?_toArray, List.getElem?_cons_zero, List.getElem?_cons_succ] at fb0 fb1 fb2 fb3
                  go_wp2_with (first | (go_at_call 20; refine (num_any _ _).mono ?_; rintro e w9 ⟨rfl, rfl⟩) | (go_at_call 19; refine (hcm _).mono ?_; rintro e v11 ⟨rfl, hbv11⟩))
                  go_roundw
                  case rel => exact ⟨i + 1, by omega, by omega, by go_num, hbo.trans ((hB.trans (hbv11.mono hB.size)).mono (by omega))⟩
                  case measure => simp [intOf]; omega
            · have hab := fun w => add_over a b2 Ha.out Hb.out hs w
              have hba := fun w => add_over b2 a Hb.out Ha.out (by omega) w
              have he0 := fun w => same_neq 0 w
              have fa0 := bA.cell 0
              have faf0 := bA.frozen 0
              have fa1 := bA.cell 1
              have faf1 := bA.frozen 1
              have fa2 := bA.cell 2
              have faf2 := bA.frozen 2
              have fa3 := bA.cell 3
              have faf3 := bA.frozen 3
              simp only [List.getElem?_toArray, List.getElem?_cons_zero, List.getElem?_cons_succ] at fa0 fa1 fa2 fa3
              have fb0 := bB.cell 0
              have fbf0 := bB.frozen 0
              have fb1 := bB.cell 1
              have fbf1 := bB.frozen 1
              have fb2 := bB.cell 2
              have fbf2 := bB.frozen 2
              have fb3 := bB.cell 3
              have fbf3 := bB.frozen 3
              simp only [List.getElem?_toArray, List.getElem?_cons_zero, List.getElem?_cons_succ] at fb0 fb1 fb2 fb3
              go_upto_region 6 with (first | (go_at_call 20; refine (num_any _ _).mono ?_; rintro e w9 ⟨rfl, rfl⟩) | (go_at_call 18; refine (hab _).mono ?_; rintro e v1 ⟨rfl, hbv1⟩))
              have bA := ((bA.below hbv1 bA.lt).alloc (.cells (A4 (lb (0) 0) (lb (0) 1) (lb (0) 2) (lb (0) 3)) 25))
              have bB := ((bB.below hbv1 bB.lt).alloc (.cells (A4 (lb (0) 0) (lb (0) 1) (lb (0) 2) (lb (0) 3)) 25))
              have bD := ((bD.below hbv1 bD.lt).alloc (.cells (A4 (lb (0) 0) (lb (0) 1) (lb (0) 2) (lb (0) 3)) 25))
              have hsv1 := hbv1.size
              have hB := ((hB.trans (hbv1.mono hB.size)).alloc (by first | (have := hB.size; omega) | (simp; have := hB.size; omega)) (.cells (A4 (lb (0) 0) (lb (0) 1) (lb (0) 2) (lb (0) 3)) 25))
              have bS := (Bk.new v1 (A4 (lb (0) 0) (lb (0) 1) (lb (0) 2) (lb (0) 3)) 25)
              obtain ⟨S, hS⟩ : ∃ z, z = v1.heap.size := ⟨_, rfl⟩
              rw [← hS] at bS ⊢
              clear hS
              clear hbv1 hsv1
              clear fa0 faf0 fa1 faf1 fa2 faf2 fa3 faf3 fb0 fbf0 fb1 fbf1 fb2 fbf2 fb3 fbf3
              generalize World.alloc _ _ = w_v1 at *
              have fb0 := bB.cell 0
              have fbf0 := bB.frozen 0
              have fb1 := bB.cell 1
              have fbf1 := bB.frozen 1
              have fb2 := bB.cell 2
              have fbf2 := bB.frozen 2
              have fb3 := bB.cell 3
              have fbf3 := bB.frozen 3
              simp only [List.getElem?_toArray, List.getElem?_cons_zero, List.getElem?_cons_succ] at fb0 fb1 fb2 fb3
              have fa0 := bA.cell 0
              have faf0 := bA.frozen 0
              have fa1 := bA.cell 1
              have faf1 := bA.frozen 1
              have fa2 := bA.cell 2
              have faf2 := bA.frozen 2
              have fa3 := bA.cell 3
              have faf3 := bA.frozen 3
              simp only [List.getElem?_toArray, List.getElem?_cons_zero, List.getElem?_cons_succ] at fa0 fa1 fa2 fa3
              go_upto_region 7 with (first | (go_at_call 20; refine (num_any _ _).mono ?_; rintro e w9 ⟨rfl, rfl⟩) | (go_at_call 18; refine (hba _).mono ?_; rintro e v2 ⟨rfl, hbv2⟩))
              have bA := ((bA.below hbv2 bA.lt).alloc (.cells (A4 (lb (0) 0) (lb (0) 1) (lb (0) 2) (lb (0) 3)) 25))
              have bB := ((bB.below hbv2 bB.lt).alloc (.cells (A4 (lb (0) 0) (lb (0) 1) (lb (0) 2) (lb (0) 3)) 25))
              have bD := ((bD.below hbv2 bD.lt).alloc (.cells (A4 (lb (0) 0) (lb (0) 1) (lb (0) 2) (lb (0) 3)) 25))
              have bS := ((bS.below hbv2 bS.lt).alloc (.cells (A4 (lb (0) 0) (lb (0) 1) (lb (0) 2) (lb (0) 3)) 25))
              have hsv2 := hbv2.size
              have hB := ((hB.trans (hbv2.mono hB.size)).alloc (by first | (have := hB.size; omega) | (simp; have := hB.size; omega)) (.cells (A4 (lb (0) 0) (lb (0) 1) (lb (0) 2) (lb (0) 3)) 25))
              have bT := (Bk.new v2 (A4 (lb (0) 0) (lb (0) 1) (lb (0) 2) (lb (0) 3)) 25)
              obtain ⟨T, hT⟩ : ∃ z, z = v2.heap.size := ⟨_, rfl⟩
              rw [← hT] at bT ⊢
              clear hT
              clear hbv2 hsv2
              clear fb0 fbf0 fb1 fbf1 fb2 fbf2 fb3 fbf3 fa0 faf0 fa1 faf1 fa2 faf2 fa3 faf3
              generalize World.alloc _ _ = w_v2 at *
              have fs0 := bS.cell 0
              have fsf0 := bS.frozen 0
              have fs1 := bS.cell 1
              have fsf1 := bS.frozen 1
              have fs2 := bS.cell 2
              have fsf2 := bS.frozen 2
              have fs3 := bS.cell 3
              have fsf3 := bS.frozen 3
              simp only [List.getElem?_toArray, List.getElem?_cons_zero, List.getElem?_cons_succ] at fs0 fs1 fs2 fs3
              have ft0 := bT.cell 0
              have ftf0 := bT.frozen 0
              have ft1 := bT.cell 1
              have ftf1 := bT.frozen 1
              have ft2 := bT.cell 2
              have ftf2 := bT.frozen 2
              have ft3 := bT.cell 3
              have ftf3 := bT.frozen 3
              simp only [List.getElem?_toArray, List.getElem?_cons_zero, List.getElem?_cons_succ] at ft0 ft1 ft2 ft3
              go_upto_region 20 with (go_at_call 20; refine (num_any _ _).mono ?_; rintro e w9 ⟨rfl, rfl⟩)
              clear fs0 fsf0 fs1 fsf1 fs2 fsf2 fs3 fsf3 ft0 ftf0 ft1 ftf1 ft2 ftf2 ft3 ftf3
              clear hab hba he0
              by_cases h0 : b2 = 0
              · have hdv := fun w => div_none a b2 Ha.out h0 w
                clear h0
                have fa0 := bA.cell 0
                have faf0 := bA.frozen 0
                have fa1 := bA.cell 1
                have faf1 := bA.frozen 1
                have fa2 := bA.cell 2
                have faf2 := bA.frozen 2
                have fa3 := bA.cell 3
                have faf3 := bA.frozen 3
                simp only [List.getElem?_toArray, List.getElem?_cons_zero, List.getElem?_cons_succ] at fa0 fa1 fa2 fa3
                have fb0 := bB.cell 0
                have fbf0 := bB.frozen 0
                have fb1 := bB.cell 1
                have fbf1 := bB.frozen 1
                have fb2 := bB.cell 2
                have fbf2 := bB.frozen 2
                have fb3 := bB.cell 3
                have fbf3 := bB.frozen 3
                simp only [List.getElem?_toArray, List.getElem?_cons_zero, List.getElem?_cons_succ] at fb0 fb1 fb2 fb3
                go_upto_region 21 with (first | (go_at_call 20; refine (num_any _ _).mono ?_; rintro e w9 ⟨rfl, rfl⟩) | (go_at_call 17; refine (hdv _).mono ?_; rintro e v3 ⟨rfl, hbv3⟩))
                have bA := (((bA.below hbv3 bA.lt).alloc (.cells (A4 (lb (0) 0) (lb (0) 1) (lb (0) 2) (lb (0) 3)) 25)).alloc (.cells (A4 (lb (0) 0) (lb (0) 1) (lb (0) 2) (lb (0) 3)) 25))
                have bB := (((bB.below hbv3 bB.lt).alloc (.cells (A4 (lb (0) 0) (lb (0) 1) (lb (0) 2) (lb (0) 3)) 25)).alloc (.cells (A4 (lb (0) 0) (lb (0) 1) (lb (0) 2) (lb (0) 3)) 25))
                have bD := (((bD.below hbv3 bD.lt).alloc (.cells (A4 (lb (0) 0) (lb (0) 1) (lb (0) 2) (lb (0) 3)) 25)).alloc (.cells (A4 (lb (0) 0) (lb (0) 1) (lb (0) 2) (lb (0) 3)) 25))
                have bS := (((bS.below hbv3 bS.lt).alloc (.cells (A4 (lb (0) 0) (lb (0) 1) (lb (0) 2) (lb (0) 3)) 25)).alloc (.cells (A4 (lb (0) 0) (lb (0) 1) (lb (0) 2) (lb (0) 3)) 25))
                have bT := (((bT.below hbv3 bT.lt).alloc (.cells (A4 (lb (0) 0) (lb (0) 1) (lb (0) 2) (lb (0) 3)) 25)).alloc (.cells (A4 (lb (0) 0) (lb (0) 1) (lb (0) 2) (lb (0) 3)) 25))
                have hsv3 := hbv3.size
                have hB := (((hB.trans (hbv3.mono hB.size)).alloc (by first | (have := hB.size; omega) | (simp; have := hB.size; omega)) (.cells (A4 (lb (0) 0) (lb (0) 1) (lb (0) 2) (lb (0) 3)) 25)).alloc (by first | (have := hB.size; omega) | (simp; have := hB.size; omega)) (.cells (A4 (lb (0) 0) (lb (0) 1) (lb (0) 2) (lb (0) 3)) 25))
                have bQ := ((Bk.new v3 (A4 (lb (0) 0) (lb (0) 1) (lb (0) 2) (lb (0) 3)) 25).alloc (.cells (A4 (lb (0) 0) (lb (0) 1) (lb (0) 2) (lb (0) 3)) 25))
                have bR : Bk ((v3.alloc (.cells (A4 (lb (0) 0) (lb (0) 1) (lb (0) 2) (lb (0) 3)) 25)).alloc (.cells (A4 (lb (0) 0) (lb (0) 1) (lb (0) 2) (lb (0) 3)) 25)) (v3.heap.size + 1) (A4 (lb (0) 0) (lb (0) 1) (lb (0) 2) (lb (0) 3)) 25 := Bk.new' _ _ _ (by simp)
                obtain ⟨Q, hQ⟩ : ∃ z, z = v3.heap.size := ⟨_, rfl⟩
                rw [← hQ] at bQ bR ⊢
                clear hQ
                clear hbv3 hsv3
                clear fa0 faf0 fa1 faf1 fa2 faf2 fa3 faf3 fb0 fbf0 fb1 fbf1 fb2 fbf2 fb3 fbf3
                generalize Q + 1 = R at bR ⊢
                generalize World.alloc (World.alloc _ _) _ = w_v3 at *
                go_wp2_with (first | (go_at_call 20; refine (num_any _ _).mono ?_; rintro e w9 ⟨rfl, rfl⟩))
                go_roundw
                case rel => exact ⟨i + 1, by omega, by omega, by go_num, hbo.trans ((hB).mono (by omega))⟩
                case measure => simp [intOf]; omega
              · obtain ⟨q, hq⟩ : ∃ q, q = a / b2 := ⟨_, rfl⟩
                obtain ⟨r, hr⟩ : ∃ r, r = a % b2 := ⟨_, rfl⟩
                have hqr : q * b2 + r = a := by subst hq hr; rw [Nat.mul_comm]; exact Nat.div_add_mod a b2
                have hrb : r < b2 := by subst hr; exact Nat.mod_lt _ (by omega)
                obtain ⟨pq, hpq⟩ : ∃ pq, q * b2 = pq := ⟨_, rfl⟩
                have hqa : q ≤ a := by subst hq; exact Nat.div_le_self _ _
                have hdv := fun w => div_ok a b2 q r Ha.out Hb.out (by omega) hq.symm hr.symm w
                have hmu := fun w => mul_ok q b2 pq (Nat.lt_of_le_of_lt hqa Ha.out) Hb.out hpq (by have := Ha.out; omega) w
                have had := fun w => add_ok pq r a (by have := Ha.out; omega) (by have := Hb.out; omega) (by omega) Ha.out w
                have hcm := fun w => cmp_less r b2 (by have := Hb.out; omega) Hb.out hrb w
                clear hq hr hqr hpq hqa hrb h0
                have he := fun w => same_neq a w
                have fa0 := bA.cell 0
                have faf0 := bA.frozen 0
                have fa1 := bA.cell 1
                have faf1 := bA.frozen 1
                have fa2 := bA.cell 2
                have faf2 := bA.frozen 2
                have fa3 := bA.cell 3
                have faf3 := bA.frozen 3
                simp only [List.getElem?_toArray, List.getElem?_cons_zero, List.getElem?_cons_succ] at fa0 fa1 fa2 fa3
                have fb0 := bB.cell 0
                have fbf0 := bB.frozen 0
                have fb1 := bB.cell 1
                have fbf1 := bB.frozen 1
                have fb2 := bB.cell 2
                have fbf2 := bB.frozen 2
                have fb3 := bB.cell 3
                have fbf3 := bB.frozen 3
                simp only [List.getElem?_toArray, List.getElem?_cons_zero, List.getElem?_cons_succ] at fb0 fb1 fb2 fb3
                go_upto_region 21 with (first | (go_at_call 20; refine (num_any _ _).mono ?_; rintro e w9 ⟨rfl, rfl⟩) | (go_at_call 17; refine (hdv _).mono ?_; rintro e v3 ⟨rfl, hbv3⟩))
                have bA := (((bA.below hbv3 bA.lt).alloc (.cells (A4 (lb (q) 0) (lb (q) 1) (lb (q) 2) (lb (q) 3)) 25)).alloc (.cells (A4 (lb (r) 0) (lb (r) 1) (lb (r) 2) (lb (r) 3)) 25))
                have bB := (((bB.below hbv3 bB.lt).alloc (.cells (A4 (lb (q) 0) (lb (q) 1) (lb (q) 2) (lb (q) 3)) 25)).alloc (.cells (A4 (lb (r) 0) (lb (r) 1) (lb (r) 2) (lb (r) 3)) 25))
                have bD := (((bD.below hbv3 bD.lt).alloc (.cells (A4 (lb (q) 0) (lb (q) 1) (lb (q) 2) (lb (q) 3)) 25)).alloc (.cells (A4 (lb (r) 0) (lb (r) 1) (lb (r) 2) (lb (r) 3)) 25))
                have bS := (((bS.below hbv3 bS.lt).alloc (.cells (A4 (lb (q) 0) (lb (q) 1) (lb (q) 2) (lb (q) 3)) 25)).alloc (.cells (A4 (lb (r) 0) (lb (r) 1) (lb (r) 2) (lb (r) 3)) 25))
                have bT := (((bT.below hbv3 bT.lt).alloc (.cells (A4 (lb (q) 0) (lb (q) 1) (lb (q) 2) (lb (q) 3)) 25)).alloc (.cells (A4 (lb (r) 0) (lb (r) 1) (lb (r) 2) (lb (r) 3)) 25))
                have hsv3 := hbv3.size
                have hB := (((hB.trans (hbv3.mono hB.size)).alloc (by first | (have := hB.size; omega) | (simp; have := hB.size; omega)) (.cells (A4 (lb (q) 0) (lb (q) 1) (lb (q) 2) (lb (q) 3)) 25)).alloc (by first | (have := hB.size; omega) | (simp; have := hB.size; omega)) (.cells (A4 (lb (r) 0) (lb (r) 1) (lb (r) 2) (lb (r) 3)) 25))
                have bQ := ((Bk.new v3 (A4 (lb (q) 0) (lb (q) 1) (lb (q) 2) (lb (q) 3)) 25).alloc (.cells (A4 (lb (r) 0) (lb (r) 1) (lb (r) 2) (lb (r) 3)) 25))
                have bR : Bk ((v3.alloc (.cells (A4 (lb (q) 0) (lb (q) 1) (lb (q) 2) (lb (q) 3)) 25)).alloc (.cells (A4 (lb (r) 0) (lb (r) 1) (lb (r) 2) (lb (r) 3)) 25)) (v3.heap.size + 1) (A4 (lb (r) 0) (lb (r) 1) (lb (r) 2) (lb (r) 3)) 25 := Bk.new' _ _ _ (by simp)
                obtain ⟨Q, hQ⟩ : ∃ z, z = v3.heap.size := ⟨_, rfl⟩
                rw [← hQ] at bQ bR ⊢
                clear hQ
                clear hbv3 hsv3
                clear fa0 faf0 fa1 faf1 fa2 faf2 fa3 faf3 fb0 fbf0 fb1 fbf1 fb2 fbf2 fb3 fbf3
                generalize Q + 1 = R at bR ⊢
                generalize World.alloc (World.alloc _ _) _ = w_v3 at *
                have fq0 := bQ.cell 0
                have fqf0 := bQ.frozen 0
                have fq1 := bQ.cell 1
                have fqf1 := bQ.frozen 1
                have fq2 := bQ.cell 2
                have fqf2 := bQ.frozen 2
                have fq3 := bQ.cell 3
                have fqf3 := bQ.frozen 3
                simp only [List.getElem?_toArray, List.getElem?_cons_zero, List.getElem?_cons_succ] at fq0 fq1 fq2 fq3
                have fb0 := bB.cell 0
                have fbf0 := bB.frozen 0
                have fb1 := bB.cell 1
                have fbf1 := bB.frozen 1
                have fb2 := bB.cell 2
                have fbf2 := bB.frozen 2
                have fb3 := bB.cell 3
                have fbf3 := bB.frozen 3
                simp only [List.getElem?_toArray, List.getElem?_cons_zero, List.getElem?_cons_succ] at fb0 fb1 fb2 fb3
                go_upto_region 23 with (first | (go_at_call 20; refine (num_any _ _).mono ?_; rintro e w9 ⟨rfl, rfl⟩) | (go_at_call 22; refine (hmu _).mono ?_; rintro e v4 ⟨rfl, hbv4⟩))
                have bA := ((bA.below hbv4 bA.lt).alloc (.cells (A4 (lb (pq) 0) (lb (pq) 1) (lb (pq) 2) (lb (pq) 3)) 25))
                have bB := ((bB.below hbv4 bB.lt).alloc (.cells (A4 (lb (pq) 0) (lb (pq) 1) (lb (pq) 2) (lb (pq) 3)) 25))
                have bD := ((bD.below hbv4 bD.lt).alloc (.cells (A4 (lb (pq) 0) (lb (pq) 1) (lb (pq) 2) (lb (pq) 3)) 25))
                have bS := ((bS.below hbv4 bS.lt).alloc (.cells (A4 (lb (pq) 0) (lb (pq) 1) (lb (pq) 2) (lb (pq) 3)) 25))
                have bT := ((bT.below hbv4 bT.lt).alloc (.cells (A4 (lb (pq) 0) (lb (pq) 1) (lb (pq) 2) (lb (pq) 3)) 25))
                have bQ := ((bQ.below hbv4 bQ.lt).alloc (.cells (A4 (lb (pq) 0) (lb (pq) 1) (lb (pq) 2) (lb (pq) 3)) 25))
                have bR := ((bR.below hbv4 bR.lt).alloc (.cells (A4 (lb (pq) 0) (lb (pq) 1) (lb (pq) 2) (lb (pq) 3)) 25))
                have hsv4 := hbv4.size
                have hB := ((hB.trans (hbv4.mono hB.size)).alloc (by first | (have := hB.size; omega) | (simp; have := hB.size; omega)) (.cells (A4 (lb (pq) 0) (lb (pq) 1) (lb (pq) 2) (lb (pq) 3)) 25))
                have bP := (Bk.new v4 (A4 (lb (pq) 0) (lb (pq) 1) (lb (pq) 2) (lb (pq) 3)) 25)
                obtain ⟨P, hP⟩ : ∃ z, z = v4.heap.size := ⟨_, rfl⟩
                rw [← hP] at bP ⊢
                clear hP
                clear hbv4 hsv4
                clear fq0 fqf0 fq1 fqf1 fq2 fqf2 fq3 fqf3 fb0 fbf0 fb1 fbf1 fb2 fbf2 fb3 fbf3
                generalize World.alloc _ _ = w_v4 at *
                have fp0 := bP.cell 0
                have fpf0 := bP.frozen 0
                have fp1 := bP.cell 1
                have fpf1 := bP.frozen 1
                have fp2 := bP.cell 2
                have fpf2 := bP.frozen 2
                have fp3 := bP.cell 3
                have fpf3 := bP.frozen 3
                simp only [List.getElem?_toArray, List.getElem?_cons_zero, List.getElem?_cons_succ] at fp0 fp1 fp2 fp3
                have fr0 := bR.cell 0
                have frf0 := bR.frozen 0
                have fr1 := bR.cell 1
                have frf1 := bR.frozen 1
                have fr2 := bR.cell 2
                have frf2 := bR.frozen 2
                have fr3 := bR.cell 3
                have frf3 := bR.frozen 3
                simp only [List.getElem?_toArray, List.getElem?_cons_zero, List.getElem?_cons_succ] at fr0 fr1 fr2 fr3
                go_upto_region 24 with (first | (go_at_call 20; refine (num_any _ _).mono ?_; rintro e w9 ⟨rfl, rfl⟩) | (go_at_call 18; refine (had _).mono ?_; rintro e v5 ⟨rfl, hbv5⟩))
                have bA := ((bA.below hbv5 bA.lt).alloc (.cells (A4 (lb (a) 0) (lb (a) 1) (lb (a) 2) (lb (a) 3)) 25))
                have bB := ((bB.below hbv5 bB.lt).alloc (.cells (A4 (lb (a) 0) (lb (a) 1) (lb (a) 2) (lb (a) 3)) 25))
                have bD := ((bD.below hbv5 bD.lt).alloc (.cells (A4 (lb (a) 0) (lb (a) 1) (lb (a) 2) (lb (a) 3)) 25))
                have bS := ((bS.below hbv5 bS.lt).alloc (.cells (A4 (lb (a) 0) (lb (a) 1) (lb (a) 2) (lb (a) 3)) 25))
                have bT := ((bT.below hbv5 bT.lt).alloc (.cells (A4 (lb (a) 0) (lb (a) 1) (lb (a) 2) (lb (a) 3)) 25))
                have bQ := ((bQ.below hbv5 bQ.lt).alloc (.cells (A4 (lb (a) 0) (lb (a) 1) (lb (a) 2) (lb (a) 3)) 25))
                have bR := ((bR.below hbv5 bR.lt).alloc (.cells (A4 (lb (a) 0) (lb (a) 1) (lb (a) 2) (lb (a) 3)) 25))
                have bP := ((bP.below hbv5 bP.lt).alloc (.cells (A4 (lb (a) 0) (lb (a) 1) (lb (a) 2) (lb (a) 3)) 25))
                have hsv5 := hbv5.size
                have hB := ((hB.trans (hbv5.mono hB.size)).alloc (by first | (have := hB.size; omega) | (simp; have := hB.size; omega)) (.cells (A4 (lb (a) 0) (lb (a) 1) (lb (a) 2) (lb (a) 3)) 25))
                have bX := (Bk.new v5 (A4 (lb (a) 0) (lb (a) 1) (lb (a) 2) (lb (a) 3)) 25)
                obtain ⟨X, hX⟩ : ∃ z, z = v5.heap.size := ⟨_, rfl⟩
                rw [← hX] at bX ⊢
                clear hX
                clear hbv5 hsv5
                clear fp0 fpf0 fp1 fpf1 fp2 fpf2 fp3 fpf3 fr0 frf0 fr1 frf1 fr2 frf2 fr3 frf3
                generalize World.alloc _ _ = w_v5 at *
                have fx0 := bX.cell 0
                have fxf0 := bX.frozen 0
                have fx1 := bX.cell 1
                have fxf1 := bX.frozen 1
                have fx2 := bX.cell 2
                have fxf2 := bX.frozen 2
                have fx3 := bX.cell 3
                have fxf3 := bX.frozen 3
                simp only [List.getElem?_toArray, List.getElem?_cons_zero, List.getElem?_cons_succ] at fx0 fx1 fx2 fx3
                have fa0 := bA.cell 0
                have faf0 := bA.frozen 0
                have fa1 := bA.cell 1
                have faf1 := bA.frozen 1
                have fa2 := bA.cell 2
                have faf2 := bA.frozen 2
                have fa3 := bA.cell 3
                have faf3 := bA.frozen 3
                simp only [List.getElem?_toArray, List.getElem?_cons_zero, List.getElem?_cons_succ] at fa0 fa1 fa2 fa3
                have fr0 := bR.cell 0
                have frf0 := bR.frozen 0
                have fr1 := bR.cell 1
                have frf1 := bR.frozen 1
                have fr2 := bR.cell 2
                have frf2 := bR.frozen 2
                have fr3 := bR.cell 3
                have frf3 := bR.frozen 3
                simp only [List.getElem?_toArray, List.getElem?_cons_zero, List.getElem?_cons_succ] at fr0 fr1 fr2 fr3
                have fb0 := bB.cell 0
                have fbf0 := bB.frozen 0
                have fb1 := bB.cell 1
                have fbf1 := bB.frozen 1
                have fb2 := bB.cell 2
                have fbf2 := bB.frozen 2
                have fb3 := bB.cell 3
                have fbf3 := bB.frozen 3
                simp only [List.getElem?_toArray, List.getElem?_cons_zero, List.getElem?_cons_succ] at fb0 fb1 fb2 fb3
                go_wp2_with (first | (go_at_call 20; refine (num_any _ _).mono ?_; rintro e w9 ⟨rfl, rfl⟩) | (go_at_call 19; refine (hcm _).mono ?_; rintro e v6 ⟨rfl, hbv6⟩))
                go_roundw
                case rel => exact ⟨i + 1, by omega, by omega, by go_num, hbo.trans ((hB.trans (hbv6.mono hB.size)).mono (by omega))⟩
                case measure => simp [intOf]; omega
      · have hb8 : decide ((i : Int) < 12) = false := by simp; omega
        have hlt' : (i : Int) + 2 < (ns.length : Int) := by omega
        go_wp2_with (first | (go_at_call 16; refine (within53 _).mono ?_; rintro e w3 ⟨rfl, rfl⟩) | (go_at_call 23; refine (wakes _).mono ?_; rintro e w4 ⟨rfl, hb4⟩))
        go_ret
        exact ⟨rfl, hbo.trans (hb4.mono (by omega))⟩
    · have hb9 : decide ((i : Int) + 2 < (ns.length : Int)) = false := by simp; omega
      go_wp2_with (first | (go_at_call 16; refine (within53 _).mono ?_; rintro e w3 ⟨rfl, rfl⟩) | (go_at_call 23; refine (wakes _).mono ?_; rintro e w4 ⟨rfl, hb4⟩))
      go_ret
      exact ⟨rfl, hbo.trans (hb4.mono (by omega))⟩
end Go.Proofs.Ytljfenjpnanoiaa

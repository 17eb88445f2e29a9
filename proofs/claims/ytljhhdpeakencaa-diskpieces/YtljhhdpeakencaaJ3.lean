/- Texts joined: PgB PgO DkS Kpt9 RF RFA. -/
import Derived.Test.YtljhhdpeakencaaJ2
import Derived.Test.YtljhhdpeakencaaJ0
import Derived.RangeFuncNested
import Derived.RangeFuncBound
import Derived.RangeFuncCalls
import Derived.RangeFuncLeaves
import Derived.RangeFuncBox
import Derived.RangeFuncWrites
section
set_option linter.unusedSimpArgs false
set_option linter.unusedVariables false
namespace Go.Proofs.Ytljhhdpeakencaa
open Go.RowKit

/-! The page's small ones: CopyBytes, EqBytes, Num; tarnlaw0's Within; tarnlaw9's num. -/
theorem take_snoc {α : Type} (l : List α) (k : Nat) (h : k < l.length) : l.take (k + 1) = l.take k ++ [l[k]] := List.take_succ_eq_append_getElem h
set_option maxRecDepth 100000 in
set_option maxHeartbeats 1000000 in
theorem copyBytes (w : World) (v : Value) (l : List UInt8) (h : Rb w v l) (hn : l.length ≤ 1099511627776) :
    Calls Try.prog 49 #[v] w fun e w' => ∃ u, e = .returned u ∧ Ow w' w.heap.size u l ∧ Below w.heap.size w w' := by
  obtain ⟨ad, cap, rfl, hle, hm, hat⟩ := h
  obtain ⟨i0, hi, hz0, hz1, hz2⟩ := info_of info8
  have HA : Hid (∀ i (h : i < l.length), ∃ b off, ad = some ⟨b, off, none⟩ ∧ w.cell? ⟨b, off + i, none⟩ = some (.int .u8 (l[i].toNat : Int))) := hat
  obtain ⟨n, hnl⟩ : ∃ n, n = l.length := ⟨_, rfl⟩
  have Hnl : Hid (n = l.length) := hnl
  rw [← hnl] at hle hm hn ⊢
  clear hat hnl
  go_enter Try.func49, Try.ntmps49
  go_wp2_with fail
  go_loopw [3, 4] (fun u i wr => ∃ (k : Nat), k ≤ n ∧ i = .int .i64 (k : Int) ∧ Ow wr w.heap.size u (l.take k) ∧ Below w.heap.size w wr) (fun _ i _ => n - (intOf i).toNat)
  case atStart => exact ⟨0, by omega, rfl, Ow.nil _ _, Below.refl _ _⟩
  case round =>
    obtain ⟨k, hk, rfl, hown, hbl⟩ := hrel
    have hsz2 := hbl.size
    by_cases hlt : k < n
    · have hlt' : (k : Int) < (n : Int) := by omega
      have hkl : k < l.length := by have := Hnl.out; omega
      obtain ⟨b, off, rfl, hc⟩ := HA.out k hkl
      have hc := (hbl.cell (cell_lt hc)).trans hc
      have HST : Hid (l.take (k + 1) = l.take k ++ [l[k]]) := take_snoc l k hkl
      have hl : (l.take k).length = k := by simp; omega
      have Hl : Hid ((l.take k).length = k) := hl
      obtain ⟨ad, cap, rfl, hcap⟩ := hown.shape
      have HO : Hid (Ow wr w.heap.size (.slice ad (l.take k).length cap) (l.take k)) := hown
      have hown : wr.ownsRow w.heap.size 5 1 (.slice ad (l.take k).length cap) (l.take k).length (bc (l.take k)) := hown
      rw [hl] at hown ⊢
      generalize l[k] = y at *
      clear hl
      go_wp2_with (at_builtin; refine wpList_append_own _ rfl _ _ 37 rfl w.heap.size 5 i0 (.int .u8 0) 1 1 Try.underlying37 hi hz0 hz1 hz2 rfl (by decide) _ k _ rfl (hown.alloc _) ⟨wr.heap.size, 0, none⟩ 1 1 [.int .u8 (y.toNat : Int)] rfl rfl (cell_one_new _ _ _) (by simp [Value.oneCell']) (by unfold maxLen; omega) (by omega) (by simp; omega) ?_; intro v1 w1 hown1 hgrow1 hnil1)
      go_roundw
      case rel =>
        refine ⟨k + 1, by omega, by go_num, ?_, ?_⟩
        · unfold Ow
          rw [HST.out, bc_append, List.length_append, Hl.out]
          exact hown1
        · exact (hbl.alloc hsz2 _).grown hgrow1 (by simp; omega) (fun j hj => (HO.out.ge (by rw [Hl.out]; exact hj)).1)
      case measure => simp [intOf]; omega
    · have hlt' : ¬ (k : Int) < (n : Int) := by omega
      obtain rfl : k = n := by omega
      rw [Hnl.out, List.take_length] at hown
      go_wp2_with fail
      obtain ⟨ad', cap', rfl, hcap⟩ := hown.shape
      go_ret
      exact ⟨_, rfl, hown, hbl⟩
set_option maxRecDepth 100000 in
set_option maxHeartbeats 1000000 in
theorem eqBytes (w : World) (u v : Value) (l m : List UInt8) (h : Rb w u l) (h' : Rb w v m) :
    Calls Try.prog 34 #[u, v] w fun e w' => e = .returned (.bool (decide (l = m))) ∧ Below w.heap.size w w' := by
  obtain ⟨ad, cap, rfl, hle, hm, hat⟩ := h
  obtain ⟨ad', cap', rfl, hle', hm', hat'⟩ := h'
  have HA : Hid (∀ i (h : i < l.length), ∃ b off, ad = some ⟨b, off, none⟩ ∧ w.cell? ⟨b, off + i, none⟩ = some (.int .u8 (l[i].toNat : Int))) := hat
  have HA' : Hid (∀ i (h : i < m.length), ∃ b off, ad' = some ⟨b, off, none⟩ ∧ w.cell? ⟨b, off + i, none⟩ = some (.int .u8 (m[i].toNat : Int))) := hat'
  clear hat hat'
  by_cases hl : l.length = m.length
  · have HV : Hid ((∀ i (h : i < l.length) (h' : i < m.length), l[i] = m[i]) → l = m) := fun h => List.ext_getElem hl (fun i h1 h2 => h i h1 h2)
    obtain ⟨b, hb⟩ : ∃ b : Bool, b = decide (l = m) := ⟨_, rfl⟩
    rw [← hb]
    have Hb : Hid (b = decide (l = m)) := hb
    obtain ⟨n, hnl⟩ : ∃ n, n = l.length := ⟨_, rfl⟩
    have Hn : Hid (n = l.length ∧ n = m.length) := ⟨hnl, by omega⟩
    rw [← hl, ← hnl]
    rw [← hnl] at hle hm
    clear hb hnl hle' hm'
    have hl : Hid (l.length = m.length) := hl
    go_enter Try.func34, Try.ntmps34
    go_wp2_with fail
    go_loopw [5] (fun i wr => ∃ (k : Nat), k ≤ n ∧ i = .int .i64 (k : Int) ∧ (∀ i (h : i < l.length) (h' : i < m.length), i < k → l[i] = m[i]) ∧ Below w.heap.size w wr) (fun i _ => n - (intOf i).toNat)
    case atStart => exact ⟨0, by omega, rfl, fun i _ _ h => by omega, Below.refl _ _⟩
    case round =>
      obtain ⟨k, hk, rfl, heq, hbl⟩ := hrel
      have HEq : Hid (∀ i (h : i < l.length) (h' : i < m.length), i < k → l[i] = m[i]) := heq
      clear heq
      by_cases hlt : k < n
      · have hlt' : (k : Int) < (n : Int) := by omega
        have hk1 : k < l.length := by have := Hn.out; omega
        have hk2 : k < m.length := by have := Hn.out; omega
        obtain ⟨b1, off1, rfl, hc1⟩ := HA.out k hk1
        obtain ⟨b2, off2, rfl, hc2⟩ := HA'.out k hk2
        replace hc1 := (hbl.cell (cell_lt hc1)).trans hc1
        replace hc2 := (hbl.cell (cell_lt hc2)).trans hc2
        by_cases he : l[k] = m[k]
        · have he' : ((l[k].toNat : Int) != (m[k].toNat : Int)) = false := by rw [he]; simp
          have HN : Hid (∀ i (h : i < l.length) (h' : i < m.length), i < k + 1 → l[i] = m[i]) := fun i h h' hi => by
            by_cases e : i = k
            · subst e; exact he
            · exact HEq.out i h h' (by omega)
          clear he
          go_upto_region 6 with fail
          refine wp_region_noPanic ?_
          refine wp_region_held_drew (S := fun W' => W'.cell? ⟨b1, off1 + k, none⟩ = some (.int .u8 (l[k].toNat : Int)) ∧ W'.cell? ⟨b2, off2 + k, none⟩ = some (.int .u8 (m[k].toNat : Int))) (by kernel_rfl) ?_ (fun hHeld => ?_)
          · ((try dsimp only); exact ⟨hc1, hc2⟩)
          (try dsimp only at hHeld)
          refine wpAnyH_take (i := 0) (oi := ⟨some 17, _, _, _, _, _⟩) (v := ?_) rfl (by kernel_rfl) (by kernel_rfl) (by kernel_rfl) (fun _ _ _ h => h) (Or.inl ⟨by rfl, ?_⟩) (by assumption) ?_
          rotate_left
          · (intro w hSw; (try dsimp only at hSw); go_simp; try (with_reducible rfl))
          (try dsimp only); (try simp only [Act.put, List.setIfInBounds_toArray, List.set_cons_zero, List.set_cons_succ])
          refine wpAnyH_take (i := 1) (oi := ⟨some 18, _, _, _, _, _⟩) (v := ?_) rfl (by kernel_rfl) (by kernel_rfl) (by kernel_rfl) (fun _ _ _ h => h) (Or.inl ⟨by rfl, ?_⟩) (by assumption) ?_
          rotate_left
          · (intro w hSw; (try dsimp only at hSw); go_simp; try (with_reducible rfl))
          (try dsimp only); (try simp only [Act.put, List.setIfInBounds_toArray, List.set_cons_zero, List.set_cons_succ])
          refine wpAnyH_take (i := 2) (oi := ⟨some 19, _, _, _, _, _⟩) (v := ?_) rfl (by kernel_rfl) (by kernel_rfl) (by kernel_rfl) (fun _ _ _ h => h) (Or.inl ⟨by rfl, ?_⟩) (by assumption) ?_
          rotate_left
          · (intro w hSw; (try dsimp only at hSw); go_simp; try (with_reducible rfl))
          (try dsimp only); (try simp only [Act.put, List.setIfInBounds_toArray, List.set_cons_zero, List.set_cons_succ])
          refine wpAnyH_take (i := 3) (oi := ⟨some 20, _, _, _, _, _⟩) (v := ?_) rfl (by kernel_rfl) (by kernel_rfl) (by kernel_rfl) (fun _ _ _ h => h) (Or.inl ⟨by rfl, ?_⟩) (by assumption) ?_
          rotate_left
          · (intro w hSw; (try dsimp only at hSw); go_simp; try (with_reducible rfl))
          (try dsimp only); (try simp only [Act.put, List.setIfInBounds_toArray, List.set_cons_zero, List.set_cons_succ])
          refine wpAnyH_take (i := 4) (oi := ⟨some 21, _, _, _, _, _⟩) (v := ?_) rfl (by kernel_rfl) (by kernel_rfl) (by kernel_rfl) (fun _ _ _ h => h) (Or.inl ⟨by rfl, ?_⟩) (by assumption) ?_
          rotate_left
          · (intro w hSw; (try dsimp only at hSw); go_simp; try (with_reducible rfl))
          (try dsimp only); (try simp only [Act.put, List.setIfInBounds_toArray, List.set_cons_zero, List.set_cons_succ])
          refine wpAnyH_take (i := 5) (oi := ⟨some 22, _, _, _, _, _⟩) (v := ?_) rfl (by kernel_rfl) (by kernel_rfl) (by kernel_rfl) (fun _ _ _ h => h) (Or.inl ⟨by rfl, ?_⟩) (by assumption) ?_
          rotate_left
          · (intro w hSw; (try dsimp only at hSw); go_simp; try (with_reducible rfl))
          (try dsimp only); (try simp only [Act.put, List.setIfInBounds_toArray, List.set_cons_zero, List.set_cons_succ])
          refine wpAnyH_take (i := 6) (oi := ⟨some 23, _, _, _, _, _⟩) (v := ?_) rfl (by kernel_rfl) (by kernel_rfl) (by kernel_rfl) (fun _ _ _ h => h) (Or.inl ⟨by rfl, ?_⟩) (by assumption) ?_
          rotate_left
          · (intro w hSw; (try dsimp only at hSw); go_simp; try (with_reducible rfl))
          (try dsimp only); (try simp only [Act.put, List.setIfInBounds_toArray, List.set_cons_zero, List.set_cons_succ])
          refine wpAnyH_take (i := 7) (oi := ⟨some 24, _, _, _, _, _⟩) (v := ?_) rfl (by kernel_rfl) (by kernel_rfl) (by kernel_rfl) (fun _ _ _ h => h) (Or.inl ⟨by rfl, ?_⟩) (by assumption) ?_
          rotate_left
          · (intro w hSw; (try dsimp only at hSw); go_simp; try (with_reducible rfl))
          (try dsimp only); (try simp only [Act.put, List.setIfInBounds_toArray, List.set_cons_zero, List.set_cons_succ])
          refine wpAnyH_take (i := 8) (oi := ⟨some 25, _, _, _, _, _⟩) (v := ?_) rfl (by kernel_rfl) (by kernel_rfl) (by kernel_rfl) (fun _ _ _ h => h) (Or.inl ⟨by rfl, ?_⟩) (by assumption) ?_
          rotate_left
          · (intro w hSw; (try dsimp only at hSw); go_simp; try (with_reducible rfl))
          (try dsimp only); (try simp only [Act.put, List.setIfInBounds_toArray, List.set_cons_zero, List.set_cons_succ])
          refine wpAnyH_done (by kernel_rfl) ?_ _
          refine NoPanic.normal ?_
          go_wp2
          go_roundw
          case rel => exact ⟨k + 1, by omega, by go_num, HN.out, hbl.drew⟩
          case measure => simp [intOf]; omega
        · have he' : ((l[k].toNat : Int) != (m[k].toNat : Int)) = true := by
            rw [bne_iff_ne]
            intro e
            exact he (UInt8.toNat_inj.1 (by omega))
          have HF : Hid (b = false) := by
            show _ = _
            rw [Hb.out]
            exact decide_eq_false (fun e => he (by subst e; rfl))
          clear he
          go_upto_region 6 with fail
          refine wp_region_noPanic ?_
          refine wp_region_held_drew (S := fun W' => W'.cell? ⟨b1, off1 + k, none⟩ = some (.int .u8 (l[k].toNat : Int)) ∧ W'.cell? ⟨b2, off2 + k, none⟩ = some (.int .u8 (m[k].toNat : Int))) (by kernel_rfl) ?_ (fun hHeld => ?_)
          · ((try dsimp only); exact ⟨hc1, hc2⟩)
          (try dsimp only at hHeld)
          refine wpAnyH_take (i := 0) (oi := ⟨some 17, _, _, _, _, _⟩) (v := ?_) rfl (by kernel_rfl) (by kernel_rfl) (by kernel_rfl) (fun _ _ _ h => h) (Or.inl ⟨by rfl, ?_⟩) (by assumption) ?_
          rotate_left
          · (intro w hSw; (try dsimp only at hSw); go_simp; try (with_reducible rfl))
          (try dsimp only); (try simp only [Act.put, List.setIfInBounds_toArray, List.set_cons_zero, List.set_cons_succ])
          refine wpAnyH_take (i := 1) (oi := ⟨some 18, _, _, _, _, _⟩) (v := ?_) rfl (by kernel_rfl) (by kernel_rfl) (by kernel_rfl) (fun _ _ _ h => h) (Or.inl ⟨by rfl, ?_⟩) (by assumption) ?_
          rotate_left
          · (intro w hSw; (try dsimp only at hSw); go_simp; try (with_reducible rfl))
          (try dsimp only); (try simp only [Act.put, List.setIfInBounds_toArray, List.set_cons_zero, List.set_cons_succ])
          refine wpAnyH_take (i := 2) (oi := ⟨some 19, _, _, _, _, _⟩) (v := ?_) rfl (by kernel_rfl) (by kernel_rfl) (by kernel_rfl) (fun _ _ _ h => h) (Or.inl ⟨by rfl, ?_⟩) (by assumption) ?_
          rotate_left
          · (intro w hSw; (try dsimp only at hSw); go_simp; try (with_reducible rfl))
          (try dsimp only); (try simp only [Act.put, List.setIfInBounds_toArray, List.set_cons_zero, List.set_cons_succ])
          refine wpAnyH_take (i := 3) (oi := ⟨some 20, _, _, _, _, _⟩) (v := ?_) rfl (by kernel_rfl) (by kernel_rfl) (by kernel_rfl) (fun _ _ _ h => h) (Or.inl ⟨by rfl, ?_⟩) (by assumption) ?_
          rotate_left
          · (intro w hSw; (try dsimp only at hSw); go_simp; try (with_reducible rfl))
          (try dsimp only); (try simp only [Act.put, List.setIfInBounds_toArray, List.set_cons_zero, List.set_cons_succ])
          refine wpAnyH_take (i := 4) (oi := ⟨some 21, _, _, _, _, _⟩) (v := ?_) rfl (by kernel_rfl) (by kernel_rfl) (by kernel_rfl) (fun _ _ _ h => h) (Or.inl ⟨by rfl, ?_⟩) (by assumption) ?_
          rotate_left
          · (intro w hSw; (try dsimp only at hSw); go_simp; try (with_reducible rfl))
          (try dsimp only); (try simp only [Act.put, List.setIfInBounds_toArray, List.set_cons_zero, List.set_cons_succ])
          refine wpAnyH_take (i := 5) (oi := ⟨some 22, _, _, _, _, _⟩) (v := ?_) rfl (by kernel_rfl) (by kernel_rfl) (by kernel_rfl) (fun _ _ _ h => h) (Or.inl ⟨by rfl, ?_⟩) (by assumption) ?_
          rotate_left
          · (intro w hSw; (try dsimp only at hSw); go_simp; try (with_reducible rfl))
          (try dsimp only); (try simp only [Act.put, List.setIfInBounds_toArray, List.set_cons_zero, List.set_cons_succ])
          refine wpAnyH_take (i := 6) (oi := ⟨some 23, _, _, _, _, _⟩) (v := ?_) rfl (by kernel_rfl) (by kernel_rfl) (by kernel_rfl) (fun _ _ _ h => h) (Or.inl ⟨by rfl, ?_⟩) (by assumption) ?_
          rotate_left
          · (intro w hSw; (try dsimp only at hSw); go_simp; try (with_reducible rfl))
          (try dsimp only); (try simp only [Act.put, List.setIfInBounds_toArray, List.set_cons_zero, List.set_cons_succ])
          refine wpAnyH_take (i := 7) (oi := ⟨some 24, _, _, _, _, _⟩) (v := ?_) rfl (by kernel_rfl) (by kernel_rfl) (by kernel_rfl) (fun _ _ _ h => h) (Or.inl ⟨by rfl, ?_⟩) (by assumption) ?_
          rotate_left
          · (intro w hSw; (try dsimp only at hSw); go_simp; try (with_reducible rfl))
          (try dsimp only); (try simp only [Act.put, List.setIfInBounds_toArray, List.set_cons_zero, List.set_cons_succ])
          refine wpAnyH_take (i := 8) (oi := ⟨some 25, _, _, _, _, _⟩) (v := ?_) rfl (by kernel_rfl) (by kernel_rfl) (by kernel_rfl) (fun _ _ _ h => h) (Or.inl ⟨by rfl, ?_⟩) (by assumption) ?_
          rotate_left
          · (intro w hSw; (try dsimp only at hSw); go_simp; try (with_reducible rfl))
          (try dsimp only); (try simp only [Act.put, List.setIfInBounds_toArray, List.set_cons_zero, List.set_cons_succ])
          refine wpAnyH_done (by kernel_rfl) ?_ _
          refine NoPanic.normal ?_
          go_wp2
          go_ret
          exact ⟨by rw [HF.out]; rfl, hbl.drew⟩
      · have hlt' : ¬ (k : Int) < (n : Int) := by omega
        have HF : Hid (b = true) := by
          show _ = _
          rw [Hb.out]
          exact decide_eq_true (HV.out fun i h h' => HEq.out i h h' (by have := Hn.out; omega))
        go_wp2_with fail
        go_ret
        exact ⟨by rw [HF.out]; rfl, hbl⟩
  · have hb : decide (l = m) = false := decide_eq_false (fun e => hl (by rw [e]))
    have hne : ((l.length : Int) != (m.length : Int)) = true := by rw [bne_iff_ne]; omega
    rw [hb]
    clear hb HA HA'
    generalize l.length = n1 at *
    generalize m.length = n2 at *
    go_enter Try.func34, Try.ntmps34
    go_wp2
    go_ret
    exact ⟨rfl, Below.refl _ _⟩
set_option maxRecDepth 100000 in
theorem num9 (n m : Int) (w : World) : Calls Try.prog 76 #[.int .i64 n, .int .i64 m] w fun e w' => e = .returned (.bool (decide (0 ≤ n) && decide (n ≤ m))) ∧ w' = w := by
  by_cases h : 0 ≤ n
  · have e : decide (0 ≤ n) = true := decide_eq_true h
    rw [e, Bool.true_and]
    go_enter Try.func76, Try.ntmps76
    go_wp2
    go_ret
    exact ⟨rfl, rfl⟩
  · have e : decide (0 ≤ n) = false := decide_eq_false h
    rw [e, Bool.false_and]
    go_enter Try.func76, Try.ntmps76
    go_wp2
    go_ret
    exact ⟨rfl, rfl⟩
theorem lnum (n : Int) (w : World) : Calls Try.prog 26 #[.int .i64 n] w fun e w' => e = .returned (.int .i64 n) ∧ w' = w := by
  go_enter Try.func26, Try.ntmps26
  go_wp2
  go_ret
  exact ⟨rfl, rfl⟩
end Go.Proofs.Ytljhhdpeakencaa
end
section
set_option linter.unusedSimpArgs false
set_option linter.unusedVariables false
namespace Go.Proofs.Ytljhhdpeakencaa
open Go.RowKit

/-! The page's over. -/
theorem splice_take_succ (P : List UInt8) (a : Nat) (bs : List UInt8) (i : Nat) (hi : i < bs.length) (hP : a + bs.length ≤ P.length) : (splice P a (bs.take i)).set (a + i) bs[i] = splice P a (bs.take (i + 1)) := by
  have l1 : (bs.take i).length = i := by simp; omega
  have l2 : (bs.take (i + 1)).length = i + 1 := by simp; omega
  have la : (P.take a).length = a := by simp; omega
  unfold splice
  rw [l1, l2, take_snoc bs i hi]
  rw [List.set_append_right _ _ (by omega), la, List.set_append_right _ _ (by omega), l1]
  have e : a + i - a - i = 0 := by omega
  rw [e]
  have hd : P.drop (a + i) = P[a + i] :: P.drop (a + (i + 1)) := by rw [show a + (i + 1) = a + i + 1 by omega]; exact List.drop_eq_getElem_cons (by omega)
  rw [hd]
  simp only [List.set_cons_zero, List.append_assoc, List.cons_append, List.nil_append]
def lenV : Value → Nat
  | .slice _ n _ => n
  | _ => 0
theorem pad_succ (l : List UInt8) (k : Nat) : (l ++ List.replicate k 0) ++ [0] = l ++ List.replicate (k + 1) (0 : UInt8) := by
  rw [List.append_assoc, List.replicate_succ']
theorem Ow.set9 {w : World} {base g cap n : Nat} {l : List UInt8} (h : Ow w base (.slice (some ⟨g, 0, none⟩) n cap) l) (i : Nat) (x : UInt8) : Ow (w.setCell ⟨g, i, none⟩ (.int .u8 (x.toNat : Int))) base (.slice (some ⟨g, 0, none⟩) n cap) (l.set i x) := by
  rcases h.2 with ⟨h0, _⟩ | ⟨g', cap', cur, hv, hb, hh, h1, h2, h3, h4⟩
  · simp at h0
  · simp at hv
    obtain ⟨rfl, rfl, rfl⟩ := hv
    refine ⟨by simp [bc_length], .inr ⟨g, cap, cur.setIfInBounds i (.int .u8 (x.toNat : Int)), by simp, hb, ?_, by simpa using h1, h2, by simpa using h3, ?_⟩⟩
    · simp [World.setCell, Array.getElem?_modify, hh]
    · rw [Array.toList_setIfInBounds, List.length_set]
      unfold bc
      rw [List.map_set, ← show _ = l.map (fun b => Value.int .u8 b.toNat) from h4, List.take_set]
theorem splice_nil (P : List UInt8) (a : Nat) : splice P a [] = P := by unfold splice; simp
theorem rb_at9 {w : World} {ad : Option Addr} {n cap : Nat} {l : List UInt8} (h : Rb w (.slice ad n cap) l) (i : Nat) (hi : i < l.length) : ∃ b off, ad = some ⟨b, off, none⟩ ∧ w.cell? ⟨b, off + i, none⟩ = some (.int .u8 (l[i].toNat : Int)) := by
  obtain ⟨ad', cap', e, _, _, hc⟩ := h
  simp at e
  obtain ⟨rfl, _, _⟩ := e
  exact hc i hi
theorem Ow.pos9 {w : World} {base : Nat} {ad : Option Addr} {n cap : Nat} {l : List UInt8} (h : Ow w base (.slice ad n cap) l) (hl : 0 < l.length) : ∃ g, ad = some ⟨g, 0, none⟩ ∧ base ≤ g ∧ g < w.heap.size := by
  rcases h.2 with ⟨_, hz⟩ | ⟨g, cap', cur, e, hb, hh, _⟩
  · omega
  · simp at e
    exact ⟨g, e.1, hb, (Array.getElem?_eq_some_iff.1 hh).1⟩
theorem Ow.cell9 {w : World} {base g n cap : Nat} {l : List UInt8} (h : Ow w base (.slice (some ⟨g, 0, none⟩) n cap) l) (i : Nat) (hi : i < l.length) : w.cell? ⟨g, i, none⟩ = some (.int .u8 (l[i].toNat : Int)) := by
  have hn : n = l.length := by
    rcases h.2 with ⟨h0, _⟩ | ⟨g', cap', cur, hv, _⟩
    · simp at h0
    · simp at hv; exact hv.2.1
  subst hn
  rw [World.ownsRow.cellAt h i (by omega)]
  simp [bc, hi]
theorem Ow.frozen9 {w : World} {base g n cap : Nat} {l : List UInt8} (h : Ow w base (.slice (some ⟨g, 0, none⟩) n cap) l) (i : Nat) : w.frozen? ⟨g, i, none⟩ = false := by
  have hn : n = l.length := by
    rcases h.2 with ⟨h0, _⟩ | ⟨g', cap', cur, hv, _⟩
    · simp at h0
    · simp at hv; exact hv.2.1
  subst hn
  exact World.ownsRow.frozenAt h i
set_option maxRecDepth 100000 in
set_option maxHeartbeats 2000000 in
theorem pover (w : World) (v u : Value) (l bs : List UInt8) (a : Nat) (h : Rb w v l) (hb : Rb w u bs) (hl : l.length ≤ 1099511627776) (hab : a + bs.length ≤ 1099511627776) :
    Calls Try.prog 83 #[v, .int .i64 (a : Int), u] w fun e w' => ∃ v', e = .returned v' ∧ Ow w' w.heap.size v' (splice (pad l (a + bs.length)) a bs) ∧ Below w.heap.size w w' := by
  have HB : Hid (Rb w u bs) := hb
  obtain ⟨ba, bcap, rfl, hble, hbm, hbat⟩ := hb
  obtain ⟨i0, hi, hz0, hz1, hz2⟩ := info_of info8
  have HC : Hid (Calls Try.prog 49 #[v] w fun e w' => ∃ u, e = .returned u ∧ Ow w' w.heap.size u l ∧ Below w.heap.size w w') := copyBytes w v l h hl
  have hsum : IntKind.i64.wrap ((a : Int) + (bs.length : Int)) = (a : Int) + (bs.length : Int) := IntWalk.i64_in _ (by omega)
  clear hbat h
  obtain ⟨n, hn⟩ : ∃ n, n = bs.length := ⟨_, rfl⟩
  have Hn : Hid (n = bs.length) := hn
  rw [← hn] at hble hbm hab hsum ⊢
  clear hn
  go_enter Try.func83, Try.ntmps83
  go_wp2_with (go_at_call 49; refine Calls.mono HC.out ?_; rintro e w1 ⟨u1, rfl, ho1, hb1⟩)
  go_loopw [7] (fun m wr => ∃ k : Nat, (k = 0 ∨ l.length + k ≤ a + n) ∧ Ow wr w.heap.size m (l ++ List.replicate k 0) ∧ Below w.heap.size w wr) (fun m _ => a + n - (lenV m))
  case atStart => exact ⟨0, .inl rfl, by simpa using ho1, hb1⟩
  case round =>
    clear ho1 hb1 HC
    obtain ⟨k, hk, hown, hbl⟩ := hrel
    have hsz2 := hbl.size
    have hlen : (l ++ List.replicate k (0 : UInt8)).length = l.length + k := by simp
    obtain ⟨ad, cap, rfl, hcap⟩ := hown.shape
    have HO : Hid (Ow wr w.heap.size (.slice ad (l ++ List.replicate k (0 : UInt8)).length cap) (l ++ List.replicate k 0)) := hown
    rw [hlen] at hcap ⊢
    by_cases hlt : l.length + k < a + n
    · have hlt' : ((l.length + k : Nat) : Int) < (a : Int) + (n : Int) := by omega
      have hown : wr.ownsRow w.heap.size 5 1 (.slice ad (l ++ List.replicate k (0 : UInt8)).length cap) (l ++ List.replicate k (0 : UInt8)).length (bc (l ++ List.replicate k 0)) := hown
      rw [hlen] at hown
      have Hl : Hid ((l ++ List.replicate k (0 : UInt8)).length = l.length + k) := hlen
      obtain ⟨q, hq⟩ : ∃ q, q = l.length + k := ⟨_, rfl⟩
      have Hq : Hid (q = l.length + k) := hq
      rw [← hq] at hown hcap hlt hlt' ⊢
      clear hq hlen
      go_wp2_with (at_builtin; refine wpList_append_own _ rfl _ _ 37 rfl w.heap.size 5 i0 (.int .u8 0) 1 1 Try.underlying37 hi hz0 hz1 hz2 rfl (by decide) _ q _ rfl (hown.alloc _) ⟨wr.heap.size, 0, none⟩ 1 1 [.int .u8 0] rfl rfl (cell_one_new _ _ _) (by simp [Value.oneCell']) (by unfold maxLen; omega) (by omega) (by simp; omega) ?_; intro v1 w1 hown1 hgrow1 hnil1)
      have hown2 : Ow w1 w.heap.size v1 (l ++ List.replicate (k + 1) 0) := by
        unfold Ow
        rw [← pad_succ, bc_append, List.length_append, Hl.out, ← Hq.out]
        exact hown1
      obtain ⟨ad1, cap1, rfl, _⟩ := hown2.shape
      go_roundw
      case rel =>
        exact ⟨k + 1, .inr (by have := Hq.out; omega), hown2, (hbl.alloc hsz2 _).grown hgrow1 (by simp; omega) (fun j hj => (HO.out.ge (by rw [Hl.out, ← Hq.out]; exact hj)).1)⟩
      case measure =>
        have := Hq.out
        simp only [lenV, List.length_append, List.length_replicate]
        omega
    · have hlt' : ¬ ((l.length + k : Nat) : Int) < (a : Int) + (n : Int) := by omega
      have hpad : l ++ List.replicate k (0 : UInt8) = pad l (a + bs.length) := by
        have := Hn.out
        unfold pad
        congr 2
        rcases hk with rfl | hk <;> omega
      have hO2 := HO.out
      rw [hpad, pad_length] at hO2
      have Hlen : Hid (l.length + k = max l.length (a + bs.length)) := by rw [← pad_length, ← hpad, hlen]; rfl
      obtain ⟨q, hq⟩ : ∃ q, q = l.length + k := ⟨_, rfl⟩
      have hO3 : Ow wr w.heap.size (.slice ad q cap) (pad l (a + bs.length)) := by rw [hq, ← hlen]; rw [hpad] ; rw [pad_length]; exact hO2
      have HO3 : Hid (Ow wr w.heap.size (.slice ad q cap) (pad l (a + bs.length)) ∧ q = (pad l (a + bs.length)).length) := ⟨hO3, by rw [hq, pad_length]; exact Hlen.out⟩
      rw [← hq] at hcap hlt' ⊢
      clear hown HO hO2 hO3 hpad hlen hq hk hlt Hlen
      obtain ⟨P, hP⟩ : ∃ P, P = pad l (a + bs.length) := ⟨_, rfl⟩
      have HP : Hid (P = pad l (a + n)) := by show _ = _; rw [hP, Hn.out]
      have hPl : a + bs.length ≤ P.length := by rw [hP, pad_length]; omega
      rw [← hP] at HO3
      clear hP
      go_wp2_with fail
      go_loopw [8] (fun i wq => ∃ j : Nat, j ≤ n ∧ i = .int .i64 (j : Int) ∧ Ow wq w.heap.size (.slice ad q cap) (splice (P) a (bs.take j)) ∧ Below w.heap.size w wq) (fun i _ => n - (intOf i).toNat)
      case atStart => exact ⟨0, by omega, rfl, by rw [List.take_zero, splice_nil]; exact HO3.out.1, hbl⟩
      case round =>
        clear hbl hsz2
        obtain ⟨j, hj, rfl, hown, hbl⟩ := hrel
        by_cases hltj : j < n
        · have hltj' : (j : Int) < (n : Int) := by omega
          have hjb : j < bs.length := by have := Hn.out; omega
          obtain ⟨b', off', eb, hcb⟩ := rb_at9 HB.out j hjb
          subst eb
          have hcb := (hbl.cell (cell_lt hcb)).trans hcb
          have hsl : (splice (P) a (bs.take j)).length = (P).length := length_splice _ _ _ (by simp; omega)
          obtain ⟨g, rfl, hgb, hgl⟩ := hown.pos9 (by rw [hsl]; omega)
          have hq2 := HO3.out.2
          have hnx := hown.set9 (a + j) bs[j]
          rw [splice_take_succ _ a bs j hjb hPl] at hnx
          have HNx : Hid (Ow (wr.setCell ⟨g, a + j, none⟩ (.int .u8 (bs[j].toNat : Int))) w.heap.size (.slice (some ⟨g, 0, none⟩) q cap) (splice (P) a (bs.take (j + 1)))) := hnx
          obtain ⟨cx, hcm⟩ : ∃ cx, wr.cell? ⟨g, a + j, none⟩ = some cx := ⟨_, hown.cell9 (a + j) (by rw [hsl]; omega)⟩
          have hfm := hown.frozen9 (a + j)
          have haj : a + j < q := by have := Hn.out; omega
          have hwr : IntKind.i64.wrap ((a : Int) + (j : Int)) = (a : Int) + (j : Int) := IntWalk.i64_in _ (by omega)
          have hb2 : Below w.heap.size w (wr.setCell ⟨g, a + j, none⟩ (.int .u8 (bs[j].toNat : Int))) := hbl.setCell (p := ⟨g, a + j, none⟩) hgb _
          clear hown hnx hsl hq2
          generalize bs[j] = y at *
          go_wp2_with fail
          go_roundw
          case rel => exact ⟨j + 1, by omega, by go_num, HNx.out, hb2⟩
          case measure => simp [intOf]; omega
        · have hltj' : ¬ (j : Int) < (n : Int) := by omega
          obtain rfl : j = n := by omega
          rw [Hn.out, List.take_length] at hown
          go_wp2_with fail
          go_ret
          exact ⟨.slice ad q cap, rfl, by rw [← HP.out]; exact hown, hbl⟩
end Go.Proofs.Ytljhhdpeakencaa
end
section
set_option linter.unusedSimpArgs false
set_option linter.unusedVariables false
namespace Go.Proofs.Ytljhhdpeakencaa
open Go.RowKit

/-! Sync's steps: what is safe of a file changed; its changes forgotten. -/
theorem DK.safeStep {w w' : World} {O : Nat → Nat} {d i : Nat} {D : Ds} {nv sv cv : Nat → Value} (h : DK w O d D nv sv cv) (hi : i < 8) {sv' : Value} {r : List UInt8}
    (hos : w'.os = w.os) (htp : w'.tape = w.tape) (hout : w'.output = w.output) (hsz : w.heap.size ≤ w'.heap.size) (hblk : Bk w' d (dkc nv (upd sv i sv') cv D.off D.tO D.tF) 98) (hn : Ow w' 0 sv' r) (sn : Sn w (sv i) sv')
    (hk : ∀ k, k < w.heap.size → k ≠ d → some k ≠ (sv i).ownBlock → w'.heap[k]? = w.heap[k]?) :
    ∃ O', DK w' O' d { D with safe := upd D.safe i r } nv (upd sv i sv') cv ∧ Fp O w O' w' := by
  have ne : ∀ b, b < w.heap.size → O b ≠ 26 → O b ≠ 2 * i + 2 → w'.heap[b]? = w.heap[b]? := fun b hb h1 h2 => hk b hb (fun e => h1 (e ▸ h.td)) (fun e => h2 (h.ts i hi b e.symm))
  obtain ⟨O', hO⟩ : ∃ O' : Nat → Nat, O' = fun b => if b < w.heap.size then (if some b = (sv i).ownBlock ∧ sv'.ownBlock ≠ some b then 0 else O b) else if sv'.ownBlock = some b then 2 * i + 2 else 0 := ⟨_, rfl⟩
  have o0 : ∀ b, b < w.heap.size → ¬ (some b = (sv i).ownBlock ∧ sv'.ownBlock ≠ some b) → O' b = O b := fun b hb hn => by rw [hO]; simp only []; rw [if_pos hb, if_neg hn]
  have o1 : ∀ b, b < w.heap.size → O b ≠ 2 * i + 2 → O' b = O b := fun b hb h1 => o0 b hb (fun h3 => h1 (h.ts i hi b h3.1.symm))
  have o2 : ∀ b, O b ≠ 0 → O b ≠ 2 * i + 2 → O' b = O b := fun b hb => o1 b (h.lt b hb)
  refine ⟨O', ⟨hblk, fun j hj => (h.now j hj).same fun b e => ?_, fun j hj => ?_, fun j hj => ?_, fun j hj b e => ?_, fun j hj b e => ?_, fun j hj b e => ?_, ?_, fun b hb => ?_, h.bO, h.bF⟩, ⟨hos, htp, hout, hsz, fun b hb ho => by rw [o1 b hb (by omega)]; exact ho, fun b hb ho => ne b hb (by omega) (by omega), fun k o h1 h2 => ?_⟩⟩
  · have ht := h.tn j hj b e
    exact ne b (h.lt b (by omega)) (by omega) (by omega)
  · by_cases e : j = i
    · subst e; simp only [upd_same]; exact hn
    · simp only [upd_other _ _ e]
      refine (h.safe j hj).same fun b e' => ?_
      have ht := h.ts j hj b e'
      exact ne b (h.lt b (by omega)) (by omega) (by omega)
  · refine (h.chs j hj).same (fun b e' => ?_) (fun b e hb => ⟨ne b hb (by omega) (by omega), by rw [o1 b hb (by omega)]; exact e⟩)
    have ht := h.tc j hj b e'
    exact ne b (h.lt b (by omega)) (by omega) (by omega)
  · have ht := h.tn j hj b e
    rw [o2 b (by omega) (by omega)]; exact ht
  · by_cases e' : j = i
    · subst e'
      simp only [upd_same] at e
      rcases sn with h1 | h1
      · have ht := h.ts j hj b (h1 ▸ e)
        rw [o0 b (h.lt b (by omega)) (fun h3 => h3.2 e)]
        exact ht
      · rw [hO]; simp only []; rw [if_neg (by have := h1 b e; omega), if_pos e]
    · simp only [upd_other _ _ e'] at e
      have ht := h.ts j hj b e
      rw [o2 b (by omega) (by omega)]; exact ht
  · have ht := h.tc j hj b e
    rw [o2 b (by omega) (by omega)]; exact ht
  · have ht := h.td
    rw [o2 d (by omega) (by omega)]; exact ht
  · rw [hO] at hb
    simp only [] at hb
    by_cases e : b < w.heap.size
    · rw [if_pos e] at hb
      by_cases e1 : sv'.ownBlock = some b
      · obtain ⟨c, e2⟩ := hn.bytes b e1; exact ⟨_, e2, rfl⟩
      · by_cases e3 : some b = (sv i).ownBlock ∧ sv'.ownBlock ≠ some b
        · rw [if_pos e3] at hb; exact absurd rfl hb
        · rw [if_neg e3] at hb
          by_cases e4 : b = d
          · subst e4; exact ⟨_, hblk, rfl⟩
          · rw [hk b e e4 (fun e5 => e3 ⟨e5, e1⟩)]
            exact h.cel b hb
    · rw [if_neg e] at hb
      by_cases e1 : sv'.ownBlock = some b
      · obtain ⟨c, e2⟩ := hn.bytes b e1; exact ⟨_, e2, rfl⟩
      · rw [if_neg e1] at hb; exact absurd rfl hb
  · have hkl : k < w.heap.size := (Array.getElem?_eq_some_iff.1 h1).1
    have nc : ∀ c t, w.heap[k]? ≠ some (.cells c t) := fun c t e => by rw [e] at h1; simp at h1; subst h1; simp [Obj.isCells] at h2
    rw [← h1]
    refine hk k hkl (fun e => ?_) (fun e => ?_)
    · subst e; exact nc _ _ h.blk
    · obtain ⟨c, e2⟩ := (h.safe i hi).bytes k e.symm; exact nc _ _ e2
theorem DK.forget {w : World} {O : Nat → Nat} {d i : Nat} {D : Ds} {nv sv cv : Nat → Value} (h : DK w O d D nv sv cv) (hi : i < 8) :
    DK (w.setCell ⟨d, i * 3 + 2, none⟩ (.slice none 0 0)) O d { D with chs := upd D.chs i [] } nv sv (upd cv i (.slice none 0 0)) ∧ Fp O w O (w.setCell ⟨d, i * 3 + 2, none⟩ (.slice none 0 0)) := by
  have ht := Turn.set h.blk (i * 3 + 2) (.slice none 0 0)
  rw [dkc_setC _ _ _ _ _ _ hi] at ht
  have ne : ∀ b, O b ≠ 26 → (w.setCell ⟨d, i * 3 + 2, none⟩ (.slice none 0 0)).heap[b]? = w.heap[b]? := fun b hb => ht.other b (fun e => hb (e ▸ h.td))
  refine ⟨⟨ht.blk, fun i hi => (h.now i hi).same fun b e => ne b (by rw [h.tn i hi b e]; omega), fun i hi => (h.safe i hi).same fun b e => ne b (by rw [h.ts i hi b e]; omega),
   fun j hj => ?_, h.tn, h.ts, fun j hj b e => ?_, h.td, fun b hb => ?_, h.bO, h.bF⟩, Fp.of_turn ht h.blk (by rw [h.td]; omega)⟩
  · by_cases e : j = i
    · subst e; simp only [upd_same]; exact Cv.nil _ _
    · simp only [upd_other _ _ e]
      exact (h.chs j hj).same (fun b e => ne b (by rw [h.tc j hj b e]; omega)) (fun b e _ => ⟨ne b (by rw [e]; omega), e⟩)
  · by_cases e' : j = i
    · subst e'; simp only [upd_same] at e; simp [Value.ownBlock] at e
    · simp only [upd_other _ _ e'] at e; exact h.tc j hj b e
  · by_cases e : b = d
    · subst e; exact ⟨_, ht.blk, rfl⟩
    · rw [ht.other b e]; exact h.cel b hb
/-- A change that may be. -/
def ChB (c : Ch) : Prop := c.pos + c.bs.length ≤ 131072 ∧ (c.cut = false → 0 < c.bs.length)
def fld (cs : List Ch) (r : List UInt8) : List UInt8 := cs.foldl (fun r c => ovr c r) r
theorem fld_le (cs : List Ch) (r : List UInt8) (hr : r.length ≤ 131072) (hc : ∀ c ∈ cs, ChB c) : (fld cs r).length ≤ 131072 := by
  induction cs generalizing r with
  | nil => exact hr
  | cons c cs ih =>
    refine ih (ovr c r) (Nat.le_trans (ovr_le c r) ?_) (fun x hx => hc x (List.mem_cons_of_mem _ hx))
    have := (hc c List.mem_cons_self).1
    omega
theorem fld_snoc (cs : List Ch) (c : Ch) (r : List UInt8) : fld (cs ++ [c]) r = ovr c (fld cs r) := by simp [fld]
/-- The changes of a file, one by one. -/
theorem Cv.at {w : World} {O : Nat → Nat} {v : Value} {l : List Ch} (h : Cv w O v l) (j : Nat) (hj : j < l.length) : ∃ g cap bv, v = .slice (some ⟨g, 0, none⟩) l.length cap ∧ w.cell? ⟨g, j * 3, none⟩ = some (.bool l[j].cut) ∧ w.cell? ⟨g, j * 3 + 1, none⟩ = some (.int .i64 (l[j].pos : Int)) ∧ w.cell? ⟨g, j * 3 + 2, none⟩ = some bv ∧ Ow w 0 bv l[j].bs ∧ (∀ b, bv.ownBlock = some b → O b = 25) := by
  obtain ⟨ps, h1, h2, h3⟩ := h
  have hl : ps.length = l.length := by rw [← h1, List.length_map]
  rcases h2.2 with ⟨_, hz⟩ | ⟨g, cap, cur, rfl, h5⟩
  · omega
  · have hjp : j < ps.length := by omega
    have e : l[j] = ps[j].1 := by subst h1; simp
    have at_ : ∀ t, t < 3 → (ps.flatMap ccells)[j * 3 + t]? = (ccells ps[j])[t]? := fun t ht => by
      have : ∀ (ps : List (Ch × Value)) (j : Nat) (hj : j < ps.length), (ps.flatMap ccells)[j * 3 + t]? = (ccells ps[j])[t]? := by
        intro ps
        induction ps with
        | nil => intro j hj; simp at hj
        | cons p ps ih =>
          intro j hj
          cases j with
          | zero => rw [List.flatMap_cons, Nat.zero_mul, Nat.zero_add, List.getElem?_append_left (by simp [ccells]; omega)]; rfl
          | succ j =>
            rw [List.flatMap_cons, List.getElem?_append_right (by simp [ccells]; omega)]
            have e : (j + 1) * 3 + t - (ccells p).length = j * 3 + t := by simp [ccells]; omega
            rw [e, ih j (by simpa using hj)]
            simp
      exact this ps j hjp
    refine ⟨g, cap, ps[j].2, by rw [hl], ?_, ?_, ?_, by rw [e]; exact (h3 _ (List.getElem_mem hjp)).1, (h3 _ (List.getElem_mem hjp)).2⟩
    · rw [World.ownsRow.cellAt h2 (j * 3) (by omega)]
      have := at_ 0 (by omega)
      rw [Nat.add_zero] at this
      rw [this, e]; rfl
    · rw [World.ownsRow.cellAt h2 (j * 3 + 1) (by omega), at_ 1 (by omega), e]; rfl
    · rw [World.ownsRow.cellAt h2 (j * 3 + 2) (by omega), at_ 2 (by omega)]; rfl
end Go.Proofs.Ytljhhdpeakencaa
end
section
set_option linter.unusedSimpArgs false
set_option linter.unusedVariables false
namespace Go.Proofs.Ytljhhdpeakencaa
open Go.RowKit

/-! change.kept: what a pick keeps of a change. -/
def kpt (c : Ch) (p : Int) : Option Ch := if p = 0 then some c else if c.cut = true ∨ p ≤ 2 then none else some { c with bs := c.bs.take (p - 2).toNat }
def kptV (w : World) (o : Option Ch) (bv : Value) (e : Ending) : Prop := match o with
  | none => e = .returned (.tuple #[.agg #[.bool false, .int .i64 0, .slice none 0 0], .bool false])
  | some c' => ∃ bv', e = .returned (.tuple #[.agg (chc c' bv'), .bool true]) ∧ Ow w 0 bv' c'.bs ∧ bv'.ownBlock = bv.ownBlock
set_option maxRecDepth 100000 in
set_option maxHeartbeats 4000000 in
theorem kept9 (w : World) (c : Ch) (bv : Value) (p : Int) (hb : Ow w 0 bv c.bs) (hl : c.bs.length ≤ 1099511627776) (hp : -9223372036854775808 ≤ p ∧ p ≤ 9223372036854775807) :
    Calls Try.prog 82 #[.agg (chc c bv), .int .i64 p] w fun e w' => kptV w' (kpt c p) bv e ∧ Below w.heap.size w w' := by
  obtain ⟨cut, pos, bs⟩ := c
  obtain ⟨ad, cap, rfl, hle⟩ := hb.shape
  have HB : Hid (Ow w 0 (.slice ad bs.length cap) bs) := hb
  have hble : bs.length ≤ cap := hle
  have hbl : bs.length ≤ 1099511627776 := hl
  clear hb hle hl
  have hNew : ∀ (x y : Array Value) , Bk ((w.alloc (.cells x 109)).alloc (.cells y 109)) (w.heap.size + 1) y 109 := fun x y => Bk.new' _ _ _ (by simp)
  have HNew : Hid _ := hNew
  have hBel : ∀ (x y : Array Value), Below w.heap.size w ((w.alloc (.cells x 109)).alloc (.cells y 109)) := fun x y => ((Below.refl _ w).alloc (Nat.le_refl _) _).alloc (by simp) _
  have HBel : Hid _ := hBel
  clear hNew hBel
  by_cases h0 : p = 0
  · subst h0
    rw [show kpt ⟨cut, pos, bs⟩ 0 = some ⟨cut, pos, bs⟩ from if_pos rfl]
    go_enter Try.func82, Try.ntmps82
    go_wp2
    have hb := HNew.out (chc ⟨cut, pos, bs⟩ (.slice ad bs.length cap)) (chc ⟨cut, pos, bs⟩ (.slice ad bs.length cap))
    have hld := run_loadVar_mid (P := Try.prog) _ (w.heap.size + 1) 0 109 (chc ⟨cut, pos, bs⟩ (.slice ad bs.length cap)).toList _ (range_bk hb) Try.underlying109 rfl infoCh
    refine bodyPost_ret (v := .tuple #[.agg (chc ⟨cut, pos, bs⟩ (.slice ad bs.length cap)), .bool true]) ?_ rfl ⟨⟨_, rfl, HB.out.below (HBel.out _ _) HB.out.lt, rfl⟩, HBel.out _ _⟩
    simp only [results, Try.results82, Act.put]
    simp [asAddr, hld]
  · have hne : (p == 0) = false := by rw [beq_eq_false_iff_ne]; exact h0
    by_cases hc : cut = true ∨ p ≤ 2
    · rw [show kpt ⟨cut, pos, bs⟩ p = none by unfold kpt; rw [if_neg h0, if_pos hc]]
      have hz := HNew.out (chc ⟨cut, pos, bs⟩ (.slice ad bs.length cap)) #[.bool false, .int .i64 0, .slice none 0 0]
      have hld := run_loadVar_mid (P := Try.prog) _ (w.heap.size + 1) 0 109 [.bool false, .int .i64 0, .slice none 0 0] _ (range_bk hz) Try.underlying109 rfl infoCh
      have HLd : Hid _ := hld
      clear hz hld
      cases cut
      · have hp2 : p ≤ 2 := by rcases hc with h | h <;> simp_all
        go_enter Try.func82, Try.ntmps82
        go_wp2
        refine bodyPost_ret (v := .tuple #[.agg #[.bool false, .int .i64 0, .slice none 0 0], .bool false]) ?_ rfl ⟨rfl, HBel.out _ _⟩
        have hld := HLd.out
        simp only [results, Try.results82, Act.put]
        simp [asAddr, hld]
      · clear hc
        go_enter Try.func82, Try.ntmps82
        go_wp2
        refine bodyPost_ret (v := .tuple #[.agg #[.bool false, .int .i64 0, .slice none 0 0], .bool false]) ?_ rfl ⟨rfl, HBel.out _ _⟩
        have hld := HLd.out
        simp only [results, Try.results82, Act.put]
        simp [asAddr, hld]
    · have hcut : cut = false := by cases cut <;> simp_all
      subst hcut
      have hp2 : ¬ p ≤ 2 := fun h => hc (.inr h)
      obtain ⟨k, hk⟩ : ∃ k : Nat, p = (k : Int) + 2 := ⟨(p - 2).toNat, by omega⟩
      subst hk
      rw [show kpt ⟨false, pos, bs⟩ ((k : Int) + 2) = some ⟨false, pos, bs.take k⟩ by unfold kpt; rw [if_neg h0, if_neg hc]; congr 3; omega]
      have hdif : IntKind.i64.wrap ((k : Int) + 2 - 2) = (k : Int) := by rw [IntWalk.i64_in _ (by omega)]; omega
      have hdif2 : IntKind.i64.wrap ((k : Int)) = (k : Int) := by rw [IntWalk.i64_in _ (by omega)]
      obtain ⟨n, hn⟩ : ∃ n, n = min k bs.length := ⟨_, rfl⟩
      have hb2 : Ow w 0 (.slice ad n cap) (bs.take k) := by
        have e : bs.take k = bs.take n := by rw [hn]; simp [List.take_eq_take_iff]
        rw [e]
        exact HB.out.cut n (by omega)
      have hmin : min (k : Int) (bs.length : Int) = (n : Int) := by omega
      have HB2 : Hid (Ow w 0 (.slice ad n cap) (bs.take k)) := hb2
      have hld := run_loadVar_mid (P := Try.prog) _ (w.heap.size + 1) 0 109 [.bool false, .int .i64 (pos : Int), .slice ad n cap] _ (range_bk (HNew.out (chc ⟨false, pos, bs⟩ (.slice ad n cap)) (chc ⟨false, pos, bs⟩ (.slice ad n cap)))) Try.underlying109 rfl infoCh
      have HLd : Hid _ := hld
      clear hb2 hld hc
      have hnc : n ≤ cap := by omega
      clear hdif2
      rcases Nat.lt_trichotomy k bs.length with hlt | heq | hgt
      · obtain rfl : n = k := by omega
        clear hn
        go_enter Try.func82, Try.ntmps82
        go_wp2
        refine bodyPost_ret (v := .tuple #[.agg (chc ⟨false, pos, bs.take n⟩ (.slice ad n cap)), .bool true]) ?_ rfl ⟨⟨_, rfl, HB2.out.below (HBel.out _ _) HB2.out.lt, by cases ad <;> rfl⟩, HBel.out _ _⟩
        have hld := HLd.out
        simp only [results, Try.results82, Act.put]
        simp [asAddr, hld]
      · obtain rfl : n = k := by omega
        clear hn
        subst heq
        go_enter Try.func82, Try.ntmps82
        go_wp2
        refine bodyPost_ret (v := .tuple #[.agg (chc ⟨false, pos, bs⟩ (.slice ad bs.length cap)), .bool true]) ?_ rfl ⟨⟨_, rfl, HB.out.below (HBel.out _ _) HB.out.lt, by cases ad <;> rfl⟩, HBel.out _ _⟩
        have hld := HLd.out
        simp only [results, Try.results82, Act.put]
        simp [asAddr, hld]
      · obtain rfl : n = bs.length := by omega
        clear hn
        go_enter Try.func82, Try.ntmps82
        go_wp2
        refine bodyPost_ret (v := .tuple #[.agg (chc ⟨false, pos, bs.take k⟩ (.slice ad bs.length cap)), .bool true]) ?_ rfl ⟨⟨_, rfl, HB2.out.below (HBel.out _ _) HB2.out.lt, by cases ad <;> rfl⟩, HBel.out _ _⟩
        have hld := HLd.out
        simp only [results, Try.results82, Act.put]
        simp [asAddr, hld]
end Go.Proofs.Ytljhhdpeakencaa
end
section
set_option linter.unusedSimpArgs false
set_option linter.unusedVariables false
namespace Go.Proofs.Ytljhhdpeakencaa
open Go.RowKit

/-! A range over a function whose own variables are written between its yields: what such a sequence promises, and the loop over it.
The caller's word hangs on nothing that was made behind the sequence's beginning. -/
def SeqB {α : Type} (F : Fence) (n : Nat) (P : Program) (g : Nat) (lb : Array Value) (encs : α → Array Value) (Kp : World → World → Prop) (S Sp : List α → Prop) (w : World) : Prop :=
  ∀ (l : Nat) (J Jx : List α → World → Prop) (W : World), Below w.heap.size w W → (∀ s A B, J s A → Below W.heap.size A B → J s B) → (∀ s A B, Jx s A → Below W.heap.size A B → Jx s B) →
    (∀ pre x A, J pre A → YieldAt F (n - 1) P l (encs x) A fun e B => (e = .returned (.bool true) ∧ J (pre ++ [x]) B ∧ Kp A B) ∨ (e = .returned (.bool false) ∧ Jx (pre ++ [x]) B)) →
    J [] W → CallsIn F n P g (#[.func (.yield l) #[] #[]] ++ lb) W fun e B => (∃ v, e = .returned v) ∧ ((∃ xs, S xs ∧ J xs B) ∨ (∃ pre, Sp pre ∧ Jx pre B))
/-- How a round's body may be left. -/
def leftB {α : Type} (B : Nat) (Kp : World → World → Prop) (I : List α → World → Prop) (Ix : Code → List α → World → Prop) (xs : List α) (W : World) : Exit → Act → World → Prop
  | .normal, _, W' => KeepsFrom B W W' ∧ Kp W W' ∧ I xs W'
  | .ret, _, W' => KeepsFrom B W W' ∧ Ix .ret xs W'
  | .exit id, _, W' => KeepsFrom B W W' ∧ Ix (.exit id) xs W'
  | _, _, _ => False
theorem below_put {B l : Nat} (A : World) (o : Obj) (h : B ≤ l) : Below B A (A.putObj l o) :=
  ⟨rfl, rfl, rfl, by simp [World.putObj], fun k hk => World.putObj_heap_other (by omega)⟩
set_option maxHeartbeats 400000 in
theorem wpIn_rangeB {α : Type} {F : Fence} {n : Nat} {P : Program} {g : Operand} {ps : Array Tmp} {assign body : Code} {Q : Exit → Act → World → Prop} {a : Act} {w : World}
    (hro : F.round = none) (h1 : 1 ≤ n) {gf : Nat} {lb : Array Value} (hg : a.eval g = .func (.func gf) #[] lb) (hFg : F.fn gf) (eg : ∀ args w, (callFunc gf args).run P w = .ok (.enter gf args) w)
    {encs : α → Array Value} {Kp : World → World → Prop} {S Sp : List α → Prop} {w0 : World} (hseq : SeqB F (n - 1) P gf lb encs Kp S Sp w0)
    (hKt : ∀ A B C : World, Kp A B → Kp B C → Kp A C) (hKb : ∀ (W : World) (l : Nat) (o o' : Obj), w.heap.size ≤ l → W.heap[l]? = some o → o.isCells = false → Kp W (W.putObj l o')) (hb0 : Below w0.heap.size w0 w) (hps : ∀ x, (encs x).size = ps.size)
    (I : List α → World → Prop) (Ix : Code → List α → World → Prop) (hI : ∀ s A B, I s A → Below w.heap.size A B → I s B) (hIx : ∀ c s A B, Ix c s A → Below w.heap.size A B → Ix c s B) (h0 : I [] w)
    (Ax : α → Act → World → Prop) (hAx : ∀ x a' A l o o', w.heap.size ≤ l → A.heap[l]? = some o → o.isCells = false → Ax x a' A → Ax x a' (A.putObj l o'))
    (hassign : ∀ (l : Nat) (pre : List α) (x : α) (W : World) (K : Act → World → Prop), I pre W → (∀ a' W', KeepsFrom w.heap.size W W' → Kp W W' → I pre W' → Ax x a' W' → K a' W') →
      assign.wpIn (F.inRound l) (n - 1 - 1) P (Exit.then K (fun _ _ _ => False)) { tmps := (ps.zip (encs x)).foldl (fun t (p, v) => t.setIfInBounds p v) a.tmps, defers := [] } W)
    (hbody : ∀ (l : Nat) (pre : List α) (x : α) (a' : Act) (W : World), I pre W → Ax x a' W → body.wpIn (F.inRound l) (n - 1 - 1) P (leftB w.heap.size Kp I Ix (pre ++ [x]) W) a' W)
    (hdone : ∀ (D : Nat) (xs : List α) (W : World), w.heap.size ≤ D → S xs → I xs W → W.heap[D]? = some (.deferred (some [])) → Q .normal { a with defers := { target := .collected D, args := #[] } :: a.defers } W)
    (hstop : ∀ (D : Nat) (c : Code) (pre : List α) (W : World), w.heap.size ≤ D → Sp pre → Ix c pre W → W.heap[D]? = some (.deferred (some [])) → c.wpIn F n P Q { a with defers := { target := .collected D, args := #[] } :: a.defers } W) :
    (Code.rangeFunc g ps assign body).wpIn F n P Q a w := by
  refine wpIn_rangeFunc fun fn hfn => ?_
  rw [hro]
  obtain ⟨R, hR⟩ : ∃ R : LoopState → Option Code → Loop, R = fun st pe => { state := st, pending := pe, fn, tmps := a.tmps, params := ps, assign, body, defers := w.heap.size } := ⟨_, rfl⟩
  obtain ⟨W1, hW1⟩ : ∃ W1, W1 = (w.alloc (.deferred (some []))).alloc (.loop (R .ready none)) := ⟨_, rfl⟩
  have hz : W1.heap.size = w.heap.size + 2 := by rw [hW1]; simp
  have hbw : Below w.heap.size w W1 := by rw [hW1]; exact ((Below.refl _ w).alloc (Nat.le_refl _) _).alloc (by simp) _
  have hl1 : W1.heap[w.heap.size + 1]? = some (.loop (R .ready none)) := by
    have := World.alloc_heap_new (w.alloc (.deferred (some []))) (.loop (R .ready none))
    rw [World.size_alloc] at this
    rw [hW1]; exact this
  have hd1 : W1.heap[w.heap.size]? = some (.deferred (some [])) := by
    rw [hW1]; exact (Below.heap_alloc _ _ _ (by simp)).trans (World.alloc_heap_new w _)
  refine ⟨w.heap.size + 1, [{ target := .collected w.heap.size, args := #[] }], W1, { target := .fn (.func gf) lb, args := #[.func (.yield (w.heap.size + 1)) #[] #[]] }, W1, gf, #[.func (.yield (w.heap.size + 1)) #[] #[]] ++ lb, W1, ?_, ?_, ?_, ?_, fun _ => h1, ?_⟩
  · rw [hW1, hR]; exact run_enterLoop_outer _ _ _ _ _
  · simp only [resolve, hg]; simp [go_sem]
  · intro f hf
    simp [Target.leads] at hf
    subst hf; exact hFg
  · simp [invoke, go_sem, eg]
  have same : ∀ {A B : World} {k : Nat}, Below W1.heap.size A B → k < w.heap.size + 2 → B.heap[k]? = A.heap[k]? := fun h hk => h.block _ (by omega)
  refine (hseq (w.heap.size + 1) (fun pre W => I pre W ∧ W.heap[w.heap.size + 1]? = some (.loop (R .ready none)) ∧ W.heap[w.heap.size]? = some (.deferred (some [])))
    (fun pre W => ∃ c, Ix c pre W ∧ W.heap[w.heap.size + 1]? = some (.loop (R .done (some c))) ∧ W.heap[w.heap.size]? = some (.deferred (some []))) W1 (hb0.trans (hbw.mono hb0.size))
    (fun s A B h hb => ⟨hI s A B h.1 (hb.mono (by omega)), (same hb (by omega)).trans h.2.1, (same hb (by omega)).trans h.2.2⟩)
    (fun s A B h hb => by
      obtain ⟨c, h1, h2, h3⟩ := h
      exact ⟨c, hIx c s A B h1 (hb.mono (by omega)), (same hb (by omega)).trans h2, (same hb (by omega)).trans h3⟩)
    ?_ ⟨hI _ _ _ h0 hbw, hl1, hd1⟩).mono ?_
  · rintro pre x W ⟨hi, hl, hd⟩
    have hy := run_yield (P := P) (args := encs x) hl (by rw [hR]; exact hps x)
    rw [hR] at hy
    refine ⟨fn, _, assign, body, hy, roundIn_of_wpIn hfn (hassign _ pre x W _ hi fun a' W' hk' hkp' hi' hax => ?_)⟩
    have hl' := hk'.same _ _ (by omega) hl rfl
    have hd' := hk'.same _ _ (Nat.le_refl _) hd rfl
    refine ⟨_, run_beginRound hl' (by rw [hR]), ?_⟩
    have hlt' : w.heap.size + 1 < W'.heap.size := (Array.getElem?_eq_some_iff.1 hl').1
    obtain ⟨W2, hW2⟩ : ∃ W2, W2 = W'.putObj (w.heap.size + 1) (.loop { R .ready none with state := .busy }) := ⟨_, rfl⟩
    rw [← hW2]
    have hl2 : W2.heap[w.heap.size + 1]? = some (.loop { R .ready none with state := .busy }) := by rw [hW2]; exact World.putObj_heap_same hlt'
    have hd2 : W2.heap[w.heap.size]? = some (.deferred (some [])) := by rw [hW2]; exact (World.putObj_heap_other (by omega)).trans hd'
    have hk2 : Kp W W2 := by rw [hW2]; exact hKt _ _ _ hkp' (hKb _ _ _ _ (by omega) hl' rfl)
    have hi2 : I pre W2 := by rw [hW2]; exact hI _ _ _ hi' (below_put _ _ (by omega))
    have ha2 : Ax x a' W2 := by rw [hW2]; exact hAx _ _ _ _ _ _ (by omega) hl' rfl hax
    clear hW2
    refine wpIn_mono (hbody _ pre x a' W2 hi2 ha2) ?_
    have fin : ∀ (j : Option Code) (W3 : World), KeepsFrom w.heap.size W2 W3 →
        ∃ W4, W4 = W3.putObj (w.heap.size + 1) (.loop (R (if j.isNone then .ready else .done) j)) ∧ (Instr.endRound (w.heap.size + 1) j).run P W3 = .ok (.bool j.isNone) W4 ∧ W4.heap[w.heap.size + 1]? = some (.loop (R (if j.isNone then .ready else .done) j)) ∧
          W4.heap[w.heap.size]? = some (.deferred (some [])) ∧ Below w.heap.size W3 W4 ∧ (Kp W2 W3 → Kp W2 W4) := fun j W3 h => by
      have hl3 := h.same _ _ (by omega) hl2 rfl
      have hr := run_endRound (P := P) j hl3
      rw [hR] at hr
      refine ⟨_, rfl, ?_, World.putObj_heap_same (Array.getElem?_eq_some_iff.1 hl3).1, (World.putObj_heap_other (by omega)).trans (h.same _ _ (Nat.le_refl _) hd2 rfl), below_put _ _ (by omega), fun hk => hKt _ _ _ hk (hKb _ _ _ _ (by omega) hl3 rfl)⟩
      rw [hR]; exact hr
    rintro e a3 W3 hp
    cases e with
    | normal =>
      obtain ⟨hk3, hkp3, hi3⟩ := hp
      obtain ⟨W4, _, hr, hl4, hd4, hb4, hkp4⟩ := fin none W3 hk3
      exact ⟨_, _, hr, .inl ⟨rfl, ⟨hI _ _ _ hi3 hb4, hl4, hd4⟩, hKt _ _ _ hk2 (hkp4 hkp3)⟩⟩
    | ret =>
      obtain ⟨hk3, hi3⟩ := hp
      obtain ⟨W4, _, hr, hl4, hd4, hb4, _⟩ := fin (some .ret) W3 hk3
      exact ⟨_, _, hr, .inr ⟨rfl, .ret, hIx _ _ _ _ hi3 hb4, hl4, hd4⟩⟩
    | exit id =>
      obtain ⟨hk3, hi3⟩ := hp
      obtain ⟨W4, _, hr, hl4, hd4, hb4, _⟩ := fin (some (.exit id)) W3 hk3
      exact ⟨_, _, hr, .inr ⟨rfl, .exit id, hIx _ _ _ _ hi3 hb4, hl4, hd4⟩⟩
    | goto t => exact False.elim hp
    | panic ch => exact False.elim hp
    | outgrown => exact False.elim hp
  · rintro e W2 ⟨⟨v, rfl⟩, (⟨xs, hS, hi, hl, hd⟩ | ⟨pre, hSp, c, hi, hl, hd⟩)⟩
    · have he := run_endLoop (P := P) hl (by rw [hR]; simp)
      rw [hR] at he
      exact ⟨none, _, he, hdone _ xs _ (Nat.le_refl _) hS (hI _ _ _ hi (below_put _ _ (by omega))) ((World.putObj_heap_other (by omega)).trans hd)⟩
    · have he := run_endLoop (P := P) hl (by rw [hR]; simp)
      rw [hR] at he
      exact ⟨some c, _, he, hstop _ c pre _ (Nat.le_refl _) hSp (hIx _ _ _ _ hi (below_put _ _ (by omega))) ((World.putObj_heap_other (by omega)).trans hd)⟩
/-- What a round keeps: all blocks of cells but two. -/
def KpX (o p : Nat) (A B : World) : Prop := ∀ b vs t, b ≠ o → b ≠ p → Bk A b vs t → Bk B b vs t
theorem KpX.trans {o p : Nat} (A B C : World) (h : KpX o p A B) (k : KpX o p B C) : KpX o p A C := fun b vs t h1 h2 h3 => k b vs t h1 h2 (h b vs t h1 h2 h3)
theorem kf_below {B : Nat} {W W' : World} (h : Below W.heap.size W W') : KeepsFrom B W W' := ⟨h.size, fun k o _ hk _ => (h.block k (Array.getElem?_eq_some_iff.1 hk).1).trans hk⟩
theorem kpx_put {o p : Nat} (W : World) (l : Nat) (x x' : Obj) (h : W.heap[l]? = some x) (hc : x.isCells = false) : KpX o p W (W.putObj l x') := by
  intro b vs t _ _ hb
  have hne : b ≠ l := by
    intro e
    subst e
    rw [show W.heap[b]? = _ from hb] at h
    simp at h
    subst h
    simp [Obj.isCells] at hc
  exact (World.putObj_heap_other hne).trans hb
theorem bk_put {W : World} {b l : Nat} {vs : Array Value} {t : TypeId} {x x' : Obj} (hb : Bk W b vs t) (h : W.heap[l]? = some x) (hc : x.isCells = false) : Bk (W.putObj l x') b vs t :=
  kpx_put (o := b + 1) (p := b + 1) W l x x' h hc b vs t (by omega) (by omega) hb
end Go.Proofs.Ytljhhdpeakencaa
end
section
set_option linter.unusedSimpArgs false
set_option linter.unusedVariables false
namespace Go.Proofs.Ytljhhdpeakencaa
open Go.RowKit

/-! A range over a function that only makes memory between its yields, and tells of what it made: what such a sequence promises, and the loop over it. -/
def SeqA {α : Type} (F : Fence) (n : Nat) (P : Program) (g : Nat) (lb : Array Value) (encs : α → Array Value) (Kp : World → World → Prop) (Gd : Nat → List α → α → World → Prop) (S Sp : List α → Prop) (w : World) : Prop :=
  ∀ (l : Nat) (J Jx : List α → World → Prop) (W : World), Below w.heap.size w W → (∀ s A B, J s A → Below A.heap.size A B → J s B) → (∀ s A B, Jx s A → Below A.heap.size A B → Jx s B) →
    (∀ pre x A0 A, J pre A0 → Below A0.heap.size A0 A → Gd A0.heap.size pre x A → YieldAt F (n - 1) P l (encs x) A fun e B => (e = .returned (.bool true) ∧ J (pre ++ [x]) B ∧ Kp A B) ∨ (e = .returned (.bool false) ∧ Jx (pre ++ [x]) B)) →
    J [] W → CallsIn F n P g (#[.func (.yield l) #[] #[]] ++ lb) W fun e B => (∃ v, e = .returned v) ∧ ((∃ xs, S xs ∧ J xs B) ∨ (∃ pre, Sp pre ∧ Jx pre B))
set_option maxHeartbeats 400000 in
theorem wpIn_rangeA {α : Type} {F : Fence} {n : Nat} {P : Program} {g : Operand} {ps : Array Tmp} {assign body : Code} {Q : Exit → Act → World → Prop} {a : Act} {w : World}
    (hro : F.round = none) (h1 : 1 ≤ n) {gf : Nat} {lb : Array Value} (hg : a.eval g = .func (.func gf) #[] lb) (hFg : F.fn gf) (eg : ∀ args w, (callFunc gf args).run P w = .ok (.enter gf args) w)
    {encs : α → Array Value} {Kp : World → World → Prop} {Gd : Nat → List α → α → World → Prop} {S Sp : List α → Prop} {w0 : World} (hseq : SeqA F (n - 1) P gf lb encs Kp Gd S Sp w0)
    (hKt : ∀ A B C : World, Kp A B → Kp B C → Kp A C) (hKb : ∀ (W : World) (l : Nat) (o o' : Obj), w.heap.size ≤ l → W.heap[l]? = some o → o.isCells = false → Kp W (W.putObj l o')) (hb0 : Below w0.heap.size w0 w) (hps : ∀ x, (encs x).size = ps.size)
    (I : List α → World → Prop) (Ix : Code → List α → World → Prop) (hI : ∀ s A B, I s A → Below A.heap.size A B → I s B) (hIx : ∀ c s A B, Ix c s A → Below A.heap.size A B → Ix c s B)
    (hIp : ∀ s A l o o', w.heap.size ≤ l → A.heap[l]? = some o → o.isCells = false → I s A → I s (A.putObj l o')) (hIxp : ∀ c s A l o o', w.heap.size ≤ l → A.heap[l]? = some o → o.isCells = false → Ix c s A → Ix c s (A.putObj l o')) (h0 : I [] w)
    (Ax : α → Act → World → Prop) (hAx : ∀ x a' A l o o', w.heap.size ≤ l → A.heap[l]? = some o → o.isCells = false → Ax x a' A → Ax x a' (A.putObj l o'))
    (hassign : ∀ (l : Nat) (pre : List α) (x : α) (A0 W : World) (K : Act → World → Prop), I pre A0 → Below A0.heap.size A0 W → Gd A0.heap.size pre x W → I pre W → (∀ a' W', KeepsFrom w.heap.size W W' → Kp W W' → I pre W' → Ax x a' W' → K a' W') →
      assign.wpIn (F.inRound l) (n - 1 - 1) P (Exit.then K (fun _ _ _ => False)) { tmps := (ps.zip (encs x)).foldl (fun t (p, v) => t.setIfInBounds p v) a.tmps, defers := [] } W)
    (hbody : ∀ (l : Nat) (pre : List α) (x : α) (a' : Act) (W : World), I pre W → Ax x a' W → body.wpIn (F.inRound l) (n - 1 - 1) P (leftB w.heap.size Kp I Ix (pre ++ [x]) W) a' W)
    (hdone : ∀ (D : Nat) (xs : List α) (W : World), w.heap.size ≤ D → S xs → I xs W → W.heap[D]? = some (.deferred (some [])) → Q .normal { a with defers := { target := .collected D, args := #[] } :: a.defers } W)
    (hstop : ∀ (D : Nat) (c : Code) (pre : List α) (W : World), w.heap.size ≤ D → Sp pre → Ix c pre W → W.heap[D]? = some (.deferred (some [])) → c.wpIn F n P Q { a with defers := { target := .collected D, args := #[] } :: a.defers } W) :
    (Code.rangeFunc g ps assign body).wpIn F n P Q a w := by
  refine wpIn_rangeFunc fun fn hfn => ?_
  rw [hro]
  obtain ⟨R, hR⟩ : ∃ R : LoopState → Option Code → Loop, R = fun st pe => { state := st, pending := pe, fn, tmps := a.tmps, params := ps, assign, body, defers := w.heap.size } := ⟨_, rfl⟩
  obtain ⟨W1, hW1⟩ : ∃ W1, W1 = (w.alloc (.deferred (some []))).alloc (.loop (R .ready none)) := ⟨_, rfl⟩
  have hz : W1.heap.size = w.heap.size + 2 := by rw [hW1]; simp
  have hbw : Below w.heap.size w W1 := by rw [hW1]; exact ((Below.refl _ w).alloc (Nat.le_refl _) _).alloc (by simp) _
  have hl1 : W1.heap[w.heap.size + 1]? = some (.loop (R .ready none)) := by
    have := World.alloc_heap_new (w.alloc (.deferred (some []))) (.loop (R .ready none))
    rw [World.size_alloc] at this
    rw [hW1]; exact this
  have hd1 : W1.heap[w.heap.size]? = some (.deferred (some [])) := by
    rw [hW1]; exact (Below.heap_alloc _ _ _ (by simp)).trans (World.alloc_heap_new w _)
  refine ⟨w.heap.size + 1, [{ target := .collected w.heap.size, args := #[] }], W1, { target := .fn (.func gf) lb, args := #[.func (.yield (w.heap.size + 1)) #[] #[]] }, W1, gf, #[.func (.yield (w.heap.size + 1)) #[] #[]] ++ lb, W1, ?_, ?_, ?_, ?_, fun _ => h1, ?_⟩
  · rw [hW1, hR]; exact run_enterLoop_outer _ _ _ _ _
  · simp only [resolve, hg]; simp [go_sem]
  · intro f hf
    simp [Target.leads] at hf
    subst hf; exact hFg
  · simp [invoke, go_sem, eg]
  have same : ∀ {A B : World} {k : Nat} {o : Obj}, Below A.heap.size A B → A.heap[k]? = some o → B.heap[k]? = some o := fun h hk => (h.block _ (Array.getElem?_eq_some_iff.1 hk).1).trans hk
  refine (hseq (w.heap.size + 1) (fun pre W => I pre W ∧ W.heap[w.heap.size + 1]? = some (.loop (R .ready none)) ∧ W.heap[w.heap.size]? = some (.deferred (some [])))
    (fun pre W => ∃ c, Ix c pre W ∧ W.heap[w.heap.size + 1]? = some (.loop (R .done (some c))) ∧ W.heap[w.heap.size]? = some (.deferred (some []))) W1 (hb0.trans (hbw.mono hb0.size))
    (fun s A B h hb => ⟨hI s A B h.1 hb, same hb h.2.1, same hb h.2.2⟩)
    (fun s A B h hb => by
      obtain ⟨c, h1, h2, h3⟩ := h
      exact ⟨c, hIx c s A B h1 hb, same hb h2, same hb h3⟩)
    ?_ ⟨hI _ _ _ h0 hbw, hl1, hd1⟩).mono ?_
  · rintro pre x A0 W ⟨hi0, hl0, hd0⟩ hbA hGd
    have hi := hI _ _ _ hi0 hbA
    have hl := same hbA hl0
    have hd := same hbA hd0
    have hy := run_yield (P := P) (args := encs x) hl (by rw [hR]; exact hps x)
    rw [hR] at hy
    refine ⟨fn, _, assign, body, hy, roundIn_of_wpIn hfn (hassign _ pre x A0 W _ hi0 hbA hGd hi fun a' W' hk' hkp' hi' hax => ?_)⟩
    have hl' := hk'.same _ _ (by omega) hl rfl
    have hd' := hk'.same _ _ (Nat.le_refl _) hd rfl
    refine ⟨_, run_beginRound hl' (by rw [hR]), ?_⟩
    have hlt' : w.heap.size + 1 < W'.heap.size := (Array.getElem?_eq_some_iff.1 hl').1
    obtain ⟨W2, hW2⟩ : ∃ W2, W2 = W'.putObj (w.heap.size + 1) (.loop { R .ready none with state := .busy }) := ⟨_, rfl⟩
    rw [← hW2]
    have hl2 : W2.heap[w.heap.size + 1]? = some (.loop { R .ready none with state := .busy }) := by rw [hW2]; exact World.putObj_heap_same hlt'
    have hd2 : W2.heap[w.heap.size]? = some (.deferred (some [])) := by rw [hW2]; exact (World.putObj_heap_other (by omega)).trans hd'
    have hk2 : Kp W W2 := by rw [hW2]; exact hKt _ _ _ hkp' (hKb _ _ _ _ (by omega) hl' rfl)
    have hi2 : I pre W2 := by rw [hW2]; exact hIp _ _ _ _ _ (by omega) hl' rfl hi'
    have ha2 : Ax x a' W2 := by rw [hW2]; exact hAx _ _ _ _ _ _ (by omega) hl' rfl hax
    clear hW2
    refine wpIn_mono (hbody _ pre x a' W2 hi2 ha2) ?_
    have fin : ∀ (j : Option Code) (W3 : World), KeepsFrom w.heap.size W2 W3 →
        ∃ W4, W4 = W3.putObj (w.heap.size + 1) (.loop (R (if j.isNone then .ready else .done) j)) ∧ (Instr.endRound (w.heap.size + 1) j).run P W3 = .ok (.bool j.isNone) W4 ∧ W4.heap[w.heap.size + 1]? = some (.loop (R (if j.isNone then .ready else .done) j)) ∧
          W4.heap[w.heap.size]? = some (.deferred (some [])) ∧ ((∀ s, I s W3 → I s W4) ∧ (∀ c s, Ix c s W3 → Ix c s W4)) ∧ (Kp W2 W3 → Kp W2 W4) := fun j W3 h => by
      have hl3 := h.same _ _ (by omega) hl2 rfl
      have hr := run_endRound (P := P) j hl3
      rw [hR] at hr
      refine ⟨_, rfl, ?_, World.putObj_heap_same (Array.getElem?_eq_some_iff.1 hl3).1, (World.putObj_heap_other (by omega)).trans (h.same _ _ (Nat.le_refl _) hd2 rfl), ⟨fun s hs => hIp _ _ _ _ _ (by omega) hl3 rfl hs, fun c s hs => hIxp _ _ _ _ _ _ (by omega) hl3 rfl hs⟩, fun hk => hKt _ _ _ hk (hKb _ _ _ _ (by omega) hl3 rfl)⟩
      rw [hR]; exact hr
    rintro e a3 W3 hp
    cases e with
    | normal =>
      obtain ⟨hk3, hkp3, hi3⟩ := hp
      obtain ⟨W4, _, hr, hl4, hd4, hb4, hkp4⟩ := fin none W3 hk3
      exact ⟨_, _, hr, .inl ⟨rfl, ⟨hb4.1 _ hi3, hl4, hd4⟩, hKt _ _ _ hk2 (hkp4 hkp3)⟩⟩
    | ret =>
      obtain ⟨hk3, hi3⟩ := hp
      obtain ⟨W4, _, hr, hl4, hd4, hb4, _⟩ := fin (some .ret) W3 hk3
      exact ⟨_, _, hr, .inr ⟨rfl, .ret, hb4.2 _ _ hi3, hl4, hd4⟩⟩
    | exit id =>
      obtain ⟨hk3, hi3⟩ := hp
      obtain ⟨W4, _, hr, hl4, hd4, hb4, _⟩ := fin (some (.exit id)) W3 hk3
      exact ⟨_, _, hr, .inr ⟨rfl, .exit id, hb4.2 _ _ hi3, hl4, hd4⟩⟩
    | goto t => exact False.elim hp
    | panic ch => exact False.elim hp
    | outgrown => exact False.elim hp
  · rintro e W2 ⟨⟨v, rfl⟩, (⟨xs, hS, hi, hl, hd⟩ | ⟨pre, hSp, c, hi, hl, hd⟩)⟩
    · have he := run_endLoop (P := P) hl (by rw [hR]; simp)
      rw [hR] at he
      exact ⟨none, _, he, hdone _ xs _ (Nat.le_refl _) hS (hIp _ _ _ _ _ (by omega) hl rfl hi) ((World.putObj_heap_other (by omega)).trans hd)⟩
    · have he := run_endLoop (P := P) hl (by rw [hR]; simp)
      rw [hR] at he
      exact ⟨some c, _, he, hstop _ c pre _ (Nat.le_refl _) hSp (hIxp _ _ _ _ _ _ (by omega) hl rfl hi) ((World.putObj_heap_other (by omega)).trans hd)⟩
end Go.Proofs.Ytljhhdpeakencaa
end

import Derived.Test.YtliaegnhnnnojaaAsk4
import Derived.Test.YtliaegnhnnnojaaHvyU
import Derived.Test.YtliaegnhnnnojaaEGt
import Derived.Test.YtliaegnhnnnojaaFrm5
import Derived.Deep.RegionHeld3
set_option linter.unusedSimpArgs false
set_option linter.unusedVariables false
namespace Go.Proofs.Ytliaegnhnnnojaa
open Go.RowKit

/-! tarnlaw4.ItemEach, walked. -/
theorem Rd.take {w : World} {n : Nat} {xs : List IT} {ad : Option Addr} {l c : Nat} (h : Rd w n xs (.slice ad l c)) (k : Nat) (hk : k ≤ xs.length) (c' : Nat) : Rd w n (xs.take k) (.slice ad k c') := by
  cases n with
  | zero => exact h.elim
  | succ n =>
    obtain ⟨hl, ad', cap, hv, h⟩ := h
    injection hv with e1 e2 e3
    subst e1
    have hlen : (xs.take k).length = k := by rw [List.length_take]; omega
    refine ⟨by rw [hlen]; omega, ad, c', by rw [hlen], fun i hi => ?_⟩
    obtain ⟨b, off, ha, sv, h0, h1, h2, h3, h4⟩ := h i (by omega)
    refine ⟨b, off, ha, sv, ?_, ?_, h2, h3, ?_⟩
    · rw [List.getElem_take]; exact h0
    · rw [List.getElem_take]; exact h1
    · rw [List.getElem_take]; exact h4
theorem Rd.drew {w : World} {n : Nat} {xs : List IT} {v : Value} (h : Rd w n xs v) : Rd w.drew n xs v := h.below ((Below.refl _ w).drew)
def JX (X : Nat) (l : Bool) (t : ByteArray) (sv : Value) (w0 w' : World) : Prop := w'.cell? ⟨X, 0, none⟩ = some (.bool l) ∧ w'.cell? ⟨X, 1, none⟩ = some (.string t) ∧ w'.cell? ⟨X, 2, none⟩ = some sv ∧ Below w0.heap.size w0 w'
theorem JX.below {X : Nat} {l : Bool} {t : ByteArray} {sv : Value} {w0 w w' : World} (h : JX X l t sv w0 w) (hb : Below w.heap.size w w') : JX X l t sv w0 w' := by
  obtain ⟨h0, h1, h2, hB⟩ := h
  exact ⟨(hb.cell (cell_lt' h0)).trans h0, (hb.cell (cell_lt' h1)).trans h1, (hb.cell (cell_lt' h2)).trans h2, hB.trans (hb.mono hB.size)⟩
theorem JX.drew {X : Nat} {l : Bool} {t : ByteArray} {sv : Value} {w0 w : World} (h : JX X l t sv w0 w) : JX X l t sv w0 w.drew := h.below ((Below.refl _ w).drew)
theorem JX.bel {X : Nat} {l : Bool} {t : ByteArray} {sv : Value} {w0 w : World} (h : JX X l t sv w0 w) : Below w0.heap.size w0 w := h.2.2.2
theorem eqsSame (n m : Nat) (xs : List IT) (va vb : Value) (w : World) (h1 : Rd w n xs va) (h2 : Rd w m xs vb) :
    Calls Try.prog 20 #[va, vb] w fun e w' => e = .returned (.bool true) ∧ Below w.heap.size w w' := by
  refine (eqItems n m xs xs va vb w h1 h2).mono ?_
  rintro e w' ⟨⟨d, rfl, hd⟩, hB⟩
  exact ⟨by rw [hd.2 rfl], hB⟩
set_option maxRecDepth 100000 in
set_option maxHeartbeats 4000000 in
theorem itemEach_walk (n : Nat) (v : Value) (qs : List Q4) (w : World) (hq : Sq w n v qs) (hs : Small qs) (hcp : Cap4 w v) :
    Calls Try.prog 5 #[v] w fun e w' => e = .returned (.bool true) ∧ Below w.heap.size w w' := by
  obtain ⟨hlen, ad, cap, rfl, hat⟩ := hq
  have HA : Hid (∀ i (hi : i < qs.length), ∃ b off, ad = some ⟨b, off, none⟩ ∧ ∃ a l c, w.cell? ⟨b, off + i * 4, none⟩ = some (.bool qs[i].it.list) ∧ w.cell? ⟨b, off + i * 4 + 1, none⟩ = some (.string qs[i].it.text) ∧ w.cell? ⟨b, off + i * 4 + 2, none⟩ = some (.slice a l c) ∧ w.cell? ⟨b, off + i * 4 + 3, none⟩ = some (.string qs[i].s) ∧ Rd w n qs[i].it.items (.slice a l c)) := hat
  have HS : Hid (∀ i (hi : i < qs.length), qs[i].it.wt ≤ 1048576) := fun i hi => (hs qs[i] (List.getElem_mem hi)).1
  have HCp : Hid (Cap4 w (.slice ad qs.length cap)) := hcp
  clear hat hs hcp
  go_enter Try.func5, Try.ntmps5
  go_wp2_with fail
  go_loopw [3] (fun i wr => ∃ k : Nat, k ≤ qs.length ∧ k ≤ 6 ∧ i = .int .i64 k ∧ Below w.heap.size w wr) (fun i _ => qs.length - (intOf i).toNat)
  case atStart => exact ⟨0, by omega, by omega, rfl, Below.refl _ _⟩
  case round =>
    obtain ⟨k, hk, hk6, rfl, hbo⟩ := hrel
    have hszo := hbo.size
    by_cases hlt : k < qs.length
    · have hlt' : (k : Int) < (qs.length : Int) := by omega
      by_cases h6 : k < 6
      · have h6' : (k : Int) < 6 := by omega
        obtain ⟨b, off, rfl, s0, s1, s2, c0, c1, c2, c3, hrd⟩ := HA.out k hlt
        have hbW0 : b < w.heap.size := cell_lt' c0
        have hroom : s1 ≤ s2 := HCp.out b off _ _ rfl k hlt s0 s1 s2 c2
        have c0 := (hbo.cell (cell_lt' c0)).trans c0
        have c1 := (hbo.cell (cell_lt' c1)).trans c1
        have c2 := (hbo.cell (cell_lt' c2)).trans c2
        have c3 := (hbo.cell (cell_lt' c3)).trans c3
        have hrd := hrd.below hbo
        have hwt := HS.out k hlt
        generalize qs[k].it = a at *
        generalize qs[k].s = S at *
        have HRd : Hid (Rd wr n a.items (.slice s0 s1 s2)) := hrd
        clear hrd
        go_wp2_with fail
        refine (heavyU n a s0 s1 s2 S _ HRd.out).mono ?_
        rintro e w1 ⟨⟨hv, rfl, hhv⟩, hb1⟩
        cases hv with
        | true =>
          go_wp2_with fail
          go_ret
          exact ⟨rfl, hbo.trans (hb1.mono hszo)⟩
        | false =>
          have hb1a := hb1.alloc hb1.size (.cells #[.bool a.list, .string a.text, .slice s0 s1 s2] 26)
          have c0 := (hb1.cell (cell_lt' c0)).trans c0
          have c1 := (hb1.cell (cell_lt' c1)).trans c1
          have c2 := (hb1.cell (cell_lt' c2)).trans c2
          have bX := Bk.new w1 #[.bool a.list, .string a.text, .slice s0 s1 s2] 26
          obtain ⟨W, hW⟩ : ∃ W, W = w1.alloc (.cells #[.bool a.list, .string a.text, .slice s0 s1 s2] 26) := ⟨_, rfl⟩
          obtain ⟨X, hX⟩ : ∃ X, X = w1.heap.size := ⟨_, rfl⟩
          have HW : Hid (W = w1.alloc (.cells #[.bool a.list, .string a.text, .slice s0 s1 s2] 26) ∧ X = w1.heap.size) := ⟨hW, hX⟩
          rw [← hW] at hb1a bX
          rw [← hX] at bX
          have H1 : Hid (Rd W n a.items (.slice s0 s1 s2) ∧ Below w.heap.size w W ∧ Bk W X #[.bool a.list, .string a.text, .slice s0 s1 s2] 26) := ⟨HRd.out.below hb1a, hbo.trans (hb1a.mono hszo), bX⟩
          clear hhv hb1 HRd hb1a hW hX bX
          have hbw : b < w1.heap.size := cell_lt' c0
          go_upto_region 7 with fail
          rw [← HW.out.1, ← HW.out.2]
          clear HW c0 c1 c2 c3
          obtain ⟨n', rfl⟩ : ∃ n', n = n' + 1 := by obtain ⟨m, h, _⟩ := H1.out.1.at; exact ⟨m, h⟩
          have hs1 : s1 = a.items.length := by
            obtain ⟨_, _, _, _, e2, _⟩ := H1.out.1.at
            injection e2
          have hil : a.items.length ≤ 1048576 := by
            have h1 := len_wts a.items
            obtain ⟨L, t, xs⟩ := a
            have hwt : 1 + t.size + IT.wts xs ≤ 1048576 := hwt
            have h1 : xs.length ≤ IT.wts xs := h1
            show xs.length ≤ _; omega
          subst hs1
          obtain ⟨va, vl, vc, hY1, hY2, hY3⟩ : ∃ va vl vc, (if a.list then Value.slice s0 a.items.length s2 else .slice none 0 0) = .slice va vl vc ∧ (vl = (ysOf a).length ∧ vl ≤ vc) ∧ Rd W (n' + 1) (ysOf a) (.slice va vl vc) := by
            unfold ysOf
            cases a.list
            · exact ⟨none, 0, 0, rfl, ⟨rfl, Nat.le_refl _⟩, ⟨by simp, none, 0, rfl, fun i hi => by simp at hi⟩⟩
            · exact ⟨s0, _, s2, rfl, ⟨rfl, hroom⟩, H1.out.1⟩
          have hyl : (ysOf a).length ≤ 1048576 := by unfold ysOf; split; exact hil; simp
          obtain ⟨hY2, hY4⟩ := hY2
          obtain ⟨h, hh, hh2⟩ : ∃ h : Nat, ((vl : Int) / 2) = (h : Int) ∧ h ≤ vl := ⟨vl / 2, by omega, by omega⟩
          have HG1 : Hid (∀ W', Below W.heap.size W W' → Calls Try.prog 21 #[.agg #[.bool a.list, .string a.text, .slice s0 a.items.length s2], .int .i64 1048576] W' fun e w' => (∃ ad' l' c', e = .returned (.slice ad' l' c') ∧ Rd w' (n' + 1) ((ysOf a).take vl) (.slice ad' l' c')) ∧ Below W'.heap.size W' w') := fun W' hW' => by
            have h1 := gather4 n' 1048576 a s0 _ s2 W' (H1.out.1.below hW') hwt (Nat.le_refl _)
            rw [List.take_of_length_le (show (ysOf a).length ≤ 1048576 from hyl)] at h1
            rw [hY2, List.take_length]
            exact h1
          have HG2 : Hid (∀ W', Below W.heap.size W W' → Calls Try.prog 21 #[.agg #[.bool a.list, .string a.text, .slice s0 a.items.length s2], .int .i64 (h : Int)] W' fun e w' => (∃ ad' l' c', e = .returned (.slice ad' l' c') ∧ Rd w' (n' + 1) ((ysOf a).take h) (.slice ad' l' c')) ∧ Below W'.heap.size W' w') := fun W' hW' => gather4 n' h a s0 _ s2 W' (H1.out.1.below hW') hwt (by omega)
          have HEq : Hid (∀ (W' : World) (u : Value) (q : Nat), q ≤ vl → Rd W' (n' + 1) ((ysOf a).take q) u → Below W.heap.size W W' → Calls Try.prog 20 #[u, .slice va q vc] W' fun e w' => e = .returned (.bool true) ∧ Below W'.heap.size W' w') := fun W' u q hq hu hW' => eqsSame (n' + 1) (n' + 1) _ u _ W' hu ((hY3.below hW').take q (by omega) vc)
          have H2 : Hid (Below w.heap.size w W) := H1.out.2.1
          obtain ⟨p0, p1, p2⟩ := box_cells H1.out.2.2
          have lX := H1.out.2.2.lt
          have hcap : (h : Int) ≤ (vc : Int) := by omega
          have hw64 : wrap64 (h : Int) = (h : Int) := by unfold wrap64; omega
          have hpos : (0 : Int) ≤ (h : Int) := Int.natCast_nonneg h
          generalize ysOf a = ys at *
          generalize a.items.length = il at *
          generalize a.text = ta at *
          generalize a.list = la at *
          clear H1 hY3 hyl hil hwt hroom hY2
          go_upto_if 28 with fail
          go_cut [5] (fun u wx => u = .slice va vl vc ∧ wx = W)
          case first =>
            cases la with
            | true =>
              go_wp2_with fail
              go_meet
              exact ⟨hY1, rfl⟩
            | false =>
              go_wp2_with fail
              go_meet
              exact ⟨hY1, rfl⟩
          case rest =>
            obtain ⟨hu5, hwW⟩ := hcut
            subst hu5
            rw [hwW]
            clear hY1 hwW
            go_upto_region 11 with fail
            simp only [hw64]
            have hT : JX X la ta (.slice s0 il s2) W W := ⟨p0, p1, p2, Below.refl _ _⟩
            go_cut [48] (fun u wx => u = .bool false ∧ Below W.heap.size W wx)
            case first =>
              go_region_held3 (fun w' => w'.cell? ⟨X, 0, none⟩ = some (.bool la) ∧ w'.cell? ⟨X, 1, none⟩ = some (.string ta) ∧ w'.cell? ⟨X, 2, none⟩ = some (.slice s0 il s2) ∧ Below W.heap.size W w') ((show JX X la ta (.slice s0 il s2) W _; repeat (first | with_reducible exact hT | with_reducible refine JX.drew ?_))) ((first | (go_at_call 21; (first | with_reducible refine (HG1.out _ (by repeat (first | with_reducible exact hT.bel | with_reducible refine Below.drew ?_))).mono ?_ | with_reducible refine (HG2.out _ (by repeat (first | with_reducible exact hT.bel | with_reducible refine Below.drew ?_))).mono ?_); rintro e w2 ⟨⟨g0, g1, g2, rfl, hrg⟩, hb2⟩; have hT := JX.below (X := X) (l := la) (t := ta) (sv := .slice s0 il s2) (w0 := W) (by repeat (first | with_reducible exact hT | with_reducible refine JX.drew ?_)) hb2) | (go_at_call 20; refine (HEq.out _ _ _ (by first | with_reducible exact Nat.le_refl _ | with_reducible exact hh2) (by repeat (first | with_reducible exact hrg | with_reducible refine Rd.drew ?_)) (by repeat (first | with_reducible exact hT.bel | with_reducible refine Below.drew ?_))).mono ?_; rintro e w2 ⟨rfl, hb2⟩; have hT := JX.below (X := X) (l := la) (t := ta) (sv := .slice s0 il s2) (w0 := W) (by repeat (first | with_reducible exact hT | with_reducible refine JX.drew ?_)) hb2)))
              all_goals
                go_wp2_with fail
                go_meet
                exact ⟨rfl, hT.bel⟩
            case rest =>
              obtain ⟨rfl, hbz⟩ := hcut
              have hB := H2.out.trans (hbz.mono H2.out.size)
              clear hT
              go_wp2_with fail
              go_roundw
              case rel => exact ⟨k + 1, by omega, by omega, by go_num, hB⟩
              case measure => simp [intOf]; omega
      · have h6' : ¬ (k : Int) < 6 := by omega
        go_wp2_with (go_at_call 18; refine (wakes _).mono ?_; rintro e w1 ⟨rfl, hb1⟩)
        go_ret
        exact ⟨rfl, hbo.trans (hb1.mono hszo)⟩
    · have hlt' : ¬ (k : Int) < (qs.length : Int) := by omega
      go_wp2_with (go_at_call 18; refine (wakes _).mono ?_; rintro e w1 ⟨rfl, hb1⟩)
      go_ret
      exact ⟨rfl, hbo.trans (hb1.mono hszo)⟩
end Go.Proofs.Ytliaegnhnnnojaa

import Derived.Test.YtliaegnhnnnojaaIt
set_option linter.unusedSimpArgs false
set_option linter.unusedVariables false
namespace Go.Proofs.Ytliaegnhnnnojaa
open Go.RowKit

/-! How much an item is, and how deep. -/
mutual
def IT.wt : IT → Nat
  | .mk _ t s => 1 + t.size + IT.wts s
def IT.wts : List IT → Nat
  | [] => 0
  | x :: xs => x.wt + IT.wts xs
end
mutual
def IT.dp : IT → Nat
  | .mk _ _ s => IT.dps s + 1
def IT.dps : List IT → Nat
  | [] => 0
  | x :: xs => max x.dp (IT.dps xs)
end
theorem IT.wt_eq (a : IT) : a.wt = 1 + a.text.size + IT.wts a.items := by cases a; rfl
theorem IT.dp_eq (a : IT) : a.dp = IT.dps a.items + 1 := by cases a; rfl
theorem wts_append (xs ys : List IT) : IT.wts (xs ++ ys) = IT.wts xs + IT.wts ys := by
  induction xs with
  | nil => simp [IT.wts]
  | cons x xs ih => simp only [List.cons_append, IT.wts, ih]; omega
theorem dps_append (xs ys : List IT) : IT.dps (xs ++ ys) = max (IT.dps xs) (IT.dps ys) := by
  induction xs with
  | nil => simp [IT.dps]
  | cons x xs ih => simp only [List.cons_append, IT.dps, ih]; omega
theorem wts_take (xs : List IT) (k : Nat) (h : k < xs.length) : IT.wts (xs.take (k + 1)) = IT.wts (xs.take k) + xs[k].wt := by
  rw [List.take_succ_eq_append_getElem h, wts_append]; simp [IT.wts]
theorem dps_take (xs : List IT) (k : Nat) (h : k < xs.length) : IT.dps (xs.take (k + 1)) = max (IT.dps (xs.take k)) xs[k].dp := by
  rw [List.take_succ_eq_append_getElem h, dps_append]; simp [IT.dps]
theorem wts_le (xs : List IT) (k : Nat) : IT.wts (xs.take k) ≤ IT.wts xs := by
  conv => rhs; rw [← List.take_append_drop k xs, wts_append]
  omega
theorem dps_le (xs : List IT) (k : Nat) : IT.dps (xs.take k) ≤ IT.dps xs := by
  conv => rhs; rw [← List.take_append_drop k xs, dps_append]
  omega
theorem wt_get (xs : List IT) (k : Nat) (h : k < xs.length) : xs[k].wt ≤ IT.wts xs := by
  have := wts_le xs (k + 1); rw [wts_take xs k h] at this; omega
theorem dp_get (xs : List IT) (k : Nat) (h : k < xs.length) : xs[k].dp ≤ IT.dps xs := by
  have := dps_le xs (k + 1); rw [dps_take xs k h] at this; omega
mutual
theorem dp_wt : ∀ a : IT, a.dp ≤ a.wt
  | .mk l t s => by have := dps_wts s; simp only [IT.dp, IT.wt]; omega
theorem dps_wts : ∀ xs : List IT, IT.dps xs ≤ IT.wts xs
  | [] => Nat.le_refl _
  | x :: xs => by have := dp_wt x; have := dps_wts xs; simp only [IT.dps, IT.wts]; omega
end
/-- What an item's slice says of its own items, for a loop over them. -/
theorem Rd.at {w : World} {n : Nat} {xs : List IT} {v : Value} (h : Rd w n xs v) : ∃ m, n = m + 1 ∧ ∃ ad cap, v = .slice ad xs.length cap ∧ xs.length ≤ 9223372036854775807 ∧ ∀ i (hi : i < xs.length), ∃ b off, ad = some ⟨b, off, none⟩ ∧
      ∃ a l c, w.cell? ⟨b, off + i * 3, none⟩ = some (.bool xs[i].list) ∧ w.cell? ⟨b, off + i * 3 + 1, none⟩ = some (.string xs[i].text) ∧ w.cell? ⟨b, off + i * 3 + 2, none⟩ = some (.slice a l c) ∧ Rd w m xs[i].items (.slice a l c) := by
  cases n with
  | zero => exact h.elim
  | succ m =>
    obtain ⟨hl, ad, cap, hv, hat⟩ := h
    refine ⟨m, rfl, ad, cap, hv, hl, fun i hi => ?_⟩
    obtain ⟨b, off, ha, sv, h0, h1, h2, ⟨a, l, c, rfl⟩, h3⟩ := hat i hi
    exact ⟨b, off, ha, a, l, c, h0, h1, h2, h3⟩
set_option maxRecDepth 100000 in
set_option maxHeartbeats 1000000 in
theorem itemWeight : ∀ (n : Nat) (a : IT) (sv : Value) (w : World), Rd w n a.items sv → a.wt ≤ 1152921504606846976 →
    Calls Try.prog 32 #[itv a sv] w fun e w' => (∃ r : Nat, e = .returned (.int .i64 r) ∧ r ≤ a.wt ∧ (r < 1048576 → r = a.wt)) ∧ Below w.heap.size w w'
  | n, .mk l t xs, sv, w, ha, hw => by
    obtain ⟨m, rfl, ad, cap, rfl, hl, hat⟩ := ha.at
    have IH : Hid (∀ (a : IT) (sv : Value) (w : World), Rd w m a.items sv → a.wt ≤ 1152921504606846976 → Calls Try.prog 32 #[itv a sv] w fun e w' => (∃ r : Nat, e = .returned (.int .i64 r) ∧ r ≤ a.wt ∧ (r < 1048576 → r = a.wt)) ∧ Below w.heap.size w w') := itemWeight m
    simp only [IT.items] at hl hat
    have HA : Hid (∀ i (hi : i < xs.length), ∃ b off, ad = some ⟨b, off, none⟩ ∧ ∃ x l c, w.cell? ⟨b, off + i * 3, none⟩ = some (.bool xs[i].list) ∧ w.cell? ⟨b, off + i * 3 + 1, none⟩ = some (.string xs[i].text) ∧ w.cell? ⟨b, off + i * 3 + 2, none⟩ = some (.slice x l c) ∧ Rd w m xs[i].items (.slice x l c)) := hat
    have hwe : (IT.mk l t xs).wt = 1 + t.size + IT.wts xs := rfl
    show Calls Try.prog 32 #[.agg #[.bool l, .string t, .slice ad xs.length cap]] w fun e w' => (∃ r : Nat, e = .returned (.int .i64 r) ∧ r ≤ (IT.mk l t xs).wt ∧ (r < 1048576 → r = (IT.mk l t xs).wt)) ∧ Below w.heap.size w w'
    rw [hwe] at hw ⊢
    have HL : Hid (1 + t.size + IT.wts xs ≤ 1152921504606846976) := hw
    have hts : t.size ≤ 1152921504606846975 := by omega
    clear hat ha hwe hw
    have bA := Bk.new w #[.bool l, .string t, .slice ad xs.length cap] 26
    go_enter Try.func32, Try.ntmps32
    go_wp2_with fail
    go_loopw [3, 4] (fun v i wr => ∃ k r : Nat, k ≤ xs.length ∧ i = .int .i64 k ∧ v = .int .i64 r ∧ r ≤ 1152921504606846976 ∧ Hid (r ≤ 1 + t.size + IT.wts (xs.take k) ∧ (r < 1048576 → r = 1 + t.size + IT.wts (xs.take k))) ∧ Bk wr w.heap.size #[.bool l, .string t, .slice ad xs.length cap] 26 ∧ Below w.heap.size w wr) (fun v i _ => xs.length - (intOf i).toNat)
    case atStart => exact ⟨0, 1 + t.size, by omega, rfl, by go_num, by omega, ⟨by omega, fun _ => by simp [IT.wts]⟩, bA, (Below.refl _ _).alloc (Nat.le_refl _) _⟩
    case round =>
      clear bA
      obtain ⟨k, r, hk, rfl, rfl, hr62, hr, bA, hbo⟩ := hrel
      have hszo := hbo.size
      have p0 := bA.cell 0
      have p1 := bA.cell 1
      have p2 := bA.cell 2
      simp only [List.getElem?_toArray, List.getElem?_cons_zero, List.getElem?_cons_succ] at p0 p1 p2
      by_cases hlt : k < xs.length
      · have hlt' : (k : Int) < (xs.length : Int) := by omega
        by_cases hr20 : r < 1048576
        · have hr20' : (r : Int) < 1048576 := by omega
          obtain ⟨b, off, rfl, x0, x1, x2, c0, c1, c2, hrd⟩ := HA.out k hlt
          have c0 := (hbo.cell (cell_lt' c0)).trans c0
          have c1 := (hbo.cell (cell_lt' c1)).trans c1
          have c2 := (hbo.cell (cell_lt' c2)).trans c2
          have hg := wt_get xs k hlt
          have hcall := IH.out xs[k] _ wr (hrd.below hbo) (by have := HL.out; omega)
          have htk := wts_take xs k hlt
          have hle := wts_le xs (k + 1)
          simp only [itv] at hcall
          generalize xs[k].wt = wk at *
          generalize xs[k].list = lk at *
          generalize xs[k].text = tk at *
          have HT : Hid (IT.wts (xs.take (k + 1)) = IT.wts (xs.take k) + wk ∧ IT.wts (xs.take (k + 1)) ≤ IT.wts xs) := ⟨htk, hle⟩
          have HC : Hid (Calls Try.prog 32 #[.agg #[.bool lk, .string tk, .slice x0 x1 x2]] wr fun e w' => (∃ r : Nat, e = .returned (.int .i64 r) ∧ r ≤ wk ∧ (r < 1048576 → r = wk)) ∧ Below wr.heap.size wr w') := hcall
          have hwk : wk ≤ 1152921504606846976 := by have := HL.out; omega
          clear hcall htk hle hg hrd
          go_wp2_with (go_at_call 32; refine HC.out.mono ?_; rintro e w2 ⟨⟨r2, rfl, hr2, hr3⟩, hb2⟩)
          have HR2 : Hid (r2 ≤ wk ∧ (r2 < 1048576 → r2 = wk)) := ⟨hr2, hr3⟩
          go_roundw
          case rel =>
            have h1 := HT.out
            have h2 := hr.out
            have h3 := HL.out
            have h4 := HR2.out
            refine ⟨k + 1, r + r2, by omega, by go_num, by go_num, by omega, ⟨by omega, fun h => ?_⟩, bA.below hb2 bA.lt, hbo.trans (hb2.mono hszo)⟩
            have := h2.2 (by omega)
            have := h4.2 (by omega)
            omega
          case measure => simp [intOf]; omega
        · have hr20' : decide ((r : Int) < 1048576) = false := by simp; omega
          go_wp2_with fail
          go_ret
          have h1 := hr.out
          have h2 := wts_le xs k
          exact ⟨⟨r, rfl, by omega, fun h => absurd h hr20⟩, hbo⟩
      · have hlt' : decide ((k : Int) < (xs.length : Int)) = false := by simp; omega
        go_wp2_with fail
        go_ret
        have hkl : k = xs.length := by omega
        have h1 := hr.out
        rw [hkl, List.take_length] at h1
        exact ⟨⟨r, rfl, h1.1, h1.2⟩, hbo⟩
set_option maxRecDepth 100000 in
set_option maxHeartbeats 1000000 in
theorem itemDeep : ∀ (n : Nat) (a : IT) (sv : Value) (w : World), Rd w n a.items sv → a.dp ≤ 1152921504606846976 →
    Calls Try.prog 33 #[itv a sv] w fun e w' => e = .returned (.int .i64 (a.dp : Int)) ∧ Below w.heap.size w w'
  | n, .mk l t xs, sv, w, ha, hw => by
    obtain ⟨m, rfl, ad, cap, rfl, hl, hat⟩ := ha.at
    have IH : Hid (∀ (a : IT) (sv : Value) (w : World), Rd w m a.items sv → a.dp ≤ 1152921504606846976 → Calls Try.prog 33 #[itv a sv] w fun e w' => e = .returned (.int .i64 (a.dp : Int)) ∧ Below w.heap.size w w') := itemDeep m
    simp only [IT.items] at hl hat
    have HA : Hid (∀ i (hi : i < xs.length), ∃ b off, ad = some ⟨b, off, none⟩ ∧ ∃ x l c, w.cell? ⟨b, off + i * 3, none⟩ = some (.bool xs[i].list) ∧ w.cell? ⟨b, off + i * 3 + 1, none⟩ = some (.string xs[i].text) ∧ w.cell? ⟨b, off + i * 3 + 2, none⟩ = some (.slice x l c) ∧ Rd w m xs[i].items (.slice x l c)) := hat
    have hwe : (IT.mk l t xs).dp = IT.dps xs + 1 := rfl
    show Calls Try.prog 33 #[.agg #[.bool l, .string t, .slice ad xs.length cap]] w fun e w' => e = .returned (.int .i64 ((IT.mk l t xs).dp : Int)) ∧ Below w.heap.size w w'
    rw [hwe] at hw ⊢
    have HL : Hid (IT.dps xs + 1 ≤ 1152921504606846976) := hw
    clear hat ha hwe hw
    have bA := Bk.new w #[.bool l, .string t, .slice ad xs.length cap] 26
    go_enter Try.func33, Try.ntmps33
    go_wp2_with fail
    go_loopw [3, 4] (fun v i wr => ∃ k r : Nat, k ≤ xs.length ∧ i = .int .i64 k ∧ v = .int .i64 r ∧ r ≤ 1152921504606846975 ∧ Hid (r = IT.dps (xs.take k)) ∧ Bk wr w.heap.size #[.bool l, .string t, .slice ad xs.length cap] 26 ∧ Below w.heap.size w wr) (fun v i _ => xs.length - (intOf i).toNat)
    case atStart => exact ⟨0, 0, by omega, rfl, rfl, by omega, by show 0 = IT.dps (xs.take 0); simp [IT.dps], bA, (Below.refl _ _).alloc (Nat.le_refl _) _⟩
    case round =>
      clear bA
      obtain ⟨k, r, hk, rfl, rfl, hr62, hr, bA, hbo⟩ := hrel
      have hszo := hbo.size
      have p0 := bA.cell 0
      have p1 := bA.cell 1
      have p2 := bA.cell 2
      simp only [List.getElem?_toArray, List.getElem?_cons_zero, List.getElem?_cons_succ] at p0 p1 p2
      by_cases hlt : k < xs.length
      · have hlt' : (k : Int) < (xs.length : Int) := by omega
        obtain ⟨b, off, rfl, x0, x1, x2, c0, c1, c2, hrd⟩ := HA.out k hlt
        have c0 := (hbo.cell (cell_lt' c0)).trans c0
        have c1 := (hbo.cell (cell_lt' c1)).trans c1
        have c2 := (hbo.cell (cell_lt' c2)).trans c2
        have hg := dp_get xs k hlt
        have hcall := IH.out xs[k] _ wr (hrd.below hbo) (by have := HL.out; omega)
        have htk := dps_take xs k hlt
        have hle := dps_le xs (k + 1)
        simp only [itv] at hcall
        generalize xs[k].dp = wk at *
        generalize xs[k].list = lk at *
        generalize xs[k].text = tk at *
        have HT : Hid (IT.dps (xs.take (k + 1)) = max (IT.dps (xs.take k)) wk ∧ IT.dps (xs.take (k + 1)) ≤ IT.dps xs) := ⟨htk, hle⟩
        have HC : Hid (Calls Try.prog 33 #[.agg #[.bool lk, .string tk, .slice x0 x1 x2]] wr fun e w' => e = .returned (.int .i64 (wk : Int)) ∧ Below wr.heap.size wr w') := hcall
        have hwk : wk ≤ 1152921504606846975 := by have := HL.out; omega
        clear hcall htk hle hg hrd
        by_cases hmx : r ≤ wk
        · have hmx' : (r : Int) ≤ (wk : Int) := by omega
          go_wp2_with (go_at_call 33; refine HC.out.mono ?_; rintro e w2 ⟨rfl, hb2⟩)
          all_goals
            go_roundw
            case rel =>
              have h1 := HT.out
              have h2 := hr.out
              have h3 := HL.out
              exact ⟨k + 1, wk, by omega, by go_num, by first | rfl | go_num, by omega, show wk = _ by omega, bA.below hb2 bA.lt, hbo.trans (hb2.mono hszo)⟩
            case measure => simp [intOf]; omega
        · have hmx' : ¬ (r : Int) ≤ (wk : Int) := by omega
          go_wp2_with (go_at_call 33; refine HC.out.mono ?_; rintro e w2 ⟨rfl, hb2⟩)
          all_goals
            go_roundw
            case rel =>
              have h1 := HT.out
              have h2 := hr.out
              have h3 := HL.out
              exact ⟨k + 1, r, by omega, by go_num, by first | rfl | go_num, by omega, show r = _ by omega, bA.below hb2 bA.lt, hbo.trans (hb2.mono hszo)⟩
            case measure => simp [intOf]; omega
      · have hlt' : decide ((k : Int) < (xs.length : Int)) = false := by simp; omega
        go_wp2_with fail
        go_ret
        have hkl : k = xs.length := by omega
        have h1 := hr.out
        rw [hkl, List.take_length] at h1
        exact ⟨by rw [← h1]; go_num, hbo⟩
end Go.Proofs.Ytliaegnhnnnojaa

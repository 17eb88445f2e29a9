import Derived.Test.YtliaegnhnnnojaaItW
set_option linter.unusedSimpArgs false
set_option linter.unusedVariables false
namespace Go.Proofs.Ytliaegnhnnnojaa
open Go.RowKit

/-! How deep an item is by the page: more than may be, where a text has items or a list a text. -/
mutual
def IT.pd : IT → Nat
  | .mk l t s => if l = false then (if s.length = 0 then 0 else 17) else if t.size = 0 then IT.pds s + 1 else 17
def IT.pds : List IT → Nat
  | [] => 0
  | x :: xs => max x.pd (IT.pds xs)
end
theorem pds_append (xs ys : List IT) : IT.pds (xs ++ ys) = max (IT.pds xs) (IT.pds ys) := by
  induction xs with
  | nil => simp [IT.pds]
  | cons x xs ih => simp only [List.cons_append, IT.pds, ih]; omega
theorem pds_take (xs : List IT) (k : Nat) (h : k < xs.length) : IT.pds (xs.take (k + 1)) = max (IT.pds (xs.take k)) xs[k].pd := by
  rw [List.take_succ_eq_append_getElem h, pds_append]; simp [IT.pds]
theorem pds_le (xs : List IT) (k : Nat) : IT.pds (xs.take k) ≤ IT.pds xs := by
  conv => rhs; rw [← List.take_append_drop k xs, pds_append]
  omega
theorem pd_get (xs : List IT) (k : Nat) (h : k < xs.length) : xs[k].pd ≤ IT.pds xs := by
  have := pds_le xs (k + 1); rw [pds_take xs k h] at this; omega
mutual
theorem pd_dp : ∀ a : IT, a.pd ≤ a.dp + 16
  | .mk l t s => by
    have := pds_dps s
    simp only [IT.pd, IT.dp]
    split
    · split <;> omega
    · split <;> omega
theorem pds_dps : ∀ xs : List IT, IT.pds xs ≤ IT.dps xs + 16
  | [] => by simp [IT.pds]
  | x :: xs => by have := pd_dp x; have := pds_dps xs; simp only [IT.pds, IT.dps]; omega
end
theorem bytes_nil (t : ByteArray) (h : t.size = 0) : t = ByteArray.empty := by
  cases t with
  | mk d => congr 1; exact Array.eq_empty_of_size_eq_zero h
set_option maxRecDepth 100000 in
set_option maxHeartbeats 1000000 in
theorem pdeep : ∀ (n : Nat) (a : IT) (sv : Value) (w : World), Rd w n a.items sv → a.pd ≤ 1152921504606846976 →
    Calls Try.prog 49 #[itv a sv] w fun e w' => e = .returned (.int .i64 (a.pd : Int)) ∧ Below w.heap.size w w'
  | n, .mk l t xs, sv, w, ha, hw => by
    obtain ⟨m, rfl, ad, cap, rfl, hl, hat⟩ := ha.at
    have IH : Hid (∀ (a : IT) (sv : Value) (w : World), Rd w m a.items sv → a.pd ≤ 1152921504606846976 → Calls Try.prog 49 #[itv a sv] w fun e w' => e = .returned (.int .i64 (a.pd : Int)) ∧ Below w.heap.size w w') := pdeep m
    simp only [IT.items] at hl hat
    have HA : Hid (∀ i (hi : i < xs.length), ∃ b off, ad = some ⟨b, off, none⟩ ∧ ∃ x l c, w.cell? ⟨b, off + i * 3, none⟩ = some (.bool xs[i].list) ∧ w.cell? ⟨b, off + i * 3 + 1, none⟩ = some (.string xs[i].text) ∧ w.cell? ⟨b, off + i * 3 + 2, none⟩ = some (.slice x l c) ∧ Rd w m xs[i].items (.slice x l c)) := hat
    show Calls Try.prog 49 #[.agg #[.bool l, .string t, .slice ad xs.length cap]] w fun e w' => e = .returned (.int .i64 ((IT.mk l t xs).pd : Int)) ∧ Below w.heap.size w w'
    cases l with
    | false =>
      by_cases h0 : xs.length = 0
      · rw [show (IT.mk false t xs).pd = 0 by simp [IT.pd, h0]]
        have h0' : decide (0 < (xs.length : Int)) = false := decide_eq_false (by omega)
        have h0'' : decide (0 < xs.length) = false := decide_eq_false (by omega)
        clear h0
        go_enter Try.func49, Try.ntmps49
        go_wp2_with fail
        go_ret
        exact ⟨rfl, (Below.refl _ _).alloc (Nat.le_refl _) _⟩
      · rw [show (IT.mk false t xs).pd = 17 by simp [IT.pd, h0]]
        have h0' : (0 : Int) < (xs.length : Int) := by omega
        have h0'' : 0 < xs.length := by omega
        clear h0
        go_enter Try.func49, Try.ntmps49
        go_wp2_with fail
        go_ret
        exact ⟨rfl, (Below.refl _ _).alloc (Nat.le_refl _) _⟩
    | true =>
    by_cases ht : t.size = 0
    case neg =>
      rw [show (IT.mk true t xs).pd = 17 by simp [IT.pd, ht]]
      have ht' : (t.toList == []) = false := by rw [beq_eq_false_iff_ne]; intro h; exact ht (by have := bytes_inj (a := t) (b := ByteArray.empty) (h.trans (by rw [ByteArray.toList_eq]; rfl)); rw [this]; rfl)
      clear ht
      go_enter Try.func49, Try.ntmps49
      go_wp2_with fail
      go_ret
      exact ⟨rfl, (Below.refl _ _).alloc (Nat.le_refl _) _⟩
    have hwe : (IT.mk true t xs).pd = IT.pds xs + 1 := by simp [IT.pd, ht]
    obtain rfl := bytes_nil t ht
    clear ht
    rw [hwe] at hw ⊢
    have HL : Hid (IT.pds xs + 1 ≤ 1152921504606846976) := hw
    clear hat ha hwe hw
    have bA := Bk.new w #[.bool true, .string ByteArray.empty, .slice ad xs.length cap] 26
    go_enter Try.func49, Try.ntmps49
    go_wp2_with fail
    go_loopw [3, 4] (fun v i wr => ∃ k r : Nat, k ≤ xs.length ∧ i = .int .i64 k ∧ v = .int .i64 r ∧ r ≤ 1152921504606846975 ∧ Hid (r = IT.pds (xs.take k)) ∧ Bk wr w.heap.size #[.bool true, .string ByteArray.empty, .slice ad xs.length cap] 26 ∧ Below w.heap.size w wr) (fun v i _ => xs.length - (intOf i).toNat)
    case atStart => exact ⟨0, 0, by omega, rfl, rfl, by omega, by show 0 = IT.pds (xs.take 0); simp [IT.pds], bA, (Below.refl _ _).alloc (Nat.le_refl _) _⟩
    case round =>
      clear bA
      obtain ⟨k, r, hk, rfl, rfl, hr62, hr, bA, hbo⟩ := hrel
      have hszo := hbo.size
      have p0 := bA.cell 0
      have p1 := bA.cell 1
      have p2 := bA.cell 2
      simp only [List.getElem?_toArray, List.getElem?_cons_zero, List.getElem?_cons_succ] at p0 p1 p2
      by_cases hlt : k < xs.length
      · have hlt' : (k : Int) < (xs.length : Int) := by omega
        obtain ⟨b, off, rfl, x0, x1, x2, c0, c1, c2, hrd⟩ := HA.out k hlt
        have c0 := (hbo.cell (cell_lt' c0)).trans c0
        have c1 := (hbo.cell (cell_lt' c1)).trans c1
        have c2 := (hbo.cell (cell_lt' c2)).trans c2
        have hg := pd_get xs k hlt
        have hcall := IH.out xs[k] _ wr (hrd.below hbo) (by have := HL.out; omega)
        have htk := pds_take xs k hlt
        have hle := pds_le xs (k + 1)
        simp only [itv] at hcall
        generalize xs[k].pd = wk at *
        generalize xs[k].list = lk at *
        generalize xs[k].text = tk at *
        have HT : Hid (IT.pds (xs.take (k + 1)) = max (IT.pds (xs.take k)) wk ∧ IT.pds (xs.take (k + 1)) ≤ IT.pds xs) := ⟨htk, hle⟩
        have HC : Hid (Calls Try.prog 49 #[.agg #[.bool lk, .string tk, .slice x0 x1 x2]] wr fun e w' => e = .returned (.int .i64 (wk : Int)) ∧ Below wr.heap.size wr w') := hcall
        have hwk : wk ≤ 1152921504606846975 := by have := HL.out; omega
        clear hcall htk hle hg hrd
        by_cases hmx : r ≤ wk
        · have hmx' : (r : Int) ≤ (wk : Int) := by omega
          go_wp2_with (go_at_call 49; refine HC.out.mono ?_; rintro e w2 ⟨rfl, hb2⟩)
          all_goals
            go_roundw
            case rel =>
              have h1 := HT.out
              have h2 := hr.out
              have h3 := HL.out
              exact ⟨k + 1, wk, by omega, by go_num, by first | rfl | go_num, by omega, show wk = _ by omega, bA.below hb2 bA.lt, hbo.trans (hb2.mono hszo)⟩
            case measure => simp [intOf]; omega
        · have hmx' : ¬ (r : Int) ≤ (wk : Int) := by omega
          go_wp2_with (go_at_call 49; refine HC.out.mono ?_; rintro e w2 ⟨rfl, hb2⟩)
          all_goals
            go_roundw
            case rel =>
              have h1 := HT.out
              have h2 := hr.out
              have h3 := HL.out
              exact ⟨k + 1, r, by omega, by go_num, by first | rfl | go_num, by omega, show r = _ by omega, bA.below hb2 bA.lt, hbo.trans (hb2.mono hszo)⟩
            case measure => simp [intOf]; omega
      · have hlt' : decide ((k : Int) < (xs.length : Int)) = false := by simp; omega
        go_wp2_with fail
        go_ret
        have hkl : k = xs.length := by omega
        have h1 := hr.out
        rw [hkl, List.take_length] at h1
        exact ⟨by rw [← h1]; go_num, hbo⟩
end Go.Proofs.Ytliaegnhnnnojaa

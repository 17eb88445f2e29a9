import Derived.Test.YtliaegnhnnnojaaHvy
set_option linter.unusedSimpArgs false
set_option linter.unusedVariables false
set_option maxRecDepth 100000
namespace Go.Proofs.Ytliaegnhnnnojaa
open Go.RowKit

/-! tarnlaw0.ItemWeight, Deep, tarnlaw4.heavy of whatever items: they answer something. -/
def R64 (r : Int) : Prop := -9223372036854775808 ≤ r ∧ r ≤ 9223372036854775807
theorem w64_r (x : Int) : R64 (wrap64 x) := by unfold R64 wrap64; omega
theorem R64.ite {r q : Int} (hr : R64 r) (hq : R64 q) : R64 (if r < q then q else r) := by split <;> assumption
set_option maxHeartbeats 1000000 in
theorem itemWeightU : ∀ (n : Nat) (a : IT) (sv : Value) (w : World), Rd w n a.items sv →
    Calls Try.prog 32 #[itv a sv] w fun e w' => (∃ r : Int, e = .returned (.int .i64 r) ∧ R64 r) ∧ Below w.heap.size w w'
  | n, .mk l t xs, sv, w, ha => by
    obtain ⟨m, rfl, ad, cap, rfl, hl, hat⟩ := ha.at
    have IH : Hid (∀ (a : IT) (sv : Value) (w : World), Rd w m a.items sv → Calls Try.prog 32 #[itv a sv] w fun e w' => (∃ r : Int, e = .returned (.int .i64 r) ∧ R64 r) ∧ Below w.heap.size w w') := itemWeightU m
    simp only [IT.items] at hl hat
    have HA : Hid (∀ i (hi : i < xs.length), ∃ b off, ad = some ⟨b, off, none⟩ ∧ ∃ x l c, w.cell? ⟨b, off + i * 3, none⟩ = some (.bool xs[i].list) ∧ w.cell? ⟨b, off + i * 3 + 1, none⟩ = some (.string xs[i].text) ∧ w.cell? ⟨b, off + i * 3 + 2, none⟩ = some (.slice x l c) ∧ Rd w m xs[i].items (.slice x l c)) := hat
    show Calls Try.prog 32 #[.agg #[.bool l, .string t, .slice ad xs.length cap]] w fun e w' => (∃ r : Int, e = .returned (.int .i64 r) ∧ R64 r) ∧ Below w.heap.size w w'
    clear hat ha
    have bA := Bk.new w #[.bool l, .string t, .slice ad xs.length cap] 26
    go_enter Try.func32, Try.ntmps32
    go_wp2_with fail
    go_loopw [3, 4] (fun v i wr => ∃ (k : Nat) (r : Int), k ≤ xs.length ∧ i = .int .i64 k ∧ v = .int .i64 r ∧ Hid (R64 r) ∧ Bk wr w.heap.size #[.bool l, .string t, .slice ad xs.length cap] 26 ∧ Below w.heap.size w wr) (fun v i _ => xs.length - (intOf i).toNat)
    case atStart => exact ⟨0, _, by omega, rfl, rfl, w64_r _, bA, (Below.refl _ _).alloc (Nat.le_refl _) _⟩
    case round =>
      clear bA
      obtain ⟨k, r, hk, rfl, rfl, hr, bA, hbo⟩ := hrel
      have hszo := hbo.size
      obtain ⟨p0, p1, p2⟩ := box_cells bA
      by_cases hlt : k < xs.length
      · have hlt' : (k : Int) < (xs.length : Int) := by omega
        by_cases hr20 : r < 1048576
        · have hr20' : decide (r < 1048576) = true := decide_eq_true hr20
          obtain ⟨b, off, rfl, x0, x1, x2, c0, c1, c2, hrd⟩ := HA.out k hlt
          have c0 := (hbo.cell (cell_lt' c0)).trans c0
          have c1 := (hbo.cell (cell_lt' c1)).trans c1
          have c2 := (hbo.cell (cell_lt' c2)).trans c2
          have hcall := IH.out xs[k] _ wr (hrd.below hbo)
          simp only [itv] at hcall
          generalize xs[k].list = lk at *
          generalize xs[k].text = tk at *
          have HC : Hid (Calls Try.prog 32 #[.agg #[.bool lk, .string tk, .slice x0 x1 x2]] wr fun e w' => (∃ r : Int, e = .returned (.int .i64 r) ∧ R64 r) ∧ Below wr.heap.size wr w') := hcall
          clear hcall hrd
          go_wp2_with (go_at_call 32; refine HC.out.mono ?_; rintro e w2 ⟨⟨r2, rfl, hr2⟩, hb2⟩)
          go_roundw
          case rel => exact ⟨k + 1, _, by omega, by go_num, rfl, w64_r _, bA.below hb2 bA.lt, hbo.trans (hb2.mono hszo)⟩
          case measure => simp [intOf]; omega
        · have hr20' : decide (r < 1048576) = false := decide_eq_false hr20
          go_wp2_with fail
          go_ret
          exact ⟨⟨r, rfl, hr.out⟩, hbo⟩
      · have hlt' : decide ((k : Int) < (xs.length : Int)) = false := by simp; omega
        go_wp2_with fail
        go_ret
        exact ⟨⟨r, rfl, hr.out⟩, hbo⟩
set_option maxHeartbeats 1000000 in
theorem itemDeepU : ∀ (n : Nat) (a : IT) (sv : Value) (w : World), Rd w n a.items sv →
    Calls Try.prog 33 #[itv a sv] w fun e w' => (∃ r : Int, e = .returned (.int .i64 r) ∧ R64 r) ∧ Below w.heap.size w w'
  | n, .mk l t xs, sv, w, ha => by
    obtain ⟨m, rfl, ad, cap, rfl, hl, hat⟩ := ha.at
    have IH : Hid (∀ (a : IT) (sv : Value) (w : World), Rd w m a.items sv → Calls Try.prog 33 #[itv a sv] w fun e w' => (∃ r : Int, e = .returned (.int .i64 r) ∧ R64 r) ∧ Below w.heap.size w w') := itemDeepU m
    simp only [IT.items] at hl hat
    have HA : Hid (∀ i (hi : i < xs.length), ∃ b off, ad = some ⟨b, off, none⟩ ∧ ∃ x l c, w.cell? ⟨b, off + i * 3, none⟩ = some (.bool xs[i].list) ∧ w.cell? ⟨b, off + i * 3 + 1, none⟩ = some (.string xs[i].text) ∧ w.cell? ⟨b, off + i * 3 + 2, none⟩ = some (.slice x l c) ∧ Rd w m xs[i].items (.slice x l c)) := hat
    show Calls Try.prog 33 #[.agg #[.bool l, .string t, .slice ad xs.length cap]] w fun e w' => (∃ r : Int, e = .returned (.int .i64 r) ∧ R64 r) ∧ Below w.heap.size w w'
    clear hat ha
    have bA := Bk.new w #[.bool l, .string t, .slice ad xs.length cap] 26
    go_enter Try.func33, Try.ntmps33
    go_wp2_with fail
    go_loopw [3, 4] (fun v i wr => ∃ (k : Nat) (r : Int), k ≤ xs.length ∧ i = .int .i64 k ∧ v = .int .i64 r ∧ Hid (R64 r) ∧ Bk wr w.heap.size #[.bool l, .string t, .slice ad xs.length cap] 26 ∧ Below w.heap.size w wr) (fun v i _ => xs.length - (intOf i).toNat)
    case atStart => exact ⟨0, 0, by omega, rfl, rfl, ⟨by omega, by omega⟩, bA, (Below.refl _ _).alloc (Nat.le_refl _) _⟩
    case round =>
      clear bA
      obtain ⟨k, r, hk, rfl, rfl, hr, bA, hbo⟩ := hrel
      have hszo := hbo.size
      obtain ⟨p0, p1, p2⟩ := box_cells bA
      by_cases hlt : k < xs.length
      · have hlt' : (k : Int) < (xs.length : Int) := by omega
        obtain ⟨b, off, rfl, x0, x1, x2, c0, c1, c2, hrd⟩ := HA.out k hlt
        have c0 := (hbo.cell (cell_lt' c0)).trans c0
        have c1 := (hbo.cell (cell_lt' c1)).trans c1
        have c2 := (hbo.cell (cell_lt' c2)).trans c2
        have hcall := IH.out xs[k] _ wr (hrd.below hbo)
        simp only [itv] at hcall
        generalize xs[k].list = lk at *
        generalize xs[k].text = tk at *
        have HC : Hid (Calls Try.prog 33 #[.agg #[.bool lk, .string tk, .slice x0 x1 x2]] wr fun e w' => (∃ r : Int, e = .returned (.int .i64 r) ∧ R64 r) ∧ Below wr.heap.size wr w') := hcall
        clear hcall hrd
        go_wp2_with (go_at_call 33; refine HC.out.mono ?_; rintro e w2 ⟨⟨r2, rfl, hr2⟩, hb2⟩; have HR2 : Hid (R64 r2) := hr2; clear hr2)
        all_goals
          go_roundw
          case rel => exact ⟨k + 1, if r < r2 then r2 else r, by omega, by go_num, rfl, hr.out.ite HR2.out, bA.below hb2 bA.lt, hbo.trans (hb2.mono hszo)⟩
          case measure => simp [intOf]; omega
      · have hlt' : decide ((k : Int) < (xs.length : Int)) = false := by simp; omega
        go_wp2_with fail
        go_ret
        exact ⟨⟨_, rfl, w64_r _⟩, hbo⟩
set_option maxRecDepth 100000 in
theorem heavyU (n : Nat) (a : IT) (ad : Option Addr) (l c : Nat) (S : ByteArray) (w : World) (hr : Rd w n a.items (.slice ad l c)) :
    Calls Try.prog 11 #[.agg #[.bool a.list, .string a.text, .slice ad l c, .string S]] w fun e w' => (∃ b, e = .returned (.bool b) ∧ (b = false → S.size ≤ 70000)) ∧ Below w.heap.size w w' := by
  have HW : Hid (∀ W, Below w.heap.size w W → Calls Try.prog 32 #[.agg #[.bool a.list, .string a.text, .slice ad l c]] W fun e w' => (∃ r : Int, e = .returned (.int .i64 r) ∧ R64 r) ∧ Below W.heap.size W w') := fun W hW => itemWeightU n a _ W (hr.below hW)
  have HD : Hid (∀ W, Below w.heap.size w W → Calls Try.prog 33 #[.agg #[.bool a.list, .string a.text, .slice ad l c]] W fun e w' => (∃ r : Int, e = .returned (.int .i64 r) ∧ R64 r) ∧ Below W.heap.size W w') := fun W hW => itemDeepU n a _ W (hr.below hW)
  have bA := Bk.new w #[.bool a.list, .string a.text, .slice ad l c, .string S] 28
  have HB : Hid (Below w.heap.size w (w.alloc (.cells #[.bool a.list, .string a.text, .slice ad l c, .string S] 28)) ∧ Bk (w.alloc (.cells #[.bool a.list, .string a.text, .slice ad l c, .string S] 28)) w.heap.size #[.bool a.list, .string a.text, .slice ad l c, .string S] 28) := ⟨(Below.refl _ w).alloc (Nat.le_refl _) _, bA⟩
  clear hr bA
  go_enter Try.func11, Try.ntmps11
  go_wp2_with fail
  refine (HW.out _ HB.out.1).mono ?_
  rintro e w1 ⟨⟨r, rfl, hr1⟩, hb1⟩
  have hB1 := HB.out.1.trans (hb1.mono (by simp))
  have b1 := HB.out.2.below hb1 HB.out.2.lt
  obtain ⟨c0, c1, c2, c3⟩ := ask_cells b1
  have H1 : Hid (Below w.heap.size w w1 ∧ Bk w1 w.heap.size #[.bool a.list, .string a.text, .slice ad l c, .string S] 28) := ⟨hB1, b1⟩
  clear hB1 b1 hb1 hr1
  by_cases hrg : r ≤ 70000
  · have hrg' : decide ((70000 : Int) < r) = false := decide_eq_false (by omega)
    clear hrg
    by_cases hsg : S.size ≤ 70000
    · have hsg' : decide ((70000 : Int) < (S.size : Int)) = false := decide_eq_false (by omega)
      go_wp2_with (go_at_call 33; refine (HD.out _ H1.out.1).mono ?_; rintro e w2 ⟨⟨d, rfl, hd⟩, hb2⟩; obtain ⟨d0, d1, d2, d3⟩ := ask_cells (H1.out.2.below hb2 H1.out.2.lt); by_cases hdg : d ≤ 40; (have hdg' : decide ((40 : Int) < d) = false := decide_eq_false (by omega)); (rotate_left; have hdg' : decide ((40 : Int) < d) = true := decide_eq_true (by omega)))
      all_goals
        go_wp2_with fail
        go_ret
        exact ⟨⟨_, rfl, fun _ => hsg⟩, H1.out.1.trans (hb2.mono H1.out.1.size)⟩
    · have hsg' : decide ((70000 : Int) < (S.size : Int)) = true := decide_eq_true (by omega)
      go_wp2_with (go_at_call 33; refine (HD.out _ H1.out.1).mono ?_; rintro e w2 ⟨⟨d, rfl, hd⟩, hb2⟩; obtain ⟨d0, d1, d2, d3⟩ := ask_cells (H1.out.2.below hb2 H1.out.2.lt); by_cases hdg : d ≤ 40; (have hdg' : decide ((40 : Int) < d) = false := decide_eq_false (by omega)); (rotate_left; have hdg' : decide ((40 : Int) < d) = true := decide_eq_true (by omega)))
      all_goals
        go_wp2_with fail
        go_ret
        exact ⟨⟨true, rfl, fun h => by cases h⟩, H1.out.1.trans (hb2.mono H1.out.1.size)⟩
  · have hrg' : decide ((70000 : Int) < r) = true := decide_eq_true (by omega)
    go_wp2_with fail
    go_ret
    exact ⟨⟨true, rfl, fun h => by cases h⟩, H1.out.1⟩
end Go.Proofs.Ytliaegnhnnnojaa

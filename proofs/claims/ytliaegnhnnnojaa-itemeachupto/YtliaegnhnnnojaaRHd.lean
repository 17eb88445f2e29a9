import Derived.Test.YtliaegnhnnnojaaIHd
import Derived.Test.YtliaegnhnnnojaaRText
set_option linter.unusedSimpArgs false
set_option linter.unusedVariables false
namespace Go.Proofs.Ytliaegnhnnnojaa
open Go.RowKit

/-! The page's head by contract. -/
def st (l : List UInt8) : ByteArray := ⟨l.toArray⟩
theorem st_append (l m : List UInt8) : st l ++ st m = st (l ++ m) := by
  apply ByteArray.ext
  rw [ByteArray.data_append]
  simp [st]
theorem st_size (l : List UInt8) : (st l).size = l.length := by simp [st, ByteArray.size]
theorem st_data (t : ByteArray) : st t.data.toList = t := by cases t; rfl
theorem refOf (n : Nat) (h : n ≤ 9223372036854775807) (w : World) :
    Calls Try.prog 66 #[.int .i64 n] w fun e w' => e = .returned (V n) ∧ Below w.heap.size w w' := by
  rw [V_small n (by omega)]
  have hw : IntKind.u64.wrap (n : Int) = n := by rw [IntKind.wrap_u64]; omega
  go_enter Try.func66, Try.ntmps66
  go_wp2_with fail
  refine bodyPost_ret (v := .agg (A4 n 0 0 0)) ?_ rfl ⟨rfl, ?_⟩
  · simp [results, Try.results66, go_sem]
  · exact (Below.refl _ _).alloc (Nat.le_refl _) _
set_option maxRecDepth 100000 in
theorem rhead_short (base n : Nat) (w : World) (h : n ≤ 55) (hb : base ≤ 192) :
    Calls Try.prog 58 #[.int .i64 n, .int .i64 base] w fun e w' => e = .returned (.string (st (hd base n))) ∧ Below w.heap.size w w' := by
  have hn : (n : Int) ≤ 55 := by omega
  have hx : IntKind.u8.wrap ((base : Int) + (n : Int)) = (base : Int) + (n : Int) := by simp only [IntKind.wrap, IntKind.signed, IntKind.bits]; simp; omega
  have hO := (ow_lit w (base + n) (by omega) w.heap.size (Nat.le_refl _)).string
  have e : (((base + n : Nat)) : Int) = (base : Int) + (n : Int) := by omega
  rw [e] at hO
  have HE : Hid (st (hd base n) = ⟨[UInt8.ofNat (base + n)].toArray⟩) := by show _ = _; rw [hd, if_pos h]; rfl
  generalize (⟨[UInt8.ofNat (base + n)].toArray⟩ : ByteArray) = S0 at *
  clear e
  go_enter Try.func58, Try.ntmps58
  go_wp2_with fail
  go_ret
  rw [HE.out]
  exact ⟨rfl, (Below.refl _ _).alloc (Nat.le_refl _) _⟩
set_option maxRecDepth 100000 in
theorem rhead_long (base n : Nat) (w : World) (h : 55 < n) (hm : n ≤ 9223372036854775807) (hb : base ≤ 192) :
    Calls Try.prog 58 #[.int .i64 n, .int .i64 base] w fun e w' => e = .returned (.string (st (hd base n))) ∧ Below w.heap.size w w' := by
  have hn : ¬ (n : Int) ≤ 55 := by omega
  have hS : (strOfNums (tnums n)).size = tlen n := by rw [strOfNums_size, tnums_length]
  have hL : tlen n ≤ 8 := tlen_lt (by simp; omega)
  have hT : Hid (∀ w, Calls Try.prog 65 #[V n] w fun e w' => e = .returned (.string (strOfNums (tnums n))) ∧ Below w.heap.size w w') := fun w => rtext n (by unfold M256; omega) w
  have hOf : Hid (∀ w, Calls Try.prog 66 #[.int .i64 n] w fun e w' => e = .returned (V n) ∧ Below w.heap.size w w') := fun w => refOf n hm w
  have HD : Hid (st (hd base n) = st [UInt8.ofNat (base + 55 + tlen n)] ++ strOfNums (tnums n)) := by show _ = _; rw [hd, if_neg (by omega), show UInt8.ofNat (base + 55 + tlen n) :: tb n = [UInt8.ofNat (base + 55 + tlen n)] ++ tb n from rfl, ← st_append]; rfl
  have hO0 : Hid (∀ w2 : World, (convert 45 9 (.slice (some ⟨w2.heap.size, 0, none⟩) 1 1)).run Try.prog (w2.alloc (.cells #[.int .u8 ((base : Int) + 55 + (tlen n : Int))] 5)) = .ok (.string (st [UInt8.ofNat (base + 55 + tlen n)])) (w2.alloc (.cells #[.int .u8 ((base : Int) + 55 + (tlen n : Int))] 5))) := fun w2 => (ow_lit w2 (base + 55 + tlen n) (by omega) w2.heap.size (Nat.le_refl _)).string
  have hS0 : (st [UInt8.ofNat (base + 55 + tlen n)]).size = 1 := rfl
  generalize st [UInt8.ofNat (base + 55 + tlen n)] = S0 at *
  generalize strOfNums (tnums n) = S at *
  generalize tlen n = L at *
  have hS' : (S.size : Int) = (L : Int) := by omega
  have hx : IntKind.u8.wrap ((base : Int) + 55 + (L : Int)) = (base : Int) + 55 + (L : Int) := by simp only [IntKind.wrap, IntKind.signed, IntKind.bits]; simp; omega
  go_enter Try.func58, Try.ntmps58
  go_wp2_with (first | (go_at_call 66; refine (hOf.out _).mono ?_; rintro e w1 ⟨rfl, hb1⟩) | (go_at_call 65; refine (hT.out _).mono ?_; rintro e w2 ⟨rfl, hb2⟩; have hO := hO0.out w2))
  go_ret
  rw [HD.out]
  exact ⟨rfl, (hb1.trans (hb2.mono hb1.size)).alloc (Nat.le_trans hb1.size hb2.size) _⟩
theorem rhead (base n : Nat) (w : World) (hm : n ≤ 9223372036854775807) (hb : base ≤ 192) :
    Calls Try.prog 58 #[.int .i64 n, .int .i64 base] w fun e w' => e = .returned (.string (st (hd base n))) ∧ Below w.heap.size w w' := by
  by_cases h : n ≤ 55
  · exact rhead_short base n w h hb
  · exact rhead_long base n w (by omega) hm hb
end Go.Proofs.Ytliaegnhnnnojaa

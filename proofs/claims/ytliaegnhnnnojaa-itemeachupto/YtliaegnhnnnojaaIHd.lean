import Derived.Test.YtliaegnhnnnojaaItR
import Derived.Test.YtliaegnhnnnojaaSml
import Derived.Test.YtliaegnhnnnojaaTakeB
set_option linter.unusedSimpArgs false
set_option linter.unusedVariables false
namespace Go.Proofs.Ytliaegnhnnnojaa
open Go.RowKit

/-! item.isBare, item.head by contract. -/
def bareS (t : ByteArray) : Bool := bare t.data.toList
theorem bareS_pos {t : ByteArray} (h1 : t.size = 1) : bareS t = decide ((t[0].toNat : Int) < 128) := by
  obtain ⟨⟨l⟩⟩ := t
  match l, h1 with
  | [x], _ => show bare [x] = decide ((x.toNat : Int) < 128); simp [bare]; omega
theorem bareS_neg {t : ByteArray} (h1 : t.size ≠ 1) : bareS t = false := by
  unfold bareS bare
  have : t.data.toList.length ≠ 1 := by rw [data_len]; exact h1
  rw [show (t.data.toList.length == 1) = false by simpa using this]; rfl
theorem isBare (t : ByteArray) (w : World) (ht : t.size ≤ 9223372036854775807) : Calls Try.prog 44 #[.string t] w fun e w' => e = .returned (.bool (bareS t)) ∧ w' = w := by
  by_cases h1 : t.size = 1
  · rw [bareS_pos h1]
    have hs : ((t.size : Int) == 1) = true := by rw [h1]; rfl
    have hix := idx_str t 0 0 (by omega) rfl
    go_enter Try.func44, Try.ntmps44
    go_wp2_with fail
    all_goals
      go_ret
      exact ⟨rfl, rfl⟩
  · rw [bareS_neg h1]
    have hs : ((t.size : Int) == 1) = false := by simp; omega
    go_enter Try.func44, Try.ntmps44
    go_wp2_with fail
    go_ret
    exact ⟨rfl, rfl⟩
theorem byte_wrap (b n : Nat) (h : b + n < 256) : IntKind.u8.wrap ((b : Int) + IntKind.u8.wrap (n : Int)) = ((b + n : Nat) : Int) := by
  simp only [IntKind.wrap, IntKind.signed, IntKind.bits]; simp; omega
theorem u8_of (n : Nat) (h : n < 256) : ((UInt8.ofNat n).toNat : Int) = (n : Int) := by
  rw [UInt8.toNat_ofNat']; omega
theorem ow_lit (w : World) (x : Nat) (h : x < 256) (base : Nat) (hb : base ≤ w.heap.size) : Ow (w.alloc (.cells #[.int .u8 (x : Int)] 5)) base (.slice (some ⟨w.heap.size, 0, none⟩) 1 1) [UInt8.ofNat x] := by
  have := World.ownsRow_lit (base := base) (e := 5) (size := 1) w #[.int .u8 (x : Int)] 1 hb (by decide) rfl
  show World.ownsRow _ base 5 1 _ 1 (bc [UInt8.ofNat x])
  rw [show bc [UInt8.ofNat x] = [.int .u8 (x : Int)] by simp only [bc, List.map_cons, List.map_nil]; rw [u8_of x h]]
  exact this
theorem strOf_tb (n : Nat) : byteCells (strOfNums (tnums n)) = bc (tb n) := rfl
set_option maxRecDepth 100000 in
theorem head_short (base n : Nat) (w : World) (h : n ≤ 55) (hb : base ≤ 192) :
    Calls Try.prog 45 #[.int .u8 base, .int .i64 n] w fun e w' => ∃ v, e = .returned v ∧ Ow w' w.heap.size v (hd base n) ∧ Below w.heap.size w w' := by
  have hn : (n : Int) ≤ 55 := by omega
  have hx := byte_wrap base n (by omega)
  have hO := ow_lit w (base + n) (by omega) w.heap.size (Nat.le_refl _)
  have HO : Hid (Ow (w.alloc (.cells #[.int .u8 ((base : Int) + (n : Int))] 5)) w.heap.size (.slice (some ⟨w.heap.size, 0, none⟩) 1 1) (hd base n)) := by
    show Ow _ _ _ _
    rw [hd, if_pos h]; exact hO
  clear hO hx
  go_enter Try.func45, Try.ntmps45
  go_wp2_with fail
  go_ret
  exact ⟨_, rfl, HO.out, (Below.refl _ _).alloc (Nat.le_refl _) _⟩
set_option maxRecDepth 100000 in
theorem head_long (base n : Nat) (w : World) (h : 55 < n) (hm : n ≤ 9223372036854775807) (hb : base ≤ 192) :
    Calls Try.prog 45 #[.int .u8 base, .int .i64 n] w fun e w' => ∃ v, e = .returned v ∧ Ow w' w.heap.size v (hd base n) ∧ Below w.heap.size w w' := by
  have hn : ¬ (n : Int) ≤ 55 := by omega
  have hw : IntKind.u64.wrap (n : Int) = n := by rw [IntKind.wrap_u64]; omega
  have hT : Hid (∀ w, Calls Try.prog 56 #[.agg (A4 n 0 0 0)] w fun e w' => e = .returned (.string (strOfNums (tnums n))) ∧ Below w.heap.size w w') := by
    intro w; rw [← V_small n (by omega)]; exact text n (by unfold M256; omega) w
  have hS : (strOfNums (tnums n)).size = tlen n := by rw [strOfNums_size, tnums_length]
  have hL : tlen n ≤ 8 := tlen_lt (by simp; omega)
  have HB : Hid (byteCells (strOfNums (tnums n)) = bc (tb n)) := strOf_tb n
  have HD : Hid (hd base n = [UInt8.ofNat (base + 55 + tlen n)] ++ tb n) := by show _ = _; rw [hd, if_neg (by omega)]; rfl
  obtain ⟨i0, hi, hz0, hz1, hz2⟩ := info_of info5
  have HI : Hid (Try.prog.info? 5 = some i0) := hi
  have HZ : Hid (i0.zero = some (.int .u8 0) ∧ i0.size = 1 ∧ i0.bytes = 1) := ⟨hz0, hz1, hz2⟩
  clear hi hz0 hz1 hz2
  generalize strOfNums (tnums n) = S at *
  generalize tlen n = L at *
  have hS' : (S.size : Int) = (L : Int) := by omega
  go_enter Try.func45, Try.ntmps45
  go_wp2_with (first | (go_at_call 56; refine (hT.out _).mono ?_; rintro e w1 ⟨rfl, hb1⟩; have hO : Hid (Ow (w1.alloc (.cells #[.int .u8 ((base : Int) + 55 + (L : Int))] 5)) w.heap.size (.slice (some ⟨w1.heap.size, 0, none⟩) 1 1) [UInt8.ofNat (base + 55 + L)]) := ow_lit w1 (base + 55 + L) (by omega) w.heap.size hb1.size) | (at_builtin; refine wpList_append_src rfl _ _ 45 9 rfl w.heap.size 5 i0 (.int .u8 0) 1 1 Try.underlying45 HI.out HZ.out.1 HZ.out.2.1 HZ.out.2.2 rfl _ _ 1 _ S.size _ rfl rfl hO.out (Src.ofString _ Try.underlying9 S) (by unfold maxLen; omega) (by omega) (by simp; have := hb1.size; omega) ?_; intro v1 w2 hown2 hgr2 hsn2))
  go_ret
  refine ⟨_, rfl, ?_, ?_⟩
  · rw [HD.out]
    rw [HB.out] at hown2
    show World.ownsRow _ _ _ _ _ _ _
    rw [bc_append, List.length_append, tb_length]
    have e : S.size = tlen n := by have := congrArg List.length HB.out; rw [byteCells_length, bc_length, tb_length] at this; exact this
    rw [e] at hown2
    exact hown2
  · exact (hb1.alloc hb1.size _).grown hgr2 (by simp; have := hb1.size; omega) (fun j hj => by have := (Ow.ge hO.out hj).1; omega)
theorem head (base n : Nat) (w : World) (hm : n ≤ 9223372036854775807) (hb : base ≤ 192) :
    Calls Try.prog 45 #[.int .u8 base, .int .i64 n] w fun e w' => ∃ v, e = .returned v ∧ Ow w' w.heap.size v (hd base n) ∧ Below w.heap.size w w' := by
  by_cases h : n ≤ 55
  · exact head_short base n w h hb
  · exact head_long base n w (by omega) hm hb
end Go.Proofs.Ytliaegnhnnnojaa

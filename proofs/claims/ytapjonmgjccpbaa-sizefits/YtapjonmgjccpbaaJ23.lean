/- Texts joined: RHd RRaw ItP RItm. -/
import Derived.Test.YtapjonmgjccpbaaJ7
import Derived.Test.YtapjonmgjccpbaaJ22
import Derived.Test.YtapjonmgjccpbaaJ19
import Derived.Test.YtapjonmgjccpbaaJ3
section
set_option linter.unusedSimpArgs false
set_option linter.unusedVariables false
namespace Go.Proofs.Ytapjonmgjccpbaa
open Go.RowKit

/-! tarnref4.head. -/
theorem refOf (n : Nat) (h : n ≤ 9223372036854775807) (w : World) :
    Calls Try.prog 77 #[.int .i64 n] w fun e w' => e = .returned (V n) ∧ Below w.heap.size w w' := by
  rw [V_small n (by omega)]
  have hw : IntKind.u64.wrap (n : Int) = n := by rw [IntKind.wrap_u64]; omega
  go_enter Try.func77, Try.ntmps77
  go_wp2_with fail
  refine bodyPost_ret (v := .agg (A4 n 0 0 0)) ?_ rfl ⟨rfl, ?_⟩
  · simp [results, Try.results77, go_sem]
  · exact (Below.refl _ _).alloc (Nat.le_refl _) _
set_option maxRecDepth 100000 in
theorem rhead_short (base n : Nat) (w : World) (h : n ≤ 55) (hb : base ≤ 192) :
    Calls Try.prog 111 #[.int .i64 n, .int .i64 base] w fun e w' => e = .returned (.string (st (hd base n))) ∧ Below w.heap.size w w' := by
  have hn : (n : Int) ≤ 55 := by omega
  have hx : IntKind.u8.wrap ((base : Int) + (n : Int)) = (base : Int) + (n : Int) := by simp only [IntKind.wrap, IntKind.signed, IntKind.bits]; simp; omega
  have hO := (ow_lit w (base + n) (by omega) w.heap.size (Nat.le_refl _)).string
  have e : (((base + n : Nat)) : Int) = (base : Int) + (n : Int) := by omega
  rw [e] at hO
  have HE : Hid (st (hd base n) = ⟨[UInt8.ofNat (base + n)].toArray⟩) := by show _ = _; rw [hd, if_pos h]; rfl
  generalize (⟨[UInt8.ofNat (base + n)].toArray⟩ : ByteArray) = S0 at *
  clear e
  go_enter Try.func111, Try.ntmps111
  go_wp2_with fail
  go_ret
  rw [HE.out]
  exact ⟨rfl, (Below.refl _ _).alloc (Nat.le_refl _) _⟩
set_option maxRecDepth 100000 in
theorem rhead_long (base n : Nat) (w : World) (h : 55 < n) (hm : n ≤ 9223372036854775807) (hb : base ≤ 192) :
    Calls Try.prog 111 #[.int .i64 n, .int .i64 base] w fun e w' => e = .returned (.string (st (hd base n))) ∧ Below w.heap.size w w' := by
  have hn : ¬ (n : Int) ≤ 55 := by omega
  have hS : (strOfNums (tnums n)).size = tlen n := by rw [strOfNums_size, tnums_length]
  have hL : tlen n ≤ 8 := tlen_lt (by simp; omega)
  have hT : Hid (∀ w, Calls Try.prog 61 #[V n] w fun e w' => e = .returned (.string (strOfNums (tnums n))) ∧ Below w.heap.size w w') := fun w => rtext n (by unfold M256; omega) w
  have hOf : Hid (∀ w, Calls Try.prog 77 #[.int .i64 n] w fun e w' => e = .returned (V n) ∧ Below w.heap.size w w') := fun w => refOf n hm w
  have HD : Hid (st (hd base n) = st [UInt8.ofNat (base + 55 + tlen n)] ++ strOfNums (tnums n)) := by show _ = _; rw [hd, if_neg (by omega), show UInt8.ofNat (base + 55 + tlen n) :: tb n = [UInt8.ofNat (base + 55 + tlen n)] ++ tb n from rfl, ← st_append]; rfl
  have hO0 : Hid (∀ w2 : World, (convert 51 9 (.slice (some ⟨w2.heap.size, 0, none⟩) 1 1)).run Try.prog (w2.alloc (.cells #[.int .u8 ((base : Int) + 55 + (tlen n : Int))] 5)) = .ok (.string (st [UInt8.ofNat (base + 55 + tlen n)])) (w2.alloc (.cells #[.int .u8 ((base : Int) + 55 + (tlen n : Int))] 5))) := fun w2 => (ow_lit w2 (base + 55 + tlen n) (by omega) w2.heap.size (Nat.le_refl _)).string
  have hS0 : (st [UInt8.ofNat (base + 55 + tlen n)]).size = 1 := rfl
  generalize st [UInt8.ofNat (base + 55 + tlen n)] = S0 at *
  generalize strOfNums (tnums n) = S at *
  generalize tlen n = L at *
  have hS' : (S.size : Int) = (L : Int) := by omega
  have hx : IntKind.u8.wrap ((base : Int) + 55 + (L : Int)) = (base : Int) + 55 + (L : Int) := by simp only [IntKind.wrap, IntKind.signed, IntKind.bits]; simp; omega
  go_enter Try.func111, Try.ntmps111
  go_wp2_with (first | (go_at_call 77; refine (hOf.out _).mono ?_; rintro e w1 ⟨rfl, hb1⟩) | (go_at_call 61; refine (hT.out _).mono ?_; rintro e w2 ⟨rfl, hb2⟩; have hO := hO0.out w2))
  go_ret
  rw [HD.out]
  exact ⟨rfl, (hb1.trans (hb2.mono hb1.size)).alloc (Nat.le_trans hb1.size hb2.size) _⟩
theorem rhead (base n : Nat) (w : World) (hm : n ≤ 9223372036854775807) (hb : base ≤ 192) :
    Calls Try.prog 111 #[.int .i64 n, .int .i64 base] w fun e w' => e = .returned (.string (st (hd base n))) ∧ Below w.heap.size w w' := by
  by_cases h : n ≤ 55
  · exact rhead_short base n w h hb
  · exact rhead_long base n w (by omega) hm hb
end Go.Proofs.Ytapjonmgjccpbaa
end
section
set_option linter.unusedSimpArgs false
set_option linter.unusedVariables false
namespace Go.Proofs.Ytapjonmgjccpbaa
open Go.RowKit

/-! The page's raw and Item by contract. -/
structure RawR (a : IT) (r : ByteArray) : Prop where
  exact : a.raw.length ≤ 131072 → r = st a.raw
  great : 131072 < a.raw.length → 65536 < r.size
  le : r.size ≤ 10 * a.wt
structure RawsR (xs : List IT) (r : ByteArray) : Prop where
  exact : (IT.raws xs).length ≤ 131072 → r = st (IT.raws xs)
  great : 131072 < (IT.raws xs).length → 65536 < r.size
  le : r.size ≤ 10 * IT.wts xs
theorem ba_size (a b : ByteArray) : (a ++ b).size = a.size + b.size := ByteArray.size_append
theorem RawsR.nil : RawsR [] (st []) := ⟨fun _ => rfl, fun h => by simp [IT.raws] at h, by simp [st_size]⟩
theorem RawsR.step {xs : List IT} {s r : ByteArray} {k : Nat} (hk : k < xs.length) (h : RawsR (xs.take k) s) (hr : RawR xs[k] r) : RawsR (xs.take (k + 1)) (s ++ r) := by
  have e := raws_take xs k hk
  have ew := wts_take xs k hk
  refine ⟨fun hl => ?_, fun hl => ?_, ?_⟩
  · rw [e, List.length_append] at hl
    rw [e, ← st_append, h.exact (by omega), hr.exact (by omega)]
  · rw [e, List.length_append] at hl
    rw [ba_size]
    by_cases h1 : 131072 < (IT.raws (xs.take k)).length
    · have := h.great h1; omega
    · by_cases h2 : 131072 < xs[k].raw.length
      · have := hr.great h2; omega
      · rw [h.exact (by omega), hr.exact (by omega), st_size, st_size]; omega
  · rw [ba_size, ew]; have := h.le; have := hr.le; omega
theorem RawR.of_list {t : ByteArray} {xs : List IT} {s : ByteArray} (h : RawsR xs s) (hw : IT.wts xs ≤ 1125899906842624) : RawR (.mk true t xs) (st (hd 192 s.size) ++ s) := by
  have hs := h.le
  have hh := hd_le 192 s.size (by omega)
  have e : (IT.mk true t xs).raw = hd 192 (IT.raws xs).length ++ IT.raws xs := raw_list t xs
  have hp := hd_pos 192 (IT.raws xs).length
  refine ⟨fun hl => ?_, fun hl => ?_, ?_⟩
  · rw [e, List.length_append] at hl
    have := h.exact (by omega)
    rw [e, ← st_append, this, st_size]
  · by_cases h1 : 131072 < (IT.raws xs).length
    · rw [ba_size]; have := h.great h1; omega
    · have := h.exact (by omega)
      rw [this, st_size, ba_size, st_size, st_size]
      rw [e, List.length_append] at hl
      omega
  · rw [ba_size, st_size]
    show _ ≤ 10 * (1 + t.size + IT.wts xs)
    omega
/-- Left early: what is there is too much already. -/
theorem RawR.of_great {t : ByteArray} {xs : List IT} {s : ByteArray} {k : Nat} (h : RawsR (xs.take k) s) (hg : 131072 < s.size) (hw : IT.wts xs ≤ 1125899906842624) : RawR (.mk true t xs) (st (hd 192 s.size) ++ s) := by
  have hs := h.le
  have hwl := wts_le xs k
  have hh := hd_le 192 s.size (by omega)
  have e : (IT.mk true t xs).raw = hd 192 (IT.raws xs).length ++ IT.raws xs := raw_list t xs
  have hl := raws_le xs k
  have hbig : 131072 < (IT.raws xs).length := by
    by_cases h1 : (IT.raws (xs.take k)).length ≤ 131072
    · have := h.exact h1; rw [this, st_size] at hg; omega
    · omega
  refine ⟨fun hl => ?_, fun _ => ?_, ?_⟩
  · rw [e, List.length_append] at hl; omega
  · rw [ba_size]; omega
  · rw [ba_size, st_size]
    show _ ≤ 10 * (1 + t.size + IT.wts xs)
    omega
theorem RawR.of_text (t : ByteArray) (xs : List IT) (r : ByteArray) (e : r = st (traw t.data.toList)) (ht : t.size ≤ 1125899906842624) : RawR (.mk false t xs) r := by
  have er : (IT.mk false t xs).raw = traw t.data.toList := raw_text t xs
  refine ⟨fun _ => by rw [er, e], fun h => by rw [e, st_size, ← er]; omega, ?_⟩
  rw [e, st_size]
  have hh := hd_le 128 t.size (by omega)
  show _ ≤ 10 * (1 + t.size + IT.wts xs)
  unfold traw
  split
  · rw [data_len]; omega
  · rw [List.length_append, data_len]; omega
def RwS (n : Nat) : Prop := ∀ (a : IT) (ad : Option Addr) (l c : Nat) (w : World), Rd w n a.items (.slice ad l c) → a.wt ≤ 1125899906842624 →
  Calls Try.prog 92 #[.agg #[.bool a.list, .string a.text, .slice ad l c]] w fun e w' => (∃ r, e = .returned (.string r) ∧ RawR a r) ∧ Below w.heap.size w w'
def Tx1 (b : Nat) (t : ByteArray) (w0 w : World) : Prop := w.cell? ⟨b, 1, none⟩ = some (.string t) ∧ Below w0.heap.size w0 w
theorem Tx1.below {b : Nat} {t : ByteArray} {w0 w w' : World} (h : Tx1 b t w0 w) (hb : Below w.heap.size w w') : Tx1 b t w0 w' := ⟨(hb.cell (cell_lt' h.1)).trans h.1, h.2.trans (hb.mono h.2.size)⟩
theorem Tx1.drew {b : Nat} {t : ByteArray} {w0 w : World} (h : Tx1 b t w0 w) : Tx1 b t w0 w.drew := h.below ((Below.refl _ w).drew)
set_option maxRecDepth 100000 in
set_option maxHeartbeats 1000000 in
theorem raw_long (t : ByteArray) (xs : List IT) (ad : Option Addr) (cp : Nat) (w : World) (ht : t.size ≤ 1125899906842624) (hbr : bareS t = false) (hpk : ((t.size : Int) == 1) = false ∨ ∃ h : 0 < t.size, ((t.size : Int) == 1) = true ∧ ¬ (t[0].toNat : Int) < 128) :
    Calls Try.prog 92 #[.agg #[.bool false, .string t, .slice ad xs.length cp]] w fun e w' => (∃ r, e = .returned (.string r) ∧ RawR (.mk false t xs) r) ∧ Below w.heap.size w w' := by
  have HR : Hid (RawR (.mk false t xs) (st (hd 128 t.size) ++ t)) := RawR.of_text t xs _ (by rw [traw_not t hbr, ← st_append, st_data]) ht
  have hHc : Hid (∀ w, Calls Try.prog 111 #[.int .i64 t.size, .int .i64 128] w fun e w' => e = .returned (.string (st (hd 128 t.size))) ∧ Below w.heap.size w w') := fun w => rhead 128 t.size w (by omega) (by omega)
  have hls : (st (hd 128 t.size)).size ≤ 9 := by rw [st_size]; exact hd_le 128 t.size (by omega)
  generalize st (hd 128 t.size) = S0 at *
  have hsum : S0.size + t.size ≤ 9223372036854775807 := by omega
  have hsum' : ¬ 9223372036854775807 < S0.size + t.size := by omega
  have bx := Bk.new w #[.bool false, .string t, .slice ad xs.length cp] 70
  obtain ⟨W1, hW1⟩ : ∃ W1, W1 = w.alloc (.cells #[.bool false, .string t, .slice ad xs.length cp] 70) := ⟨_, rfl⟩
  have HW1 : Hid (W1 = w.alloc (.cells #[.bool false, .string t, .slice ad xs.length cp] 70)) := hW1
  rw [← hW1] at bx
  obtain ⟨q0, q1, q2⟩ := box_cells bx
  have hT : Tx1 w.heap.size t W1 W1 := ⟨q1, Below.refl _ _⟩
  clear hW1 bx
  have hend : Hid (Below w.heap.size w W1) := by show Below _ _ _; rw [HW1.out]; exact (Below.refl _ _).alloc (Nat.le_refl _) _
  rcases hpk with hs | ⟨hp, hs, hlt⟩
  case' inr => have hix := idx_str t 0 0 hp rfl
  all_goals
    go_enter Try.func92, Try.ntmps92
    go_upto_region 4 with fail
    rw [← HW1.out]
    go_region_held3 (fun w' => w'.cell? ⟨w.heap.size, 1, none⟩ = some (.string t) ∧ Below W1.heap.size W1 w') ((show Tx1 w.heap.size t W1 _; repeat (first | with_reducible exact hT | with_reducible refine Tx1.drew ?_))) ((go_at_call 111; refine (hHc.out _).mono ?_; rintro e w2 ⟨rfl, hb2⟩; have hT := Tx1.below (b := w.heap.size) (t := t) (w0 := W1) (by repeat (first | with_reducible exact hT | with_reducible refine Tx1.drew ?_)) hb2))
    go_wp2_with fail
    go_ret
    exact ⟨⟨_, rfl, HR.out⟩, hend.out.trans (hT.2.mono hend.out.size)⟩
theorem raw_txt (t : ByteArray) (xs : List IT) (ad : Option Addr) (cp : Nat) (w : World) (ht : t.size ≤ 1125899906842624) :
    Calls Try.prog 92 #[.agg #[.bool false, .string t, .slice ad xs.length cp]] w fun e w' => (∃ r, e = .returned (.string r) ∧ RawR (.mk false t xs) r) ∧ Below w.heap.size w w' := by
  by_cases h1 : t.size = 1
  · have hs : ((t.size : Int) == 1) = true := by rw [h1]; rfl
    by_cases hlt : (t[0].toNat : Int) < 128
    · have hix := idx_str t 0 0 (by omega) rfl
      have HR : Hid (RawR (.mk false t xs) t) := RawR.of_text t xs t (by rw [traw_bare t (by rw [bareS_pos h1]; simpa using hlt), st_data]) ht
      go_enter Try.func92, Try.ntmps92
      go_wp2_with fail
      go_ret
      exact ⟨⟨t, rfl, HR.out⟩, (Below.refl _ _).alloc (Nat.le_refl _) _⟩
    · exact raw_long t xs ad cp w ht (by rw [bareS_pos h1]; simpa using hlt) (.inr ⟨by omega, hs, hlt⟩)
  · exact raw_long t xs ad cp w ht (bareS_neg h1) (.inl (by rw [beq_eq_false_iff_ne]; omega))
set_option maxRecDepth 100000 in
set_option maxHeartbeats 2000000 in
theorem raw_lst (n : Nat) (IH : RwS n) (t : ByteArray) (xs : List IT) (ad : Option Addr) (cp : Nat) (w : World) (hr : Rd w (n + 1) xs (.slice ad xs.length cp)) (hwt : IT.wts xs ≤ 1125899906842624) (ht : t.size ≤ 1125899906842624) :
    Calls Try.prog 92 #[.agg #[.bool true, .string t, .slice ad xs.length cp]] w fun e w' => (∃ r, e = .returned (.string r) ∧ RawR (.mk true t xs) r) ∧ Below w.heap.size w w' := by
  obtain ⟨_, e1, _, _, e2, hxl, hat⟩ := hr.at
  obtain rfl : n = _ := by simpa using e1
  simp at e2
  obtain ⟨rfl, rfl⟩ := e2
  have HA : Hid (∀ i (hi : i < xs.length), ∃ b off, ad = some ⟨b, off, none⟩ ∧ ∃ x l c, w.cell? ⟨b, off + i * 3, none⟩ = some (.bool xs[i].list) ∧ w.cell? ⟨b, off + i * 3 + 1, none⟩ = some (.string xs[i].text) ∧ w.cell? ⟨b, off + i * 3 + 2, none⟩ = some (.slice x l c) ∧ Rd w n xs[i].items (.slice x l c)) := hat
  have HI : Hid (RwS n) := IH
  have HL : Hid (IT.wts xs ≤ 1125899906842624) := hwt
  clear hat hr e1 IH hwt
  have bA := Bk.new w #[.bool true, .string t, .slice ad xs.length cp] 70
  go_enter Try.func92, Try.ntmps92
  go_wp2_with fail
  go_loopw [3, 4] (fun v i wr => ∃ (k : Nat) (s : ByteArray), k ≤ xs.length ∧ i = .int .i64 k ∧ v = .string s ∧ s.size ≤ 1125899906842624 * 10 ∧ Hid (RawsR (xs.take k) s) ∧ Bk wr w.heap.size #[.bool true, .string t, .slice ad xs.length cp] 70 ∧ Below w.heap.size w wr) (fun _ i _ => xs.length - (intOf i).toNat)
  case atStart => exact ⟨0, st [], by omega, rfl, rfl, by rw [st_size]; simp, by show RawsR _ _; rw [List.take_zero]; exact RawsR.nil, bA, (Below.refl _ _).alloc (Nat.le_refl _) _⟩
  case round =>
    clear bA
    obtain ⟨k, s, hk, rfl, rfl, hss, hinv, bA, hbo⟩ := hrel
    have hszo := hbo.size
    obtain ⟨p0, p1, p2⟩ := box_cells bA
    have hHc : Hid (∀ w, Calls Try.prog 111 #[.int .i64 s.size, .int .i64 192] w fun e w' => e = .returned (.string (st (hd 192 s.size))) ∧ Below w.heap.size w w') := fun w => rhead 192 s.size w (by omega) (by omega)
    have hls : (st (hd 192 s.size)).size ≤ 9 := by rw [st_size]; exact hd_le 192 s.size (by omega)
    have HE : Hid (∀ r : ByteArray, r = st (hd 192 s.size) ++ s → (k = xs.length ∨ 131072 < s.size) → RawR (.mk true t xs) r) := by
      rintro r rfl (hkl | hg)
      · have := hinv.out; rw [hkl, List.take_length] at this; exact RawR.of_list this HL.out
      · exact RawR.of_great hinv.out hg HL.out
    generalize st (hd 192 s.size) = S0 at *
    have hsum : S0.size + s.size ≤ 9223372036854775807 := by omega
    have hsum' : ¬ 9223372036854775807 < S0.size + s.size := by omega
    by_cases hlt : k < xs.length
    · have hlt' : (k : Int) < (xs.length : Int) := by omega
      by_cases hg : s.size ≤ 131072
      · have hg' : (s.size : Int) ≤ 131072 := by omega
        obtain ⟨b, off, rfl, x0, x1, x2, c0, c1, c2, hrd⟩ := HA.out k hlt
        have c0 := (hbo.cell (cell_lt' c0)).trans c0
        have c1 := (hbo.cell (cell_lt' c1)).trans c1
        have c2 := (hbo.cell (cell_lt' c2)).trans c2
        have hwk := wt_get xs k hlt
        have hcall := HI.out xs[k] x0 x1 x2 wr (hrd.below hbo) (by have := HL.out; omega)
        have hstep : Hid (∀ r, RawR xs[k] r → RawsR (xs.take (k + 1)) (s ++ r) ∧ r.size ≤ 1125899906842624 * 10) := fun r hr => ⟨RawsR.step hlt hinv.out hr, by have := hr.le; have := HL.out; omega⟩
        have hwl := wts_le xs (k + 1)
        generalize hxk : xs[k] = xk at *
        have HC : Hid (Calls Try.prog 92 #[.agg #[.bool xk.list, .string xk.text, .slice x0 x1 x2]] wr fun e w' => (∃ r, e = .returned (.string r) ∧ RawR xk r) ∧ Below wr.heap.size wr w') := hcall
        clear hcall hxk hrd hwk
        go_wp2_with (go_at_call 92; refine HC.out.mono ?_; rintro e w2 ⟨⟨r, rfl, hr⟩, hb2⟩; have hst := hstep.out r hr; have hr10 := hst.2; have HS : Hid (RawsR (xs.take (k + 1)) (s ++ r)) := hst.1; have hsm : s.size + r.size ≤ 9223372036854775807 := (by omega); have hsm' : ¬ 9223372036854775807 < s.size + r.size := (by omega); clear hst hr)
        go_roundw
        case rel =>
          have h1 := HS.out.le
          have h3 := HL.out
          refine ⟨k + 1, s ++ r, by omega, by go_num, rfl, by omega, HS.out, bA.below hb2 bA.lt, hbo.trans (hb2.mono hszo)⟩
        case measure => simp [intOf]; omega
      · have hg' : ¬ (s.size : Int) ≤ 131072 := by omega
        go_wp2_with (go_at_call 111; refine (hHc.out _).mono ?_; rintro e w2 ⟨rfl, hb2⟩)
        go_ret
        exact ⟨⟨_, rfl, HE.out _ rfl (.inr (by omega))⟩, hbo.trans (hb2.mono hszo)⟩
    · have hlt' : ¬ (k : Int) < (xs.length : Int) := by omega
      go_wp2_with (go_at_call 111; refine (hHc.out _).mono ?_; rintro e w2 ⟨rfl, hb2⟩)
      go_ret
      exact ⟨⟨_, rfl, HE.out _ rfl (.inl (by omega))⟩, hbo.trans (hb2.mono hszo)⟩
theorem raw : ∀ n, RwS n
  | 0 => fun a ad l c w h => h.elim
  | n + 1 => fun a ad l c w hr hw => by
    have IH := raw n
    obtain ⟨li, t, xs⟩ := a
    have hwe : (IT.mk li t xs).wt = 1 + t.size + IT.wts xs := rfl
    rw [hwe] at hw
    simp only [IT.list, IT.text, IT.items] at hr ⊢
    obtain ⟨m, e1, ad', cp, e2, hxl, -⟩ := hr.at
    simp at e2
    obtain ⟨rfl, rfl, rfl⟩ := e2
    cases li with
    | false => exact raw_txt t xs ad c w (by omega)
    | true => exact raw_lst n IH t xs ad c w hr (by omega) (by omega)
end Go.Proofs.Ytapjonmgjccpbaa
end
section
set_option linter.unusedSimpArgs false
set_option linter.unusedVariables false
namespace Go.Proofs.Ytapjonmgjccpbaa
open Go.RowKit

/-! tarnref4.deep. -/
set_option maxRecDepth 100000 in
set_option maxHeartbeats 1000000 in
theorem pdeep : ∀ (n : Nat) (a : IT) (sv : Value) (w : World), Rd w n a.items sv → a.pd ≤ 1152921504606846976 →
    Calls Try.prog 91 #[itv a sv] w fun e w' => e = .returned (.int .i64 (a.pd : Int)) ∧ Below w.heap.size w w'
  | n, .mk l t xs, sv, w, ha, hw => by
    obtain ⟨m, rfl, ad, cap, rfl, hl, hat⟩ := ha.at
    have IH : Hid (∀ (a : IT) (sv : Value) (w : World), Rd w m a.items sv → a.pd ≤ 1152921504606846976 → Calls Try.prog 91 #[itv a sv] w fun e w' => e = .returned (.int .i64 (a.pd : Int)) ∧ Below w.heap.size w w') := pdeep m
    simp only [IT.items] at hl hat
    have HA : Hid (∀ i (hi : i < xs.length), ∃ b off, ad = some ⟨b, off, none⟩ ∧ ∃ x l c, w.cell? ⟨b, off + i * 3, none⟩ = some (.bool xs[i].list) ∧ w.cell? ⟨b, off + i * 3 + 1, none⟩ = some (.string xs[i].text) ∧ w.cell? ⟨b, off + i * 3 + 2, none⟩ = some (.slice x l c) ∧ Rd w m xs[i].items (.slice x l c)) := hat
    show Calls Try.prog 91 #[.agg #[.bool l, .string t, .slice ad xs.length cap]] w fun e w' => e = .returned (.int .i64 ((IT.mk l t xs).pd : Int)) ∧ Below w.heap.size w w'
    cases l with
    | false =>
      by_cases h0 : xs.length = 0
      · rw [show (IT.mk false t xs).pd = 0 by simp [IT.pd, h0]]
        have h0' : decide (0 < (xs.length : Int)) = false := decide_eq_false (by omega)
        have h0'' : decide (0 < xs.length) = false := decide_eq_false (by omega)
        clear h0
        go_enter Try.func91, Try.ntmps91
        go_wp2_with fail
        go_ret
        exact ⟨rfl, (Below.refl _ _).alloc (Nat.le_refl _) _⟩
      · rw [show (IT.mk false t xs).pd = 17 by simp [IT.pd, h0]]
        have h0' : (0 : Int) < (xs.length : Int) := by omega
        have h0'' : 0 < xs.length := by omega
        clear h0
        go_enter Try.func91, Try.ntmps91
        go_wp2_with fail
        go_ret
        exact ⟨rfl, (Below.refl _ _).alloc (Nat.le_refl _) _⟩
    | true =>
    by_cases ht : t.size = 0
    case neg =>
      rw [show (IT.mk true t xs).pd = 17 by simp [IT.pd, ht]]
      have ht' : (t.toList == []) = false := by rw [beq_eq_false_iff_ne]; intro h; exact ht (by have := bytes_inj (a := t) (b := ByteArray.empty) (h.trans (by rw [ByteArray.toList_eq]; rfl)); rw [this]; rfl)
      clear ht
      go_enter Try.func91, Try.ntmps91
      go_wp2_with fail
      go_ret
      exact ⟨rfl, (Below.refl _ _).alloc (Nat.le_refl _) _⟩
    have hwe : (IT.mk true t xs).pd = IT.pds xs + 1 := by simp [IT.pd, ht]
    obtain rfl := bytes_nil t ht
    clear ht
    rw [hwe] at hw ⊢
    have HL : Hid (IT.pds xs + 1 ≤ 1152921504606846976) := hw
    clear hat ha hwe hw
    have bA := Bk.new w #[.bool true, .string ByteArray.empty, .slice ad xs.length cap] 70
    go_enter Try.func91, Try.ntmps91
    go_wp2_with fail
    go_loopw [3, 4] (fun v i wr => ∃ k r : Nat, k ≤ xs.length ∧ i = .int .i64 k ∧ v = .int .i64 r ∧ r ≤ 1152921504606846975 ∧ Hid (r = IT.pds (xs.take k)) ∧ Bk wr w.heap.size #[.bool true, .string ByteArray.empty, .slice ad xs.length cap] 70 ∧ Below w.heap.size w wr) (fun v i _ => xs.length - (intOf i).toNat)
    case atStart => exact ⟨0, 0, by omega, rfl, rfl, by omega, by show 0 = IT.pds (xs.take 0); simp [IT.pds], bA, (Below.refl _ _).alloc (Nat.le_refl _) _⟩
    case round =>
      clear bA
      obtain ⟨k, r, hk, rfl, rfl, hr62, hr, bA, hbo⟩ := hrel
      have hszo := hbo.size
      have p0 := bA.cell 0
      have p1 := bA.cell 1
      have p2 := bA.cell 2
      simp only [List.getElem?_toArray, List.getElem?_cons_zero, List.getElem?_cons_succ] at p0 p1 p2
      by_cases hlt : k < xs.length
      · have hlt' : (k : Int) < (xs.length : Int) := by omega
        obtain ⟨b, off, rfl, x0, x1, x2, c0, c1, c2, hrd⟩ := HA.out k hlt
        have c0 := (hbo.cell (cell_lt' c0)).trans c0
        have c1 := (hbo.cell (cell_lt' c1)).trans c1
        have c2 := (hbo.cell (cell_lt' c2)).trans c2
        have hg := pd_get xs k hlt
        have hcall := IH.out xs[k] _ wr (hrd.below hbo) (by have := HL.out; omega)
        have htk := pds_take xs k hlt
        have hle := pds_le xs (k + 1)
        simp only [itv] at hcall
        generalize xs[k].pd = wk at *
        generalize xs[k].list = lk at *
        generalize xs[k].text = tk at *
        have HT : Hid (IT.pds (xs.take (k + 1)) = max (IT.pds (xs.take k)) wk ∧ IT.pds (xs.take (k + 1)) ≤ IT.pds xs) := ⟨htk, hle⟩
        have HC : Hid (Calls Try.prog 91 #[.agg #[.bool lk, .string tk, .slice x0 x1 x2]] wr fun e w' => e = .returned (.int .i64 (wk : Int)) ∧ Below wr.heap.size wr w') := hcall
        have hwk : wk ≤ 1152921504606846975 := by have := HL.out; omega
        clear hcall htk hle hg hrd
        by_cases hmx : r ≤ wk
        · have hmx' : (r : Int) ≤ (wk : Int) := by omega
          go_wp2_with (go_at_call 91; refine HC.out.mono ?_; rintro e w2 ⟨rfl, hb2⟩)
          all_goals
            go_roundw
            case rel =>
              have h1 := HT.out
              have h2 := hr.out
              have h3 := HL.out
              exact ⟨k + 1, wk, by omega, by go_num, by first | rfl | go_num, by omega, show wk = _ by omega, bA.below hb2 bA.lt, hbo.trans (hb2.mono hszo)⟩
            case measure => simp [intOf]; omega
        · have hmx' : ¬ (r : Int) ≤ (wk : Int) := by omega
          go_wp2_with (go_at_call 91; refine HC.out.mono ?_; rintro e w2 ⟨rfl, hb2⟩)
          all_goals
            go_roundw
            case rel =>
              have h1 := HT.out
              have h2 := hr.out
              have h3 := HL.out
              exact ⟨k + 1, r, by omega, by go_num, by first | rfl | go_num, by omega, show r = _ by omega, bA.below hb2 bA.lt, hbo.trans (hb2.mono hszo)⟩
            case measure => simp [intOf]; omega
      · have hlt' : decide ((k : Int) < (xs.length : Int)) = false := by simp; omega
        go_wp2_with fail
        go_ret
        have hkl : k = xs.length := by omega
        have h1 := hr.out
        rw [hkl, List.take_length] at h1
        exact ⟨by rw [← h1]; go_num, hbo⟩
end Go.Proofs.Ytapjonmgjccpbaa
end
section
set_option linter.unusedSimpArgs false
set_option linter.unusedVariables false
namespace Go.Proofs.Ytapjonmgjccpbaa
open Go.RowKit

/-! The page's Item by contract. -/
set_option maxRecDepth 100000 in
theorem ritem (n : Nat) (a : IT) (ad : Option Addr) (l c : Nat) (w : World) (hr : Rd w n a.items (.slice ad l c)) (hw : a.wt ≤ 1099511627776) :
    Calls Try.prog 59 #[.agg #[.bool a.list, .string a.text, .slice ad l c]] w fun e w' => e = .returned (.tuple #[.string (itS a), .bool (decide (ItOk a))]) ∧ Below w.heap.size w w' := by
  have hdp := dp_wt a
  have hpd := pd_dp a
  have HD : Hid (∀ W, Below w.heap.size w W → Calls Try.prog 91 #[.agg #[.bool a.list, .string a.text, .slice ad l c]] W fun e w' => e = .returned (.int .i64 (a.pd : Int)) ∧ Below W.heap.size W w') := fun W hW => pdeep n a _ W (hr.below hW) (by omega)
  have HR : Hid (∀ W, Below w.heap.size w W → Calls Try.prog 92 #[.agg #[.bool a.list, .string a.text, .slice ad l c]] W fun e w' => (∃ r, e = .returned (.string r) ∧ RawR a r) ∧ Below W.heap.size W w') := fun W hW => raw n a ad l c W (hr.below hW) (by omega)
  have bA := Bk.new w #[.bool a.list, .string a.text, .slice ad l c] 70
  have HB : Hid (Below w.heap.size w (w.alloc (.cells #[.bool a.list, .string a.text, .slice ad l c] 70)) ∧ Bk (w.alloc (.cells #[.bool a.list, .string a.text, .slice ad l c] 70)) w.heap.size #[.bool a.list, .string a.text, .slice ad l c] 70) := ⟨(Below.refl _ w).alloc (Nat.le_refl _) _, bA⟩
  clear hr bA
  by_cases hp : a.pd ≤ 16
  · have hp' : ¬ (16 : Int) < (a.pd : Int) := by omega
    go_enter Try.func59, Try.ntmps59
    go_wp2_with (first | (go_at_call 91; refine (HD.out _ HB.out.1).mono ?_; rintro e w1 ⟨rfl, hb1⟩; have hB1 : Hid (Below w.heap.size w w1) := HB.out.1.trans (hb1.mono (by simp)); obtain ⟨c0, c1, c2⟩ := box_cells (HB.out.2.below hb1 HB.out.2.lt)))
    refine (HR.out _ hB1.out).mono ?_
    rintro e w2 ⟨⟨r, rfl, hrr⟩, hb2⟩
    have HRR : Hid (RawR a r) := hrr
    have hrl := hrr.le
    clear hrr
    by_cases hg : r.size ≤ 65536
    · have hg' : ¬ (65536 : Int) < (r.size : Int) := by omega
      go_wp2_with fail
      go_ret2
      have hok : ItOk a := ⟨hp, by
        by_cases h1 : a.raw.length ≤ 131072
        · have := HRR.out.exact h1; rw [this, st_size] at hg; exact hg
        · have := HRR.out.great (by omega); omega⟩
      have : r = st a.raw := HRR.out.exact (by have := hok.2; omega)
      refine ⟨?_, hB1.out.trans (hb2.mono hB1.out.size)⟩
      rw [itS, if_pos hok, decide_eq_true hok, ← this]; rfl
    · have hg' : (65536 : Int) < (r.size : Int) := by omega
      go_wp2_with fail
      go_ret2
      have hno : ¬ ItOk a := fun h => by
        have := HRR.out.exact (by have := h.2; omega)
        rw [this, st_size] at hg
        exact hg h.2
      refine ⟨?_, hB1.out.trans (hb2.mono hB1.out.size)⟩
      rw [itS, if_neg hno, decide_eq_false hno]; rfl
  · have hp' : (16 : Int) < (a.pd : Int) := by omega
    have hno : ¬ ItOk a := fun h => hp h.1
    have HE : Hid (itS a = st [] ∧ decide (ItOk a) = false) := ⟨by rw [itS, if_neg hno], decide_eq_false hno⟩
    clear hno
    go_enter Try.func59, Try.ntmps59
    go_wp2_with (go_at_call 91; refine (HD.out _ HB.out.1).mono ?_; rintro e w1 ⟨rfl, hb1⟩)
    go_ret2
    exact ⟨by rw [HE.out.1, HE.out.2]; rfl, HB.out.1.trans (hb1.mono (by simp))⟩
end Go.Proofs.Ytapjonmgjccpbaa
end

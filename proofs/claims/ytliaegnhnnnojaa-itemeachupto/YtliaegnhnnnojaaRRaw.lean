import Derived.Test.YtliaegnhnnnojaaRHd
import Derived.Test.YtliaegnhnnnojaaByt
set_option linter.unusedSimpArgs false
set_option linter.unusedVariables false
namespace Go.Proofs.Ytliaegnhnnnojaa
open Go.RowKit

/-! The page's raw and Item by contract. -/
structure RawR (a : IT) (r : ByteArray) : Prop where
  exact : a.raw.length ≤ 131072 → r = st a.raw
  great : 131072 < a.raw.length → 65536 < r.size
  le : r.size ≤ 10 * a.wt
structure RawsR (xs : List IT) (r : ByteArray) : Prop where
  exact : (IT.raws xs).length ≤ 131072 → r = st (IT.raws xs)
  great : 131072 < (IT.raws xs).length → 65536 < r.size
  le : r.size ≤ 10 * IT.wts xs
theorem ba_size (a b : ByteArray) : (a ++ b).size = a.size + b.size := ByteArray.size_append
theorem RawsR.nil : RawsR [] (st []) := ⟨fun _ => rfl, fun h => by simp [IT.raws] at h, by simp [st_size]⟩
theorem RawsR.step {xs : List IT} {s r : ByteArray} {k : Nat} (hk : k < xs.length) (h : RawsR (xs.take k) s) (hr : RawR xs[k] r) : RawsR (xs.take (k + 1)) (s ++ r) := by
  have e := raws_take xs k hk
  have ew := wts_take xs k hk
  refine ⟨fun hl => ?_, fun hl => ?_, ?_⟩
  · rw [e, List.length_append] at hl
    rw [e, ← st_append, h.exact (by omega), hr.exact (by omega)]
  · rw [e, List.length_append] at hl
    rw [ba_size]
    by_cases h1 : 131072 < (IT.raws (xs.take k)).length
    · have := h.great h1; omega
    · by_cases h2 : 131072 < xs[k].raw.length
      · have := hr.great h2; omega
      · rw [h.exact (by omega), hr.exact (by omega), st_size, st_size]; omega
  · rw [ba_size, ew]; have := h.le; have := hr.le; omega
theorem RawR.of_list {t : ByteArray} {xs : List IT} {s : ByteArray} (h : RawsR xs s) (hw : IT.wts xs ≤ 1125899906842624) : RawR (.mk true t xs) (st (hd 192 s.size) ++ s) := by
  have hs := h.le
  have hh := hd_le 192 s.size (by omega)
  have e : (IT.mk true t xs).raw = hd 192 (IT.raws xs).length ++ IT.raws xs := raw_list t xs
  have hp := hd_pos 192 (IT.raws xs).length
  refine ⟨fun hl => ?_, fun hl => ?_, ?_⟩
  · rw [e, List.length_append] at hl
    have := h.exact (by omega)
    rw [e, ← st_append, this, st_size]
  · by_cases h1 : 131072 < (IT.raws xs).length
    · rw [ba_size]; have := h.great h1; omega
    · have := h.exact (by omega)
      rw [this, st_size, ba_size, st_size, st_size]
      rw [e, List.length_append] at hl
      omega
  · rw [ba_size, st_size]
    show _ ≤ 10 * (1 + t.size + IT.wts xs)
    omega
/-- Left early: what is there is too much already. -/
theorem RawR.of_great {t : ByteArray} {xs : List IT} {s : ByteArray} {k : Nat} (h : RawsR (xs.take k) s) (hg : 131072 < s.size) (hw : IT.wts xs ≤ 1125899906842624) : RawR (.mk true t xs) (st (hd 192 s.size) ++ s) := by
  have hs := h.le
  have hwl := wts_le xs k
  have hh := hd_le 192 s.size (by omega)
  have e : (IT.mk true t xs).raw = hd 192 (IT.raws xs).length ++ IT.raws xs := raw_list t xs
  have hl := raws_le xs k
  have hbig : 131072 < (IT.raws xs).length := by
    by_cases h1 : (IT.raws (xs.take k)).length ≤ 131072
    · have := h.exact h1; rw [this, st_size] at hg; omega
    · omega
  refine ⟨fun hl => ?_, fun _ => ?_, ?_⟩
  · rw [e, List.length_append] at hl; omega
  · rw [ba_size]; omega
  · rw [ba_size, st_size]
    show _ ≤ 10 * (1 + t.size + IT.wts xs)
    omega
theorem RawR.of_text (t : ByteArray) (xs : List IT) (r : ByteArray) (e : r = st (traw t.data.toList)) (ht : t.size ≤ 1125899906842624) : RawR (.mk false t xs) r := by
  have er : (IT.mk false t xs).raw = traw t.data.toList := raw_text t xs
  refine ⟨fun _ => by rw [er, e], fun h => by rw [e, st_size, ← er]; omega, ?_⟩
  rw [e, st_size]
  have hh := hd_le 128 t.size (by omega)
  show _ ≤ 10 * (1 + t.size + IT.wts xs)
  unfold traw
  split
  · rw [data_len]; omega
  · rw [List.length_append, data_len]; omega
def RwS (n : Nat) : Prop := ∀ (a : IT) (ad : Option Addr) (l c : Nat) (w : World), Rd w n a.items (.slice ad l c) → a.wt ≤ 1125899906842624 →
  Calls Try.prog 50 #[.agg #[.bool a.list, .string a.text, .slice ad l c]] w fun e w' => (∃ r, e = .returned (.string r) ∧ RawR a r) ∧ Below w.heap.size w w'
def Tx1 (b : Nat) (t : ByteArray) (w0 w : World) : Prop := w.cell? ⟨b, 1, none⟩ = some (.string t) ∧ Below w0.heap.size w0 w
theorem Tx1.below {b : Nat} {t : ByteArray} {w0 w w' : World} (h : Tx1 b t w0 w) (hb : Below w.heap.size w w') : Tx1 b t w0 w' := ⟨(hb.cell (cell_lt' h.1)).trans h.1, h.2.trans (hb.mono h.2.size)⟩
theorem Tx1.drew {b : Nat} {t : ByteArray} {w0 w : World} (h : Tx1 b t w0 w) : Tx1 b t w0 w.drew := h.below ((Below.refl _ w).drew)
set_option maxRecDepth 100000 in
set_option maxHeartbeats 1000000 in
theorem raw_long (t : ByteArray) (xs : List IT) (ad : Option Addr) (cp : Nat) (w : World) (ht : t.size ≤ 1125899906842624) (hbr : bareS t = false) (hpk : ((t.size : Int) == 1) = false ∨ ∃ h : 0 < t.size, ((t.size : Int) == 1) = true ∧ ¬ (t[0].toNat : Int) < 128) :
    Calls Try.prog 50 #[.agg #[.bool false, .string t, .slice ad xs.length cp]] w fun e w' => (∃ r, e = .returned (.string r) ∧ RawR (.mk false t xs) r) ∧ Below w.heap.size w w' := by
  have HR : Hid (RawR (.mk false t xs) (st (hd 128 t.size) ++ t)) := RawR.of_text t xs _ (by rw [traw_not t hbr, ← st_append, st_data]) ht
  have hHc : Hid (∀ w, Calls Try.prog 58 #[.int .i64 t.size, .int .i64 128] w fun e w' => e = .returned (.string (st (hd 128 t.size))) ∧ Below w.heap.size w w') := fun w => rhead 128 t.size w (by omega) (by omega)
  have hls : (st (hd 128 t.size)).size ≤ 9 := by rw [st_size]; exact hd_le 128 t.size (by omega)
  generalize st (hd 128 t.size) = S0 at *
  have hsum : S0.size + t.size ≤ 9223372036854775807 := by omega
  have hsum' : ¬ 9223372036854775807 < S0.size + t.size := by omega
  have bx := Bk.new w #[.bool false, .string t, .slice ad xs.length cp] 26
  obtain ⟨W1, hW1⟩ : ∃ W1, W1 = w.alloc (.cells #[.bool false, .string t, .slice ad xs.length cp] 26) := ⟨_, rfl⟩
  have HW1 : Hid (W1 = w.alloc (.cells #[.bool false, .string t, .slice ad xs.length cp] 26)) := hW1
  rw [← hW1] at bx
  obtain ⟨q0, q1, q2⟩ := box_cells bx
  have hT : Tx1 w.heap.size t W1 W1 := ⟨q1, Below.refl _ _⟩
  clear hW1 bx
  have hend : Hid (Below w.heap.size w W1) := by show Below _ _ _; rw [HW1.out]; exact (Below.refl _ _).alloc (Nat.le_refl _) _
  rcases hpk with hs | ⟨hp, hs, hlt⟩
  case' inr => have hix := idx_str t 0 0 hp rfl
  all_goals
    go_enter Try.func50, Try.ntmps50
    go_upto_region 4 with fail
    rw [← HW1.out]
    go_region_held3 (fun w' => w'.cell? ⟨w.heap.size, 1, none⟩ = some (.string t) ∧ Below W1.heap.size W1 w') ((show Tx1 w.heap.size t W1 _; repeat (first | with_reducible exact hT | with_reducible refine Tx1.drew ?_))) ((go_at_call 58; refine (hHc.out _).mono ?_; rintro e w2 ⟨rfl, hb2⟩; have hT := Tx1.below (b := w.heap.size) (t := t) (w0 := W1) (by repeat (first | with_reducible exact hT | with_reducible refine Tx1.drew ?_)) hb2))
    go_wp2_with fail
    go_ret
    exact ⟨⟨_, rfl, HR.out⟩, hend.out.trans (hT.2.mono hend.out.size)⟩
theorem raw_txt (t : ByteArray) (xs : List IT) (ad : Option Addr) (cp : Nat) (w : World) (ht : t.size ≤ 1125899906842624) :
    Calls Try.prog 50 #[.agg #[.bool false, .string t, .slice ad xs.length cp]] w fun e w' => (∃ r, e = .returned (.string r) ∧ RawR (.mk false t xs) r) ∧ Below w.heap.size w w' := by
  by_cases h1 : t.size = 1
  · have hs : ((t.size : Int) == 1) = true := by rw [h1]; rfl
    by_cases hlt : (t[0].toNat : Int) < 128
    · have hix := idx_str t 0 0 (by omega) rfl
      have HR : Hid (RawR (.mk false t xs) t) := RawR.of_text t xs t (by rw [traw_bare t (by rw [bareS_pos h1]; simpa using hlt), st_data]) ht
      go_enter Try.func50, Try.ntmps50
      go_wp2_with fail
      go_ret
      exact ⟨⟨t, rfl, HR.out⟩, (Below.refl _ _).alloc (Nat.le_refl _) _⟩
    · exact raw_long t xs ad cp w ht (by rw [bareS_pos h1]; simpa using hlt) (.inr ⟨by omega, hs, hlt⟩)
  · exact raw_long t xs ad cp w ht (bareS_neg h1) (.inl (by rw [beq_eq_false_iff_ne]; omega))
set_option maxRecDepth 100000 in
set_option maxHeartbeats 2000000 in
theorem raw_lst (n : Nat) (IH : RwS n) (t : ByteArray) (xs : List IT) (ad : Option Addr) (cp : Nat) (w : World) (hr : Rd w (n + 1) xs (.slice ad xs.length cp)) (hwt : IT.wts xs ≤ 1125899906842624) (ht : t.size ≤ 1125899906842624) :
    Calls Try.prog 50 #[.agg #[.bool true, .string t, .slice ad xs.length cp]] w fun e w' => (∃ r, e = .returned (.string r) ∧ RawR (.mk true t xs) r) ∧ Below w.heap.size w w' := by
  obtain ⟨_, e1, _, _, e2, hxl, hat⟩ := hr.at
  obtain rfl : n = _ := by simpa using e1
  simp at e2
  obtain ⟨rfl, rfl⟩ := e2
  have HA : Hid (∀ i (hi : i < xs.length), ∃ b off, ad = some ⟨b, off, none⟩ ∧ ∃ x l c, w.cell? ⟨b, off + i * 3, none⟩ = some (.bool xs[i].list) ∧ w.cell? ⟨b, off + i * 3 + 1, none⟩ = some (.string xs[i].text) ∧ w.cell? ⟨b, off + i * 3 + 2, none⟩ = some (.slice x l c) ∧ Rd w n xs[i].items (.slice x l c)) := hat
  have HI : Hid (RwS n) := IH
  have HL : Hid (IT.wts xs ≤ 1125899906842624) := hwt
  clear hat hr e1 IH hwt
  have bA := Bk.new w #[.bool true, .string t, .slice ad xs.length cp] 26
  go_enter Try.func50, Try.ntmps50
  go_wp2_with fail
  go_loopw [3, 4] (fun v i wr => ∃ (k : Nat) (s : ByteArray), k ≤ xs.length ∧ i = .int .i64 k ∧ v = .string s ∧ s.size ≤ 1125899906842624 * 10 ∧ Hid (RawsR (xs.take k) s) ∧ Bk wr w.heap.size #[.bool true, .string t, .slice ad xs.length cp] 26 ∧ Below w.heap.size w wr) (fun _ i _ => xs.length - (intOf i).toNat)
  case atStart => exact ⟨0, st [], by omega, rfl, rfl, by rw [st_size]; simp, by show RawsR _ _; rw [List.take_zero]; exact RawsR.nil, bA, (Below.refl _ _).alloc (Nat.le_refl _) _⟩
  case round =>
    clear bA
    obtain ⟨k, s, hk, rfl, rfl, hss, hinv, bA, hbo⟩ := hrel
    have hszo := hbo.size
    obtain ⟨p0, p1, p2⟩ := box_cells bA
    have hHc : Hid (∀ w, Calls Try.prog 58 #[.int .i64 s.size, .int .i64 192] w fun e w' => e = .returned (.string (st (hd 192 s.size))) ∧ Below w.heap.size w w') := fun w => rhead 192 s.size w (by omega) (by omega)
    have hls : (st (hd 192 s.size)).size ≤ 9 := by rw [st_size]; exact hd_le 192 s.size (by omega)
    have HE : Hid (∀ r : ByteArray, r = st (hd 192 s.size) ++ s → (k = xs.length ∨ 131072 < s.size) → RawR (.mk true t xs) r) := by
      rintro r rfl (hkl | hg)
      · have := hinv.out; rw [hkl, List.take_length] at this; exact RawR.of_list this HL.out
      · exact RawR.of_great hinv.out hg HL.out
    generalize st (hd 192 s.size) = S0 at *
    have hsum : S0.size + s.size ≤ 9223372036854775807 := by omega
    have hsum' : ¬ 9223372036854775807 < S0.size + s.size := by omega
    by_cases hlt : k < xs.length
    · have hlt' : (k : Int) < (xs.length : Int) := by omega
      by_cases hg : s.size ≤ 131072
      · have hg' : (s.size : Int) ≤ 131072 := by omega
        obtain ⟨b, off, rfl, x0, x1, x2, c0, c1, c2, hrd⟩ := HA.out k hlt
        have c0 := (hbo.cell (cell_lt' c0)).trans c0
        have c1 := (hbo.cell (cell_lt' c1)).trans c1
        have c2 := (hbo.cell (cell_lt' c2)).trans c2
        have hwk := wt_get xs k hlt
        have hcall := HI.out xs[k] x0 x1 x2 wr (hrd.below hbo) (by have := HL.out; omega)
        have hstep : Hid (∀ r, RawR xs[k] r → RawsR (xs.take (k + 1)) (s ++ r) ∧ r.size ≤ 1125899906842624 * 10) := fun r hr => ⟨RawsR.step hlt hinv.out hr, by have := hr.le; have := HL.out; omega⟩
        have hwl := wts_le xs (k + 1)
        generalize hxk : xs[k] = xk at *
        have HC : Hid (Calls Try.prog 50 #[.agg #[.bool xk.list, .string xk.text, .slice x0 x1 x2]] wr fun e w' => (∃ r, e = .returned (.string r) ∧ RawR xk r) ∧ Below wr.heap.size wr w') := hcall
        clear hcall hxk hrd hwk
        go_wp2_with (go_at_call 50; refine HC.out.mono ?_; rintro e w2 ⟨⟨r, rfl, hr⟩, hb2⟩; have hst := hstep.out r hr; have hr10 := hst.2; have HS : Hid (RawsR (xs.take (k + 1)) (s ++ r)) := hst.1; have hsm : s.size + r.size ≤ 9223372036854775807 := (by omega); have hsm' : ¬ 9223372036854775807 < s.size + r.size := (by omega); clear hst hr)
        go_roundw
        case rel =>
          have h1 := HS.out.le
          have h3 := HL.out
          refine ⟨k + 1, s ++ r, by omega, by go_num, rfl, by omega, HS.out, bA.below hb2 bA.lt, hbo.trans (hb2.mono hszo)⟩
        case measure => simp [intOf]; omega
      · have hg' : ¬ (s.size : Int) ≤ 131072 := by omega
        go_wp2_with (go_at_call 58; refine (hHc.out _).mono ?_; rintro e w2 ⟨rfl, hb2⟩)
        go_ret
        exact ⟨⟨_, rfl, HE.out _ rfl (.inr (by omega))⟩, hbo.trans (hb2.mono hszo)⟩
    · have hlt' : ¬ (k : Int) < (xs.length : Int) := by omega
      go_wp2_with (go_at_call 58; refine (hHc.out _).mono ?_; rintro e w2 ⟨rfl, hb2⟩)
      go_ret
      exact ⟨⟨_, rfl, HE.out _ rfl (.inl (by omega))⟩, hbo.trans (hb2.mono hszo)⟩
theorem raw : ∀ n, RwS n
  | 0 => fun a ad l c w h => h.elim
  | n + 1 => fun a ad l c w hr hw => by
    have IH := raw n
    obtain ⟨li, t, xs⟩ := a
    have hwe : (IT.mk li t xs).wt = 1 + t.size + IT.wts xs := rfl
    rw [hwe] at hw
    simp only [IT.list, IT.text, IT.items] at hr ⊢
    obtain ⟨m, e1, ad', cp, e2, hxl, -⟩ := hr.at
    simp at e2
    obtain ⟨rfl, rfl, rfl⟩ := e2
    cases li with
    | false => exact raw_txt t xs ad c w (by omega)
    | true => exact raw_lst n IH t xs ad c w hr (by omega) (by omega)
end Go.Proofs.Ytliaegnhnnnojaa

/- Texts joined: Wr ApI Cln. -/
import Derived.Test.YtapjonmgjccpbaaJ4
import Derived.Deep.RegionLaw
import Derived.Lib.UnsafeStr
import Derived.Lib.BufferWrite
import Derived.Laws.MakeOwn
section
set_option linter.unusedSimpArgs false
set_option linter.unusedVariables false
namespace Go.Proofs.Ytapjonmgjccpbaa
open Go.RowKit

/-! item.write, item.writeList by contract. -/
def WrOk (a : IT) (d : Nat) (bs : List UInt8) : Prop := d + a.pd ≤ 16 ∧ bs.length + a.raw.length ≤ 65536
def WrQ (a : IT) (d : Nat) (v : Value) (bs : List UInt8) (base : Nat) (w : World) (e : Ending) (w' : World) : Prop :=
  ((∃ v', e = .returned (.tuple #[v', .int .i64 0]) ∧ Ow w' base v' (bs ++ a.raw) ∧ Sn w v v' ∧ WrOk a d bs) ∨ (e = .returned (.tuple #[.slice none 0 0, .int .i64 1]) ∧ ¬ WrOk a d bs)) ∧ w.grownBy w' v.ownBlock
theorem head128 (n : Nat) (w : World) (hm : n ≤ 9223372036854775807) : Calls Try.prog 105 #[.int .u8 128, .int .i64 n] w fun e w' => ∃ v, e = .returned v ∧ Ow w' w.heap.size v (hd 128 n) ∧ Below w.heap.size w w' := head 128 n w hm (by omega)
theorem head192 (n : Nat) (w : World) (hm : n ≤ 9223372036854775807) : Calls Try.prog 105 #[.int .u8 192, .int .i64 n] w fun e w' => ∃ v, e = .returned v ∧ Ow w' w.heap.size v (hd 192 n) ∧ Below w.heap.size w w' := head 192 n w hm (by omega)
theorem raw_text (t : ByteArray) (xs : List IT) : (IT.mk false t xs).raw = traw t.data.toList := by simp [IT.raw]
theorem traw_bare (t : ByteArray) (h : bareS t = true) : traw t.data.toList = t.data.toList := by
  unfold traw; rw [show bare t.data.toList = true from h]; rfl
theorem traw_not (t : ByteArray) (h : bareS t = false) : traw t.data.toList = hd 128 t.size ++ t.data.toList := by
  unfold traw; rw [show bare t.data.toList = false from h, data_len]; rfl
theorem Ow.alloc {w : World} {base : Nat} {v : Value} {l : List UInt8} (h : Ow w base v l) (o : Obj) : Ow (w.alloc o) base v l := World.ownsRow.alloc h o
/-- A text's bytes appended. -/
theorem app_text {w' : World} {base : Nat} {v : Value} {l : List UInt8} {t : ByteArray} (h : w'.ownsRow base 5 1 v (l.length + t.size) (bc l ++ byteCells t)) : Ow w' base v (l ++ t.data.toList) := by
  show World.ownsRow _ _ _ _ _ _ _
  rw [bc_append, List.length_append, data_len]; exact h
theorem app_bytes {w' : World} {base : Nat} {v : Value} {l f : List UInt8} (h : w'.ownsRow base 5 1 v (l.length + f.length) (bc l ++ bc f)) : Ow w' base v (l ++ f) := by
  show World.ownsRow _ _ _ _ _ _ _
  rw [bc_append, List.length_append]; exact h
theorem bk_grown {w w' : World} {b : Nat} {vs : Array Value} {t : TypeId} {row : Option Nat} (h : Bk w b vs t) (hg : w.grownBy w' row) (hr : ∀ k, row = some k → k ≠ b) : Bk w' b vs t :=
  (hg.block b h.lt (fun e => hr b e.symm rfl)).trans h
theorem box_cells {w : World} {b : Nat} {x y z : Value} {t : TypeId} (h : Bk w b #[x, y, z] t) : w.cell? ⟨b, 0, none⟩ = some x ∧ w.cell? ⟨b, 1, none⟩ = some y ∧ w.cell? ⟨b, 2, none⟩ = some z := by
  refine ⟨(h.cell 0).trans ?_, (h.cell 1).trans ?_, (h.cell 2).trans ?_⟩ <;> simp
theorem head_after {w w1 : World} {o : Obj} {base : Nat} {v u : Value} {bs H : List UInt8} (hV : Ow w base v bs) (hO1 : Ow w1 (w.alloc o).heap.size u H) (hb1 : Below (w.alloc o).heap.size (w.alloc o) w1) :
    Ow w1 (w.heap.size + 1) u H ∧ Ow w1 base v bs ∧ w.heap.size + 1 ≤ w1.heap.size := by
  have e : (w.alloc o).heap.size = w.heap.size + 1 := by simp
  rw [e] at hO1 hb1
  exact ⟨hO1, (hV.alloc o).below hb1 (fun k hk => by have := (hV.ge hk).2; omega), by have := hb1.size; rw [e] at this; exact this⟩
set_option maxRecDepth 100000 in
set_option maxHeartbeats 1000000 in
theorem write_text (t : ByteArray) (xs : List IT) (ad : Option Addr) (cp : Nat) (w : World) (d : Nat) (v : Value) (bs : List UInt8) (base : Nat) (hx : xs.length ≤ 9223372036854775807)
    (ht : t.size ≤ 1152921504606846976) (hv : Ow w base v bs) (hb : base ≤ w.heap.size) (hl : bs.length ≤ 65536) (hd : d ≤ 16) :
    Calls Try.prog 86 #[v, .agg #[.bool false, .string t, .slice ad xs.length cp], .int .i64 d] w (WrQ (.mk false t xs) d v bs base w) := by
  obtain ⟨va, vc, rfl, hvc⟩ := hv.shape
  by_cases h0 : xs.length = 0
  case neg =>
    have h0' : (0 : Int) < (xs.length : Int) := by omega
    have h0'' : 0 < xs.length := by omega
    have HP : Hid ((IT.mk false t xs).pd = 17) := by show _ = _; simp [IT.pd, h0]
    clear h0
    go_enter Try.func86, Try.ntmps86
    go_wp2_with fail
    go_ret2
    exact ⟨.inr ⟨rfl, fun h => by have := h.1; rw [HP.out] at this; omega⟩, World.grownBy_alloc _ _ _⟩
  have HP : Hid ((IT.mk false t xs).pd = 0) := by show _ = _; simp [IT.pd, h0]
  have h0' : decide ((0 : Int) < (xs.length : Int)) = false := decide_eq_false (by omega)
  have h0'' : decide (0 < xs.length) = false := decide_eq_false (by omega)
  obtain ⟨i0, hi, hz0, hz1, hz2⟩ := info_of info5
  have HI : Hid (Try.prog.info? 5 = some i0) := hi
  have HZ : Hid (i0.zero = some (.int .u8 0) ∧ i0.size = 1 ∧ i0.bytes = 1) := ⟨hz0, hz1, hz2⟩
  have HV : Hid (Ow w base (.slice va bs.length vc) bs) := hv
  clear hi hz0 hz1 hz2 h0 hv
  cases hbr : bareS t with
  | true =>
    have HR : Hid ((IT.mk false t xs).raw = t.data.toList) := by show _ = _; rw [raw_text, traw_bare t hbr]
    by_cases hfit : bs.length + t.size ≤ 65536
    · have hf1 : ¬ ((65536 : Int) - (bs.length : Int) < (t.size : Int)) := by omega
      go_enter Try.func86, Try.ntmps86
      go_wp2_with (first | (go_at_call 104; refine (isBare t _ (by omega)).mono ?_; rw [hbr]; rintro e w' ⟨rfl, rfl⟩) | (at_builtin; refine wpList_append_src rfl _ _ 51 9 rfl base 5 i0 (.int .u8 0) 1 1 Try.underlying51 HI.out HZ.out.1 HZ.out.2.1 HZ.out.2.2 rfl _ _ bs.length _ t.size _ rfl rfl (HV.out.alloc _) (Src.ofString _ Try.underlying9 t) (by unfold maxLen; omega) (by omega) (by simp; omega) ?_; intro v1 w2 hown2 hgr2 hsn2))
      go_ret2
      refine ⟨.inl ⟨v1, rfl, by rw [HR.out]; exact app_text hown2, ?_, ⟨by rw [HP.out]; omega, by rw [HR.out, data_len]; exact hfit⟩⟩, grown_trans (World.grownBy_alloc _ _ _) hgr2 (.inl rfl)⟩
      exact Sn.trans (w1 := w.alloc (.cells #[.bool false, .string t, .slice ad xs.length cp] 70)) (Sn.refl _ _) hsn2 (by simp)
    · have hf1 : ((65536 : Int) - (bs.length : Int) < (t.size : Int)) := by omega
      go_enter Try.func86, Try.ntmps86
      go_wp2_with (go_at_call 104; refine (isBare t _ (by omega)).mono ?_; rw [hbr]; rintro e w' ⟨rfl, rfl⟩)
      go_ret2
      exact ⟨.inr ⟨rfl, fun h => by have := h.2; rw [HR.out, data_len] at this; omega⟩, World.grownBy_alloc _ _ _⟩
  | false =>
    have HR : Hid ((IT.mk false t xs).raw = Go.Proofs.Ytapjonmgjccpbaa.hd 128 t.size ++ t.data.toList) := by show _ = _; rw [raw_text, traw_not t hbr]
    have hle := hd_le 128 t.size (by omega)
    generalize hH : Go.Proofs.Ytapjonmgjccpbaa.hd 128 t.size = H at *
    have HH : Hid (Go.Proofs.Ytapjonmgjccpbaa.hd 128 t.size = H) := hH
    clear hH
    have hHc : Hid (∀ w, Calls Try.prog 105 #[.int .u8 128, .int .i64 t.size] w fun e w' => ∃ v, e = .returned v ∧ Ow w' w.heap.size v H ∧ Below w.heap.size w w') := fun w => by rw [← HH.out]; exact head128 t.size w (by omega)
    by_cases hfit : bs.length + H.length + t.size ≤ 65536
    · have hf1 : ¬ ((65536 : Int) - ((bs.length : Int) + (H.length : Int)) < (t.size : Int)) := by omega
      go_enter Try.func86, Try.ntmps86
      go_wp2_with (first
        | (go_at_call 104; refine (isBare t _ (by omega)).mono ?_; rw [hbr]; rintro e w' ⟨rfl, rfl⟩)
        | (go_at_call 105; refine (hHc.out _).mono ?_; rintro e w1 ⟨v1, rfl, hO1, hb1⟩; obtain ⟨a1, c1, rfl, hc1⟩ := hO1.shape; obtain ⟨hO1', hV1', hz1⟩ := head_after HV.out hO1 hb1; have HO1 : Hid (Ow w1 (w.heap.size + 1) (.slice a1 H.length c1) H) := hO1'; have HV1 : Hid (Ow w1 base (.slice va bs.length vc) bs) := hV1'; clear hO1' hV1' hO1; have bx1 : Bk w1 w.heap.size #[.bool false, .string t, .slice ad xs.length cp] 70 := (Bk.new w _ _).below hb1 (by simp); obtain ⟨q0, q1, q2⟩ := box_cells bx1; have HB1 : Hid (Bk w1 w.heap.size #[.bool false, .string t, .slice ad xs.length cp] 70) := bx1; clear bx1)
        | (at_builtin; refine wpList_append_src rfl _ _ 51 51 rfl base 5 i0 (.int .u8 0) 1 1 Try.underlying51 HI.out HZ.out.1 HZ.out.2.1 HZ.out.2.2 rfl _ _ bs.length _ H.length _ rfl rfl HV1.out (HO1.out.src Try.underlying51) (by unfold maxLen; omega) (by omega) (by omega) ?_; intro v2 w2 hown2 hgr2 hsn2; have HV2 : Hid (Ow w2 base v2 (bs ++ H)) := app_bytes hown2; obtain ⟨a2, c2, rfl, hc2⟩ := HV2.out.shape; have hz2 := hgr2.size; simp only [List.length_append] at HV2 hgr2 hsn2 ⊢; obtain ⟨r0, r1, r2⟩ := box_cells (bk_grown HB1.out hgr2 (fun k hk => by have := (HV.out.ge hk).2; omega)); clear hown2)
        | (at_builtin; refine wpList_append_src rfl _ _ 51 9 rfl base 5 i0 (.int .u8 0) 1 1 Try.underlying51 HI.out HZ.out.1 HZ.out.2.1 HZ.out.2.2 rfl _ _ (bs ++ H).length _ t.size _ rfl rfl HV2.out (Src.ofString _ Try.underlying9 t) (by rw [List.length_append]; unfold maxLen; omega) (by rw [List.length_append]; omega) (by omega) ?_; intro v3 w3 hown3 hgr3 hsn3))
      go_ret2
      have hs1 : Sn w (.slice va bs.length vc) (.slice a2 (bs.length + H.length) c2) := hsn2.imp id (fun h k hk => by have := h k hk; omega)
      refine ⟨.inl ⟨v3, rfl, by rw [HR.out, ← List.append_assoc]; exact app_text hown3, hs1.trans hsn3 (by omega), ⟨by rw [HP.out]; omega, by rw [HR.out, List.length_append, data_len]; omega⟩⟩, ?_⟩
      exact grown_trans (grown_trans (grown_trans (World.grownBy_alloc _ _ _) (grown_of_below hb1) (.inl rfl)) hgr2 (.inl rfl)) hgr3 hs1.row
    · have hf1 : ((65536 : Int) - ((bs.length : Int) + (H.length : Int)) < (t.size : Int)) := by omega
      go_enter Try.func86, Try.ntmps86
      go_wp2_with (first
        | (go_at_call 104; refine (isBare t _ (by omega)).mono ?_; rw [hbr]; rintro e w' ⟨rfl, rfl⟩)
        | (go_at_call 105; refine (hHc.out _).mono ?_; rintro e w1 ⟨v1, rfl, hO1, hb1⟩; obtain ⟨a1, c1, rfl, hc1⟩ := hO1.shape; obtain ⟨hO1', hV1', hz1⟩ := head_after HV.out hO1 hb1; have HO1 : Hid (Ow w1 (w.heap.size + 1) (.slice a1 H.length c1) H) := hO1'; have HV1 : Hid (Ow w1 base (.slice va bs.length vc) bs) := hV1'; clear hO1' hV1' hO1; have bx1 : Bk w1 w.heap.size #[.bool false, .string t, .slice ad xs.length cp] 70 := (Bk.new w _ _).below hb1 (by simp); obtain ⟨q0, q1, q2⟩ := box_cells bx1; have HB1 : Hid (Bk w1 w.heap.size #[.bool false, .string t, .slice ad xs.length cp] 70) := bx1; clear bx1)
        | (at_builtin; refine wpList_append_src rfl _ _ 51 51 rfl base 5 i0 (.int .u8 0) 1 1 Try.underlying51 HI.out HZ.out.1 HZ.out.2.1 HZ.out.2.2 rfl _ _ bs.length _ H.length _ rfl rfl HV1.out (HO1.out.src Try.underlying51) (by unfold maxLen; omega) (by omega) (by omega) ?_; intro v2 w2 hown2 hgr2 hsn2; have HV2 : Hid (Ow w2 base v2 (bs ++ H)) := app_bytes hown2; obtain ⟨a2, c2, rfl, hc2⟩ := HV2.out.shape; have hz2 := hgr2.size; simp only [List.length_append] at HV2 hgr2 hsn2 ⊢; obtain ⟨r0, r1, r2⟩ := box_cells (bk_grown HB1.out hgr2 (fun k hk => by have := (HV.out.ge hk).2; omega)); clear hown2))
      go_ret2
      refine ⟨.inr ⟨rfl, fun h => by have := h.2; rw [HR.out, List.length_append, data_len] at this; omega⟩, ?_⟩
      exact grown_trans (grown_trans (World.grownBy_alloc _ _ _) (grown_of_below hb1) (.inl rfl)) hgr2 (.inl rfl)
theorem grown_refl (w : World) (r : Option Nat) : w.grownBy w r := ⟨rfl, rfl, rfl, Nat.le_refl _, fun _ _ _ => rfl⟩
/-- What item.write promises, of items read n lists deep. -/
def WrS (n : Nat) : Prop := ∀ (a : IT) (ad : Option Addr) (l c : Nat) (w : World) (d : Nat) (v : Value) (bs : List UInt8) (base B : Nat), RdP w (· < B) n a.items (.slice ad l c) → a.wt ≤ 1152921504606846976 → Ow w base v bs → B ≤ base → base ≤ w.heap.size → bs.length ≤ 65536 → d ≤ 16 →
  Calls Try.prog 86 #[v, .agg #[.bool a.list, .string a.text, .slice ad l c], .int .i64 d] w (WrQ a d v bs base w)
theorem raw_list (t : ByteArray) (xs : List IT) : (IT.mk true t xs).raw = hd 192 (IT.raws xs).length ++ IT.raws xs := by simp [IT.raw]
set_option maxRecDepth 100000 in
set_option maxHeartbeats 2000000 in
theorem write_list (n : Nat) (IH : WrS n) (t : ByteArray) (xs : List IT) (ad : Option Addr) (cp : Nat) (w : World) (d : Nat) (v : Value) (bs : List UInt8) (base B : Nat) (hr : RdP w (· < B) (n + 1) xs (.slice ad xs.length cp))
    (hwt : IT.wts xs ≤ 1152921504606846976) (ht : t.size ≤ 1152921504606846976) (hv : Ow w base v bs) (hB : B ≤ base) (hb : base ≤ w.heap.size) (hl : bs.length ≤ 65536) (hd : d ≤ 16) :
    Calls Try.prog 103 #[v, .agg #[.bool true, .string t, .slice ad xs.length cp], .int .i64 d] w (WrQ (.mk true t xs) d v bs base w) := by
  obtain ⟨va, vc, rfl, hvc⟩ := hv.shape
  by_cases htx : t.size = 0
  case neg =>
    have ht' : t.toList.isEmpty = false := by rw [List.isEmpty_eq_false_iff]; intro h; exact htx (by have := bytes_inj (a := t) (b := ByteArray.empty) (h.trans (by rw [ByteArray.toList_eq]; rfl)); rw [this]; rfl)
    have HP : Hid ((IT.mk true t xs).pd = 17) := by show _ = _; simp [IT.pd, htx]
    clear htx
    go_enter Try.func103, Try.ntmps103
    go_wp2_with fail
    go_ret2
    exact ⟨.inr ⟨rfl, fun h => by have := h.1; rw [HP.out] at this; omega⟩, World.grownBy_alloc _ _ _⟩
  have HP : Hid ((IT.mk true t xs).pd = IT.pds xs + 1) := by show _ = _; simp [IT.pd, htx]
  have HR : Hid ((IT.mk true t xs).raw = Go.Proofs.Ytapjonmgjccpbaa.hd 192 (IT.raws xs).length ++ IT.raws xs) := by show _ = _; exact raw_list t xs
  obtain rfl := bytes_nil t htx
  clear htx
  by_cases hd16 : d = 16
  · subst hd16
    go_enter Try.func103, Try.ntmps103
    go_wp2_with fail
    go_ret2
    exact ⟨.inr ⟨rfl, fun h => by have := h.1; rw [HP.out] at this; omega⟩, World.grownBy_alloc _ _ _⟩
  have hd' : ((d : Int) == 16) = false := by rw [beq_eq_false_iff_ne]; omega
  obtain ⟨_, e1, _, _, e2, hxl, hat⟩ := hr.at
  obtain rfl : n = _ := by simpa using e1
  simp at e2
  obtain ⟨rfl, rfl⟩ := e2
  have HA : Hid (∀ i (hi : i < xs.length), ∃ b off, ad = some ⟨b, off, none⟩ ∧ b < B ∧ ∃ a l c, w.cell? ⟨b, off + i * 3, none⟩ = some (.bool xs[i].list) ∧ w.cell? ⟨b, off + i * 3 + 1, none⟩ = some (.string xs[i].text) ∧ w.cell? ⟨b, off + i * 3 + 2, none⟩ = some (.slice a l c) ∧ RdP w (· < B) n xs[i].items (.slice a l c)) := hat
  have HI : Hid (WrS n) := IH
  have HV : Hid (Ow w base (.slice va bs.length vc) bs) := hv
  have HL : Hid (IT.wts xs ≤ 1152921504606846976) := hwt
  clear hat hr e1 IH hv hwt
  obtain ⟨W1, hW1⟩ : ∃ W1, W1 = w.alloc (.cells #[.bool true, .string ByteArray.empty, .slice ad xs.length cp] 70) := ⟨_, rfl⟩
  have HW1 : Hid (W1 = w.alloc (.cells #[.bool true, .string ByteArray.empty, .slice ad xs.length cp] 70)) := hW1
  clear hW1
  go_enter Try.func103, Try.ntmps103
  go_wp2_with fail
  rw [← HW1.out]
  go_loopw [0, 25] (fun b i wr => ∃ k : Nat, k ≤ xs.length ∧ i = .int .i64 k ∧ (∃ a c, b = .slice a (bs.length + (IT.raws (xs.take k)).length) c) ∧ Hid (Ow wr base b (bs ++ IT.raws (xs.take k)) ∧ Sn W1 (.slice va bs.length vc) b ∧ W1.grownBy wr (Value.slice va bs.length vc).ownBlock) ∧ bs.length + (IT.raws (xs.take k)).length ≤ 65536 ∧ Hid (d + 1 + IT.pds (xs.take k) ≤ 16)) (fun _ i _ => xs.length - (intOf i).toNat)
  case atStart =>
    refine ⟨0, by omega, rfl, ⟨va, vc, by simp [IT.raws]⟩, ⟨?_, Sn.refl _ _, grown_refl _ _⟩, by simp [IT.raws]; omega, ?_⟩
    · simp only [List.take_zero, IT.raws, List.append_nil]; rw [HW1.out]; exact HV.out.alloc _
    · show d + 1 + IT.pds (xs.take 0) ≤ 16; simp [IT.pds]; omega
  case round =>
    obtain ⟨k, hk, rfl, ⟨ba, bcp, rfl⟩, hinv, hlen, hdep⟩ := hrel
    by_cases hlt : k < xs.length
    · have hlt' : (k : Int) < (xs.length : Int) := by omega
      obtain ⟨b, off, rfl, hbB, x0, x1, x2, c0, c1, c2, hrd⟩ := HA.out k hlt
      have hW1s : W1.heap.size = w.heap.size + 1 := by rw [HW1.out]; simp
      have hcell : ∀ o x, w.cell? ⟨b, o, none⟩ = some x → wr.cell? ⟨b, o, none⟩ = some x := fun o x h => by
        have h1 : W1.cell? ⟨b, o, none⟩ = some x := by rw [HW1.out]; exact (World.cell?_of_block (w := w) (Below.heap_alloc w _ b (by omega))).trans h
        exact hinv.out.2.2.cell h1 (fun e => by have : base ≤ b := (HV.out.ge e.symm).1; omega)
      have c0 := hcell _ _ c0
      have c1 := hcell _ _ c1
      have c2 := hcell _ _ c2
      clear hcell
      have hsame : ∀ o : Obj, ∀ j, j < B → (wr.alloc o).heap[j]? = w.heap[j]? := fun o j hj => by
        have h2 := hinv.out.2.2.block j (by omega) (fun e => by have := (HV.out.ge e.symm).1; omega)
        have h3 : W1.heap[j]? = w.heap[j]? := by rw [HW1.out]; exact Below.heap_alloc w _ j (by omega)
        have h4 := hinv.out.2.2.size
        exact (Below.heap_alloc wr o j (by omega)).trans (h2.trans h3)
      have hwk := wt_get xs k hlt
      have hcall := fun o : Obj => HI.out xs[k] x0 x1 x2 (wr.alloc o) (d + 1) (.slice ba (bs.length + (IT.raws (xs.take k)).length) bcp) (bs ++ IT.raws (xs.take k)) base B (hrd.same (hsame o)) (by have := HL.out; omega) (hinv.out.1.alloc o) hB (by have := hinv.out.2.2.size; simp; omega) (by rw [List.length_append]; exact hlen) (by omega)
      have htk := raws_take xs k hlt
      have hpk := pds_take xs k hlt
      have hle := raws_le xs (k + 1)
      have hpl := pds_le xs (k + 1)
      generalize hxk : xs[k] = xk at *
      have HC : Hid (∀ o : Obj, Calls Try.prog 86 #[.slice ba (bs.length + (IT.raws (xs.take k)).length) bcp, .agg #[.bool xk.list, .string xk.text, .slice x0 x1 x2], .int .i64 ((d : Int) + 1)] (wr.alloc o) (WrQ xk (d + 1) (.slice ba (bs.length + (IT.raws (xs.take k)).length) bcp) (bs ++ IT.raws (xs.take k)) base (wr.alloc o))) := fun o => by
        have := hcall o
        rw [show (((d + 1 : Nat)) : Int) = (d : Int) + 1 by omega] at this
        exact this
      have HT : Hid (IT.raws (xs.take (k + 1)) = IT.raws (xs.take k) ++ xk.raw ∧ IT.pds (xs.take (k + 1)) = max (IT.pds (xs.take k)) xk.pd ∧ (IT.raws (xs.take (k + 1))).length ≤ (IT.raws xs).length ∧ IT.pds (xs.take (k + 1)) ≤ IT.pds xs) := ⟨htk, hpk, hle, hpl⟩
      clear hcall htk hpk hle hpl hsame hxk hwk hrd
      obtain ⟨wx, hwx⟩ : ∃ wx, wx = wr.alloc (.cells #[.bool xk.list, .string xk.text, .slice x0 x1 x2] 70) := ⟨_, rfl⟩
      have HX : Hid (wx = wr.alloc (.cells #[.bool xk.list, .string xk.text, .slice x0 x1 x2] 70)) := hwx
      clear hwx
      go_wp2_with fail
      refine (HC.out _).mono ?_
      rw [← HX.out]
      rintro e w2 ⟨(⟨v2, rfl, hO2, hs2, hok2⟩ | ⟨rfl, hno2⟩), hg2⟩
      · obtain ⟨a2, c2, rfl, hc2⟩ := hO2.shape
        have H2 : Hid (Ow w2 base (.slice a2 (bs ++ IT.raws (xs.take k) ++ xk.raw).length c2) (bs ++ IT.raws (xs.take k) ++ xk.raw) ∧ Sn wx (.slice ba (bs.length + (IT.raws (xs.take k)).length) bcp) (.slice a2 (bs ++ IT.raws (xs.take k) ++ xk.raw).length c2) ∧ WrOk xk (d + 1) (bs ++ IT.raws (xs.take k)) ∧ wx.grownBy w2 (Value.slice ba (bs.length + (IT.raws (xs.take k)).length) bcp).ownBlock) := ⟨hO2, hs2, hok2, hg2⟩
        clear hO2 hs2 hok2 hg2
        go_wp2_with fail
        go_roundw
        case rel =>
          obtain ⟨hO2, hs2, hok2, hg2⟩ := H2.out
          obtain ⟨hO, hs, hg⟩ := hinv.out
          obtain ⟨t1, t2, t3, t4⟩ := HT.out
          have hsz := hg.size
          have hL : (bs ++ IT.raws (xs.take k) ++ xk.raw).length = bs.length + (IT.raws (xs.take (k + 1))).length := by rw [t1]; simp
          have hL' : bs.length + ((IT.raws (xs.take k)).length + xk.raw.length) = bs.length + (IT.raws (xs.take (k + 1))).length := by rw [t1]; simp
          have hgx : W1.grownBy wx (Value.slice va bs.length vc).ownBlock := by rw [HX.out]; exact grown_trans hg (World.grownBy_alloc _ _ _) (.inl rfl)
          rw [hL] at hO2 hs2
          rw [hL']
          refine ⟨k + 1, by omega, by go_num, ⟨a2, c2, rfl⟩, ⟨by rw [show bs ++ IT.raws (xs.take k) ++ xk.raw = bs ++ IT.raws (xs.take (k + 1)) by rw [t1, List.append_assoc]] at hO2; exact hO2, hs.trans hs2 hgx.size, grown_trans hgx hg2 hs.row⟩, ?_, ?_⟩
          · have := hok2.2; rw [List.length_append] at this; rw [t1, List.length_append]; omega
          · show d + 1 + _ ≤ 16
            have := hok2.1; have := hdep.out; rw [t2]; omega
        case measure => simp [intOf]; omega
      · have H2 : Hid (¬ WrOk xk (d + 1) (bs ++ IT.raws (xs.take k)) ∧ wx.grownBy w2 (Value.slice ba (bs.length + (IT.raws (xs.take k)).length) bcp).ownBlock) := ⟨hno2, hg2⟩
        clear hno2 hg2
        go_wp2_with fail
        go_ret2
        obtain ⟨hno2, hg2⟩ := H2.out
        obtain ⟨hO, hs, hg⟩ := hinv.out
        obtain ⟨t1, t2, t3, t4⟩ := HT.out
        have hgx : W1.grownBy wx (Value.slice va bs.length vc).ownBlock := by rw [HX.out]; exact grown_trans hg (World.grownBy_alloc _ _ _) (.inl rfl)
        have hg1 : w.grownBy W1 (Value.slice va bs.length vc).ownBlock := by rw [HW1.out]; exact World.grownBy_alloc _ _ _
        refine ⟨.inr ⟨rfl, fun h => hno2 ⟨?_, ?_⟩⟩, grown_trans hg1 (grown_trans hgx hg2 hs.row) (.inl rfl)⟩
        · have := h.1; rw [HP.out] at this; omega
        · have := h.2; rw [HR.out, List.length_append] at this; rw [t1, List.length_append] at t3; rw [List.length_append]; omega
    · have hlt' : ¬ (k : Int) < (xs.length : Int) := by omega
      have hkl : k = xs.length := by omega
      subst hkl
      rw [List.take_length] at hinv hlen hdep ⊢
      generalize hRR : IT.raws xs = R at *
      have hRl : R.length ≤ 65536 := by omega
      have hHc : Hid (∀ w, Calls Try.prog 105 #[.int .u8 192, .int .i64 R.length] w fun e w' => ∃ v, e = .returned v ∧ Ow w' w.heap.size v (Go.Proofs.Ytapjonmgjccpbaa.hd 192 R.length) ∧ Below w.heap.size w w') := fun w => head192 R.length w (by omega)
      have hle := hd_le 192 R.length (by omega)
      have hpos := hd_pos 192 R.length
      generalize Go.Proofs.Ytapjonmgjccpbaa.hd 192 R.length = H at *
      have hsub : (bs.length : Int) + (R.length : Int) - (bs.length : Int) = (R.length : Int) := by omega
      by_cases hfit : bs.length + R.length + H.length ≤ 65536
      · have hf1 : ¬ ((65536 : Int) - ((bs.length : Int) + (R.length : Int)) < (H.length : Int)) := by omega
        go_wp2_with (go_at_call 105; refine (hHc.out _).mono ?_; rintro e w1 ⟨v1, rfl, hO1, hb1⟩; obtain ⟨a1, c1, rfl, hc1⟩ := hO1.shape; have H1 : Hid (Ow w1 wr.heap.size (.slice a1 H.length c1) H ∧ Below wr.heap.size wr w1) := ⟨hO1, hb1⟩; clear hO1 hb1)
        have hI := H1.out
        obtain ⟨hO, hs, hg⟩ := hinv.out
        have hV1 : Ow w1 base (.slice ba (bs.length + R.length) bcp) (bs ++ R) := hO.below hI.2 (fun k hk => (hO.ge hk).2)
        have hne : (Value.slice ba (bs.length + R.length) bcp).ownBlock ≠ (Value.slice a1 H.length c1).ownBlock := by
          intro e
          rcases hI.1.2 with ⟨_, hz⟩ | ⟨g, _, _, he, _⟩
          · omega
          · simp at he
            obtain ⟨rfl, _⟩ := he
            have e1 : (Value.slice ba (bs.length + R.length) bcp).ownBlock = some g := e
            have := (hO.ge e1).2
            have := (hI.1.ge (k := g) rfl).1
            omega
        have hbw : base ≤ w1.heap.size := by have h1 := hI.2.size; have h2 := hg.size; rw [HW1.out] at h2; simp at h2; omega
        refine (insert w1 base wr.heap.size _ _ (bs ++ R) H bs.length hV1 hI.1 hne (by omega) (by simp) hbw (by rw [List.length_append]; omega)).mono ?_
        rintro e w2 ⟨v2, rfl, hO2, hg2, hs2⟩
        have H2 : Hid (Ow w2 base v2 (insL (bs ++ R) H bs.length) ∧ w1.grownBy w2 (Value.slice ba (bs.length + R.length) bcp).ownBlock ∧ Sn w1 (Value.slice ba (bs.length + R.length) bcp) v2) := ⟨hO2, hg2, hs2⟩
        clear hO2 hg2 hs2 hI hV1 hO hs hg hne
        go_wp2_with fail
        go_ret2
        obtain ⟨hO2, hg2, hs2⟩ := H2.out
        obtain ⟨hO, hs, hg⟩ := hinv.out
        have hg1 : w.grownBy W1 (Value.slice va bs.length vc).ownBlock := by rw [HW1.out]; exact World.grownBy_alloc _ _ _
        have hgw : W1.grownBy w1 (Value.slice va bs.length vc).ownBlock := grown_trans hg (grown_of_below H1.out.2) (.inl rfl)
        have e : insL (bs ++ R) H bs.length = bs ++ (H ++ R) := by simp [insL]
        rw [e] at hO2
        refine ⟨.inl ⟨v2, rfl, by rw [HR.out]; exact hO2, (Sn.trans (w1 := W1) (Sn.refl _ _) (hs.trans hs2 hgw.size) (by rw [HW1.out]; simp)), ⟨by rw [HP.out]; have := hdep.out; omega, by rw [HR.out, List.length_append]; omega⟩⟩, ?_⟩
        exact grown_trans hg1 (grown_trans hgw hg2 hs.row) (.inl rfl)
      · have hf1 : ((65536 : Int) - ((bs.length : Int) + (R.length : Int)) < (H.length : Int)) := by omega
        go_wp2_with (go_at_call 105; refine (hHc.out _).mono ?_; rintro e w1 ⟨v1, rfl, hO1, hb1⟩; obtain ⟨a1, c1, rfl, hc1⟩ := hO1.shape; have H1 : Hid (Ow w1 wr.heap.size (.slice a1 H.length c1) H ∧ Below wr.heap.size wr w1) := ⟨hO1, hb1⟩; clear hO1 hb1)
        go_ret2
        obtain ⟨hO, hs, hg⟩ := hinv.out
        have hg1 : w.grownBy W1 (Value.slice va bs.length vc).ownBlock := by rw [HW1.out]; exact World.grownBy_alloc _ _ _
        refine ⟨.inr ⟨rfl, fun h => ?_⟩, grown_trans hg1 (grown_trans hg (grown_of_below H1.out.2) (.inl rfl)) (.inl rfl)⟩
        have := h.2; rw [HR.out, List.length_append] at this; omega
set_option maxRecDepth 100000 in
theorem write : ∀ n, WrS n
  | 0 => fun a ad l c w d v bs base B h => h.elim
  | n + 1 => fun a ad l c w d v bs base B hr hw hv hB hb hl hd => by
    have IH := write n
    obtain ⟨li, t, xs⟩ := a
    have hwe : (IT.mk li t xs).wt = 1 + t.size + IT.wts xs := rfl
    rw [hwe] at hw
    simp only [IT.list, IT.text, IT.items] at hr ⊢
    obtain ⟨m, e1, ad', cp, e2, hxl, -⟩ := hr.at
    simp at e2
    obtain ⟨rfl, rfl, rfl⟩ := e2
    cases li with
    | false => exact write_text t xs ad c w d v bs base hxl (by omega) hv hb hl hd
    | true =>
      have HL := write_list n IH t xs ad c
      have hsame : ∀ o : Obj, ∀ j, j < B → (w.alloc o).heap[j]? = w.heap[j]? := fun o j hj => Below.heap_alloc w o j (by omega)
      have HC : Hid (∀ o : Obj, Calls Try.prog 103 #[v, .agg #[.bool true, .string t, .slice ad xs.length c], .int .i64 d] (w.alloc o) (WrQ (.mk true t xs) d v bs base (w.alloc o))) := fun o =>
        HL (w.alloc o) d v bs base B (hr.same (hsame o)) (by omega) (by omega) (hv.alloc o) hB (by simp; omega) hl hd
      obtain ⟨va, vc, rfl, hvc⟩ := hv.shape
      clear HL IH hr hv
      go_enter Try.func86, Try.ntmps86
      go_wp2_with fail
      refine (HC.out _).mono ?_
      rintro e w2 ⟨(⟨v2, rfl, hO2, hs2, hok2⟩ | ⟨rfl, hno2⟩), hg2⟩
      · go_wp2_with fail
        go_ret2
        exact ⟨.inl ⟨v2, rfl, hO2, Sn.trans (Sn.refl _ _) hs2 (by simp), hok2⟩, grown_trans (World.grownBy_alloc _ _ _) hg2 (.inl rfl)⟩
      · go_wp2_with fail
        go_ret2
        exact ⟨.inr ⟨rfl, hno2⟩, grown_trans (World.grownBy_alloc _ _ _) hg2 (.inl rfl)⟩
end Go.Proofs.Ytapjonmgjccpbaa
end
section
set_option linter.unusedSimpArgs false
set_option linter.unusedVariables false
namespace Go.Proofs.Ytapjonmgjccpbaa
open Go.RowKit

/-! An item appended to a list of items. -/
theorem step_append_src {P : Program} {ops : Array Oper} {o : Oper} {a : Act} {w : World} {K : Act → World → Prop} {Q : Exit → Act → World → Prop} {E : Prop} (hgd : o.guard = none) (s x : Operand) (t tx : TypeId)
    (ho : o.op = .call { callee := .builtin .append, args := #[s, x], argTypes := #[t, tx] })
    (base : Nat) (e : TypeId) (i : TypeInfo) (z : Value) (size bytes : Nat) (ht : P.underlying t = some (.slice e)) (hi : P.info? e = some i) (hz : i.zero = some z)
    (hsize : i.size = size) (hby : i.bytes = bytes) (hzs : z.cells.size = size)
    (v xv : Value) (n : Nat) (xs : List Value) (m : Nat) (news : List Value) (hs : a.eval s = v) (hx : a.eval x = xv) (hown : w.ownsRow base e size v n xs) (hsrc : Src P size tx xv m news w)
    (h63 : n + m ≤ maxLen) (hbytes : (n + m) * bytes ≤ 140737488355328) (hbase : base ≤ w.heap.size) (hm : 0 < m) (N : Nat) (hN : n + m = N)
    (h : ∀ g cap w', w'.ownsRow base e size (.slice (some ⟨g, 0, none⟩) N cap) N (xs ++ news) → w.grownBy w' v.ownBlock → Sn w v (.slice (some ⟨g, 0, none⟩) N cap) → g < w'.heap.size → base ≤ g → K (a.put o.dst (.slice (some ⟨g, 0, none⟩) N cap)) w') :
    if Region.wanted o (yielded ops a.tmps) = true then Oper.wp P o a w K Q else E := by
  subst hN
  rw [if_pos (by simp [Region.wanted, hgd])]
  obtain ⟨v', w', hr, h2, h3, h4⟩ := run_append_own_src (P := P) w base t tx o.type e i z size bytes ht hi hz hsize hby hzs v n xs hown xv m news hsrc h63 hbytes hbase
  unfold Oper.wp execOp
  simp only [ho, resolve, invoke, builtin, Sem.run_bind, Sem.run_pure, Result.andThen_ok, List.map_toArray, List.map_cons, List.map_nil, hs, hx, hr]
  have h2' := h2
  rcases h2.2 with ⟨rfl, hz'⟩ | ⟨g, cap, cur, rfl, hg, hh, _⟩
  · omega
  · exact h g cap w' h2' h3 h4 (Array.getElem?_eq_some_iff.1 hh).1 hg
theorem infoI : (Try.prog.info? 70).map (fun i => (i.zero, i.size, i.bytes)) = some (some (.agg #[.bool false, .string ⟨#[]⟩, .slice none 0 0]), 3, 48) := by kernel_rfl
/-- The one element that is appended, in its own block. -/
theorem one_src {w : World} {g : Nat} {x y z : Value} (hb : Bk w g #[x, y, z] 70) (h1 : x.oneCell' = true) (h2 : y.oneCell' = true) (h3 : z.oneCell' = true) : Src Try.prog 3 68 (.slice (some ⟨g, 0, none⟩) 1 1) 1 [x, y, z] w := by
  obtain ⟨c0, c1, c2⟩ := box_cells hb
  refine Src.ofSlice w Try.underlying68 ⟨g, 0, none⟩ 1 1 [x, y, z] rfl (fun j u hj => ?_) (fun u hu => ?_)
  · rw [Addr.add_lit, Nat.zero_add]
    match j with
    | 0 => simp at hj; subst hj; exact c0
    | 1 => simp at hj; subst hj; exact c1
    | 2 => simp at hj; subst hj; exact c2
    | j + 3 => simp at hj
  · simp at hu
    rcases hu with rfl | rfl | rfl <;> assumption
theorem len_wts : ∀ xs : List IT, xs.length ≤ IT.wts xs
  | [] => Nat.le_refl _
  | x :: xs => by have := len_wts xs; have : 1 ≤ x.wt := (by rw [IT.wt_eq]; omega); simp only [List.length_cons, IT.wts]; omega
end Go.Proofs.Ytapjonmgjccpbaa
end
section
set_option linter.unusedSimpArgs false
set_option linter.unusedVariables false
namespace Go.Proofs.Ytapjonmgjccpbaa
open Go.RowKit

/-! strings.Clone by contract. -/
theorem cells5 : Try.prog.cellsOf 5 = 1 := by kernel_rfl
set_option maxRecDepth 100000 in
set_option maxHeartbeats 1000000 in
theorem lclone (s : ByteArray) (w : World) (hs : s.size ≤ 1099511627776) :
    Calls Try.prog 124 #[.string s] w fun e w' => e = .returned (.string s) ∧ Below w.heap.size w w' := by
  by_cases h0 : s.size = 0
  · obtain rfl : s = ⟨#[]⟩ := by apply ByteArray.ext; exact Array.eq_empty_of_size_eq_zero h0
    go_enter Try.func124, Try.ntmps124
    go_wp2_with fail
    go_ret
    exact ⟨rfl, Below.refl _ _⟩
  · obtain ⟨i0, hi, hz0, hz1, hz2⟩ := info_of info5
    obtain ⟨M, hM⟩ : ∃ M, M = madeCells (Value.int .u8 0).cells (((s.size : Nat) : Int).toNat * i0.size) := ⟨_, rfl⟩
    have hMs : M.size = s.size := by rw [hM, size_madeCells, hz1]; simp
    have hmk : ∀ W : World, (Instr.makeSlice 51 (.int .i64 (s.size : Int)) (.int .i64 (s.size : Int))).run Try.prog W = .ok (.slice (some ⟨W.heap.size, 0, none⟩) s.size s.size) (W.alloc (.cells M 5)) := fun W => by
      have h := run_make (P := Try.prog) W 51 5 i0 (.int .u8 0) Try.underlying51 hi hz0 .i64 .i64 (s.size : Int) (s.size : Int) (by omega) (by omega) (by rw [hz2]; omega) (by omega)
      rw [← hM] at h
      simpa using h
    clear hM hi hz0 hz1 hz2
    have hgM : (w.alloc (.cells M 5)).heap[w.heap.size]? = some (.cells M 5 (0, 0)) := World.alloc_heap_new w _
    have hcp := Lib.run_copy_row_string (P := Try.prog) (w.alloc (.cells M 5)) 51 9 3 5 w.heap.size 0 s.size s.size s M 5 Try.underlying51 msize5 hgM (Nat.le_refl _) (by omega)
    obtain ⟨Y, hY⟩ : ∃ Y, Y = (M.toList.take 0 ++ Lib.byteCells s.data.toList ++ M.toList.drop (0 + s.size)).toArray := ⟨_, rfl⟩
    rw [← hY] at hcp
    have hYl : Y.toList = Lib.byteCells s.data.toList := by
      rw [hY, List.toList_toArray, List.take_zero, List.nil_append, List.drop_of_length_le (by rw [Array.length_toList]; omega), List.append_nil]
    have hsl : s.data.toList.length = s.size := rfl
    have hYs : Y.size = s.size := by rw [← Array.length_toList, hYl, Lib.byteCells_length, hsl]
    have hgY : ((w.alloc (.cells M 5)).setRow w.heap.size Y).heap[w.heap.size]? = some (.cells Y 5 (0, 0)) := setRow_heap _ _ M _ 5 (0, 0) hgM
    have hus := Lib.run_unsafeString_row (P := Try.prog) ((w.alloc (.cells M 5)).setRow w.heap.size Y) 177 3 9 5 Try.underlying177 cells5 w.heap.size Y.size (by unfold World.shape?; rw [hgY]) s.data.toList (fun e => h0 (by rw [← hsl, e]; rfl)) (by omega) (by omega)
      (fun j x hx => Lib.cells_of_row hgY Y.size j _ (by rw [List.take_of_length_le (by rw [Array.length_toList]; exact Nat.le_refl _), hYl]; simp [Lib.byteCells, hx]))
    rw [hsl] at hus
    clear hY hYl
    go_enter Try.func124, Try.ntmps124
    go_wp2_with fail
    go_ret
    exact ⟨rfl, Lib.below_freeze (below_setRow ((Below.refl _ w).alloc (Nat.le_refl _) (.cells M 5)) (Nat.le_refl _) Y) (p := ⟨w.heap.size, 0, none⟩) (Nat.le_refl _) _⟩
theorem sclone (s : ByteArray) (w : World) (hs : s.size ≤ 1099511627776) :
    Calls Try.prog 113 #[.string s] w fun e w' => e = .returned (.string s) ∧ Below w.heap.size w w' := by
  go_enter Try.func113, Try.ntmps113
  go_wp2_with (go_at_call 124; refine (lclone s _ hs).mono ?_; rintro e w1 ⟨rfl, hb1⟩)
  go_ret
  exact ⟨rfl, hb1⟩
end Go.Proofs.Ytapjonmgjccpbaa
end

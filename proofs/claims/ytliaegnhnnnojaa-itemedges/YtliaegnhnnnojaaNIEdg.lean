import Derived.Test.YtliaegnhnnnojaaAsk4
import Derived.Test.YtliaegnhnnnojaaTkP
set_option linter.unusedSimpArgs false
set_option linter.unusedVariables false
namespace Go.Proofs.Ytliaegnhnnnojaa
open Go.RowKit

/-! tarnlaw4.ItemEdges, walked. -/
def aI : IT := .mk false ⟨#[97]⟩ []
theorem aI_raw : aI.raw = [97] := by simp [aI, IT.raw, traw, bare]
def ldn (n : Nat) : IT := .mk true ⟨#[]⟩ (List.replicate n aI)
theorem raws_rep (n : Nat) : IT.raws (List.replicate n aI) = List.replicate n 97 := by
  induction n with
  | zero => simp [IT.raws]
  | succ n ih => rw [List.replicate_succ, List.replicate_succ, IT.raws, ih, aI_raw]; rfl
theorem pds_rep (n : Nat) : IT.pds (List.replicate n aI) = 0 := by
  induction n with
  | zero => simp [IT.pds]
  | succ n ih => rw [List.replicate_succ, IT.pds, ih]; simp [aI, IT.pd]
theorem wts_rep (n : Nat) : IT.wts (List.replicate n aI) = 2 * n := by
  induction n with
  | zero => simp [IT.wts]
  | succ n ih => rw [List.replicate_succ, IT.wts, ih]; simp [aI, IT.wt, IT.wts, ByteArray.size]; omega
theorem hd_edge (base n : Nat) (h : 54 ≤ n) (h2 : n ≤ 57) : (hd base n).length = if 55 < n then 2 else 1 := by
  rw [hd_length]
  have : n = 54 ∨ n = 55 ∨ n = 56 ∨ n = 57 := by omega
  rcases this with rfl | rfl | rfl | rfl
  · rfl
  · rfl
  · rw [if_neg (by omega), if_pos (by omega), show tlen 56 = 1 by decide]
  · rw [if_neg (by omega), if_pos (by omega), show tlen 57 = 1 by decide]
theorem ldn_len (n : Nat) (h : 54 ≤ n) (h2 : n ≤ 57) : (ldn n).raw.length = n + if 55 < n then 2 else 1 := by
  rw [ldn, IT.raw, if_pos rfl, List.length_append, raws_rep, List.length_replicate, hd_edge 192 n h h2]
  omega
theorem ldn_ok (n : Nat) (h : 54 ≤ n) (h2 : n ≤ 57) : ItOk (ldn n) := by
  refine ⟨?_, by rw [ldn_len n h h2]; split <;> omega⟩
  simp [ldn, IT.pd, pds_rep, ByteArray.size]
def tz (n : Nat) : IT := .mk false ⟨Array.replicate n 0⟩ []
theorem tz_len (n : Nat) (h : 54 ≤ n) (h2 : n ≤ 57) : (tz n).raw.length = n + if 55 < n then 2 else 1 := by
  have hl : ((⟨Array.replicate n (0 : UInt8)⟩ : ByteArray).data.toList).length = n := by simp
  have hb : bare (⟨Array.replicate n (0 : UInt8)⟩ : ByteArray).data.toList = false := by
    unfold bare
    rw [hl, beq_eq_false_iff_ne.2 (show n ≠ 1 by omega)]
    rfl
  rw [tz, IT.raw, if_neg (by simp), traw, if_neg (by rw [hb]; simp), List.length_append, hl, hd_edge 128 n h h2]
  omega
theorem tz_ok (n : Nat) (h : 54 ≤ n) (h2 : n ≤ 57) : ItOk (tz n) := ⟨by simp [tz, IT.pd], by rw [tz_len n h h2]; split <;> omega⟩
def dpt : Nat → IT
  | 0 => .mk true ⟨#[]⟩ []
  | j + 1 => .mk true ⟨#[]⟩ [dpt j]
theorem dpt_len : ∀ j, j ≤ 50 → (dpt j).raw.length = j + 1
  | 0, _ => by simp [dpt, IT.raw, IT.raws, hd]
  | j + 1, h => by
    have ih := dpt_len j (by omega)
    rw [dpt, IT.raw, if_pos rfl, IT.raws, IT.raws, List.append_nil, List.length_append, ih, hd_length, if_pos (by omega)]
    omega
theorem dpt_pd : ∀ j, (dpt j).pd = j + 1
  | 0 => by simp [dpt, IT.pd, IT.pds, ByteArray.size]
  | j + 1 => by
    have ih := dpt_pd j
    simp [dpt, IT.pd, IT.pds, ByteArray.size, ih]
theorem dpt_wt : ∀ j, (dpt j).wt = j + 1
  | 0 => by simp [dpt, IT.wt, IT.wts, ByteArray.size]
  | j + 1 => by
    have ih := dpt_wt j
    simp [dpt, IT.wt, IT.wts, ByteArray.size, ih]; omega
theorem dpt_list : ∀ j, (dpt j).list = true
  | 0 => rfl
  | j + 1 => rfl
theorem dpt_text : ∀ j, (dpt j).text = ⟨#[]⟩
  | 0 => rfl
  | j + 1 => rfl
theorem dpt_ok (j : Nat) (h : j ≤ 50) : ItOk (dpt j) ↔ j + 1 ≤ 16 := by
  unfold ItOk
  rw [dpt_pd, dpt_len j h]
  omega
theorem itS_size (a : IT) (h : ItOk a) : (itS a).size = a.raw.length := by rw [itS, if_pos h, st_size]
theorem bad0 : (tk0 ⟨#[129, 97]⟩).2.2 = 1 := by decide +kernel
theorem bad1 : (tk0 ⟨#[184, 5, 97, 98, 99, 100, 101]⟩).2.2 = 1 := by decide +kernel
theorem bad2 : (tk0 ⟨#[185, 0, 64]⟩).2.2 = 1 := by decide +kernel
theorem bad3 : (tk0 ⟨#[248, 1, 97]⟩).2.2 = 1 := by decide +kernel
theorem bad4 : (tk0 ⟨#[193, 129]⟩).2.2 = 1 := by decide +kernel
theorem bad5 : (tk0 ⟨#[187, 255, 255, 255, 255]⟩).2.2 = 1 := by decide +kernel
theorem cut0 : (tk0 ⟨#[]⟩).2.2 = 7 := by decide +kernel
theorem cut1 : (tk0 ⟨#[185, 0]⟩).2.2 = 7 := by decide +kernel
/-- What item.Take tells of such bytes: the error. -/
theorem takeErr (s : ByteArray) (n : Nat) (h : (tk0 s).2.2 = n) (hs : s.size ≤ 1099511627776) (w : World) :
    Calls Try.prog 12 #[.string s] w fun e w' => (∃ l t ad ll c k, e = .returned (.tuple #[.agg #[.bool l, .string t, .slice ad ll c], .int .i64 k, .int .i64 (n : Int)])) ∧ Below w.heap.size w w' :=
  (iTake s w hs).mono fun e w' ⟨⟨ad, l, c, he, _⟩, hb⟩ => ⟨⟨_, _, ad, l, c, _, by rw [← h]; exact he⟩, hb⟩
/-- item.Bytes of an item that may be: as many bytes as it has. -/
theorem bytesOk (n : Nat) (a : IT) (ad : Option Addr) (l c : Nat) (w : World) (hr : Rd w n a.items (.slice ad l c)) (hw : a.wt ≤ 1152921504606846976) (hok : ItOk a) (m : Nat) (hm : a.raw.length = m) :
    Calls Try.prog 19 #[.agg #[.bool a.list, .string a.text, .slice ad l c]] w fun e w' => (∃ s : ByteArray, e = .returned (.tuple #[.string s, .int .i64 0]) ∧ s.size = m) ∧ Below w.heap.size w w' :=
  (bytes' n a ad l c w hr hw).mono fun e w' ⟨he, hb⟩ => ⟨⟨itS a, by rw [he, show ckE a = 0 from if_pos hok], by rw [itS_size a hok, hm]⟩, hb⟩
theorem deep_step {w w2 : World} {Y j l vc : Nat} {va : Option Addr} (bY : Bk w2 Y #[.bool true, .string ⟨#[]⟩, .slice va l vc] 26) (hB : Below w.heap.size w w2) (hY : w.heap.size ≤ Y) (hr : RdP w2 (Y + 1 ≤ ·) (j + 1) (dpt j).items (.slice va l vc)) :
    Hid (RdP ((((w2.setCell ⟨Y, 0, none⟩ (.bool true)).setCell ⟨Y, 1, none⟩ (.string ⟨#[]⟩)).setCell ⟨Y, 2, none⟩ (.slice (some ⟨w2.heap.size, 0, none⟩) 1 1)).alloc (.cells #[.bool true, .string ⟨#[]⟩, .slice va l vc] 26)) (Y + 1 ≤ ·) (j + 1 + 1) (dpt (j + 1)).items (.slice (some ⟨w2.heap.size, 0, none⟩) 1 1)) ∧
    Bk ((((w2.setCell ⟨Y, 0, none⟩ (.bool true)).setCell ⟨Y, 1, none⟩ (.string ⟨#[]⟩)).setCell ⟨Y, 2, none⟩ (.slice (some ⟨w2.heap.size, 0, none⟩) 1 1)).alloc (.cells #[.bool true, .string ⟨#[]⟩, .slice va l vc] 26)) Y #[.bool true, .string ⟨#[]⟩, .slice (some ⟨w2.heap.size, 0, none⟩) 1 1] 26 ∧
    Below w.heap.size w ((((w2.setCell ⟨Y, 0, none⟩ (.bool true)).setCell ⟨Y, 1, none⟩ (.string ⟨#[]⟩)).setCell ⟨Y, 2, none⟩ (.slice (some ⟨w2.heap.size, 0, none⟩) 1 1)).alloc (.cells #[.bool true, .string ⟨#[]⟩, .slice va l vc] 26)) := by
  have b9 := set3_Bk bY (.bool true) (.string ⟨#[]⟩) (.slice (some ⟨w2.heap.size, 0, none⟩) 1 1)
  have hbel := set3_below hB hY (.bool true) (.string ⟨#[]⟩) (.slice (some ⟨w2.heap.size, 0, none⟩) 1 1)
  have hrk := set3_keep (b := Y) hr (fun q hq => by have : Y + 1 ≤ q := hq; omega) (.bool true) (.string ⟨#[]⟩) (.slice (some ⟨w2.heap.size, 0, none⟩) 1 1)
  have hz : (((w2.setCell ⟨Y, 0, none⟩ (.bool true)).setCell ⟨Y, 1, none⟩ (.string ⟨#[]⟩)).setCell ⟨Y, 2, none⟩ (.slice (some ⟨w2.heap.size, 0, none⟩) 1 1)).heap.size = w2.heap.size := by simp
  have lY := bY.lt
  generalize (((w2.setCell ⟨Y, 0, none⟩ (.bool true)).setCell ⟨Y, 1, none⟩ (.string ⟨#[]⟩)).setCell ⟨Y, 2, none⟩ (.slice (some ⟨w2.heap.size, 0, none⟩) 1 1)) = U at *
  have bN : Bk (U.alloc (.cells #[.bool true, .string ⟨#[]⟩, .slice va l vc] 26)) w2.heap.size #[.bool true, .string ⟨#[]⟩, .slice va l vc] 26 := Bk.new' _ _ _ hz.symm
  obtain ⟨c0, c1, c2⟩ := box_cells bN
  refine ⟨⟨by simp [dpt, IT.items], some ⟨w2.heap.size, 0, none⟩, 1, rfl, fun i hi => ?_⟩, b9.alloc _, hbel.alloc (by have := hB.size; omega) _⟩
  have hi0 : i = 0 := by simp [dpt, IT.items] at hi; omega
  subst hi0
  refine ⟨w2.heap.size, 0, rfl, ⟨by show Y + 1 ≤ _; omega, .inr ⟨_, _, bN⟩⟩, va, l, vc, ?_, ?_, c2, ?_⟩
  · show _ = some (Value.bool (dpt j).list); rw [dpt_list]; exact c0
  · show _ = some (Value.string (dpt j).text); rw [dpt_text]; exact c1
  · exact hrk.keep fun b _ hl => Below.heap_alloc U _ b hl
theorem bads_at {w : World} {Z i : Nat} (h : Bk w Z #[.string ⟨#[129, 97]⟩, .string ⟨#[184, 5, 97, 98, 99, 100, 101]⟩, .string ⟨#[185, 0, 64]⟩, .string ⟨#[248, 1, 97]⟩, .string ⟨#[193, 129]⟩, .string ⟨#[187, 255, 255, 255, 255]⟩] 9) (hi : i < 6) : ∃ s : ByteArray, w.cell? ⟨Z, i, none⟩ = some (.string s) ∧ (tk0 s).2.2 = 1 ∧ s.size ≤ 10 := by
  have : i = 0 ∨ i = 1 ∨ i = 2 ∨ i = 3 ∨ i = 4 ∨ i = 5 := by omega
  rcases this with rfl | rfl | rfl | rfl | rfl | rfl
  · exact ⟨_, h.cell 0, bad0, by decide⟩
  · exact ⟨_, h.cell 1, bad1, by decide⟩
  · exact ⟨_, h.cell 2, bad2, by decide⟩
  · exact ⟨_, h.cell 3, bad3, by decide⟩
  · exact ⟨_, h.cell 4, bad4, by decide⟩
  · exact ⟨_, h.cell 5, bad5, by decide⟩
theorem own_shapeE {w : World} {base : Nat} {e : TypeId} {sz : Nat} {v : Value} {n : Nat} {xs : List Value} (h : w.ownsRow base e sz v n xs) : ∃ a c, v = .slice a n c := by
  rcases h.2 with ⟨rfl, hz⟩ | ⟨g, cap, cur, rfl, _⟩
  · exact ⟨none, 0, by rw [hz]⟩
  · exact ⟨_, cap, rfl⟩
theorem own_neE {w : World} {base : Nat} {e : TypeId} {sz : Nat} {v : Value} {n : Nat} {xs : List Value} {k : Nat} (h : w.ownsRow base e sz v n xs) (hk : k < base) : v.ownBlock = none ∨ v.ownBlock ≠ some k := by
  cases hv : v.ownBlock with
  | none => exact .inl rfl
  | some q => right; intro e2; simp at e2; have := (h.lt q hv).1; omega
set_option maxRecDepth 100000 in
set_option maxHeartbeats 4000000 in
theorem itemEdges_walk (ad : Option Addr) (len cap : Nat) (w : World) (hlen : len ≤ 9223372036854775807) :
    Calls Try.prog 6 #[.slice ad len cap] w fun e w' => e = .returned (.bool true) ∧ Below w.heap.size w w' := by
  obtain ⟨j0, hj0, hj1, hj2, hj3⟩ := info_of infoI
  have HJ : Hid (Try.prog.info? 26 = some j0 ∧ j0.zero = some (.agg #[.bool false, .string ⟨#[]⟩, .slice none 0 0]) ∧ j0.size = 3 ∧ j0.bytes = 48) := ⟨hj0, hj1, hj2, hj3⟩
  clear hj0 hj1 hj2 hj3
  go_enter Try.func6, Try.ntmps6
  go_wp2_with fail
  go_loopw [3] (fun i wr => ∃ k : Nat, 54 ≤ k ∧ k ≤ 58 ∧ i = .int .i64 k ∧ Below w.heap.size w wr) (fun i _ => 58 - (intOf i).toNat)
  case atStart => exact ⟨54, by omega, by omega, rfl, Below.refl _ _⟩
  case round =>
    obtain ⟨k, hk, hk2, rfl, hbo⟩ := hrel
    have hszo := hbo.size
    by_cases hlt : k ≤ 57
    · have hlt' : (k : Int) ≤ 57 := by omega
      have hmk := fun w => run_make_row' (P := Try.prog) 45 5 (.int .u8 0) 1 Try.underlying45 info5 rfl .i64 .i64 k (by omega) (by omega) w
      have bz := Bk.new wr (madeCells #[.int .u8 0] k) 5
      have hcv := run_convert_bytes_arg (P := Try.prog) (wr.alloc (.cells (madeCells #[.int .u8 0] k) 5)) 45 5 Try.underlying45 Try.underlying5 wr.heap.size 0 k k ((List.replicate k (0 : UInt8)).map fun b => (b.toNat : Int)) (by simp) (fun i hi => by rw [Nat.zero_add, bz.cell, ← Array.getElem?_toList, toList_madeCells_one]; simp [hi]) 9 Try.underlying9
      rw [str_of, show (⟨(List.replicate k (0 : UInt8)).toArray⟩ : ByteArray) = ⟨Array.replicate k (0 : UInt8)⟩ by simp] at hcv
      go_upto_region 6 with fail
      clear hmk hcv bz
      have bX : Bk ((wr.alloc (.cells (madeCells #[.int .u8 0] k) 5)).alloc (.cells #[.bool true, .string ⟨#[]⟩, .slice none 0 0] 26)) (wr.heap.size + 1) #[.bool true, .string ⟨#[]⟩, .slice none 0 0] 26 := Bk.new' _ _ _ (by simp)
      have hB1 : Below w.heap.size w ((wr.alloc (.cells (madeCells #[.int .u8 0] k) 5)).alloc (.cells #[.bool true, .string ⟨#[]⟩, .slice none 0 0] 26)) := (hbo.alloc hszo _).alloc (by simp; omega) _
      have hz1 : ((wr.alloc (.cells (madeCells #[.int .u8 0] k) 5)).alloc (.cells #[.bool true, .string ⟨#[]⟩, .slice none 0 0] 26)).heap.size = wr.heap.size + 2 := by simp
      generalize ((wr.alloc (.cells (madeCells #[.int .u8 0] k) 5)).alloc (.cells #[.bool true, .string ⟨#[]⟩, .slice none 0 0] 26)) = W1 at *
      obtain ⟨X, hX⟩ : ∃ X, X = wr.heap.size + 1 := ⟨_, rfl⟩
      rw [← hX] at bX ⊢
      have hz1 : W1.heap.size = X + 1 := by omega
      have hwX : w.heap.size ≤ X := by omega
      have H0 : Hid (Bk W1 X #[.bool true, .string ⟨#[]⟩, .slice none 0 0] 26 ∧ Below w.heap.size w W1) := ⟨bX, hB1⟩
      clear bX hB1 hX hbo hszo
      obtain ⟨tx, htx⟩ : ∃ tx : ByteArray, tx = ⟨Array.replicate k (0 : UInt8)⟩ := ⟨_, rfl⟩
      rw [← htx]
      have HTx : Hid (tx = ⟨Array.replicate k (0 : UInt8)⟩) := htx
      clear htx
      go_wp2_with fail
      go_loopw [6] (fun i wx => ∃ (j : Nat) (va : Option Addr) (vc : Nat), j ≤ k ∧ i = .int .i64 j ∧ Hid (Bld wx (X + 1) 2 (.slice va j vc) (List.replicate j (aI, .slice none 0 0))) ∧ Bk wx X #[.bool true, .string ⟨#[]⟩, .slice va j vc] 26 ∧ Below w.heap.size w wx) (fun i _ => k - (intOf i).toNat)
      case atStart => exact ⟨0, none, 0, by omega, rfl, Bld.nil _ _ _, H0.out.1, H0.out.2⟩
      case round =>
        obtain ⟨j, va, vc, hj, rfl, hbld, bX, hbj⟩ := hrel
        have hszj := hbj.size
        have lX := bX.lt
        obtain ⟨p0, p1, p2⟩ := box_cells bX
        have xf := bX.frozen 2
        have HB : Hid (Bk wr X #[.bool true, .string ⟨#[]⟩, .slice va j vc] 26) := bX
        have HLen : Hid ((List.replicate j (aI, Value.slice none 0 0)).length = j) := List.length_replicate
        clear bX H0
        by_cases hjk : j < k
        · have hjk' : (j : Int) < (k : Int) := by omega
          have HRow : Hid ((wr.alloc (.cells #[.bool false, .string ⟨#[97]⟩, .slice none 0 0] 26)).ownsRow (X + 1) 26 3 (.slice va j vc) j (icells (List.replicate j (aI, Value.slice none 0 0)))) := by
            have := hbld.out.row.alloc (.cells #[.bool false, .string ⟨#[97]⟩, .slice none 0 0] 26)
            rw [HLen.out] at this
            exact this
          go_wp2_with (at_builtin; refine wpList_append_src rfl _ _ 24 24 rfl (X + 1) 26 j0 (.agg #[.bool false, .string ⟨#[]⟩, .slice none 0 0]) 3 48 Try.underlying24 HJ.out.1 HJ.out.2.1 HJ.out.2.2.1 HJ.out.2.2.2 rfl _ _ j (icells (List.replicate j (aI, Value.slice none 0 0))) 1 [.bool false, .string ⟨#[97]⟩, .slice none 0 0] rfl rfl HRow.out (one_src (Bk.new' _ _ _ (by simp)) rfl rfl rfl) (by unfold maxLen; omega) (by omega) (by simp; omega) ?_; intro v3 w3 hown3 hgr3 hsn3; obtain ⟨a3, c3, rfl⟩ := own_shapeE hown3; have H3 : Hid (w3.ownsRow (X + 1) 26 3 (.slice a3 (j + 1) c3) (j + 1) (icells (List.replicate j (aI, Value.slice none 0 0)) ++ [.bool false, .string ⟨#[97]⟩, .slice none 0 0]) ∧ (wr.alloc (.cells #[.bool false, .string ⟨#[97]⟩, .slice none 0 0] 26)).grownBy w3 (Value.slice va j vc).ownBlock ∧ Sn (wr.alloc (.cells #[.bool false, .string ⟨#[97]⟩, .slice none 0 0] 26)) (.slice va j vc) (.slice a3 (j + 1) c3)) := ⟨hown3, hgr3, hsn3⟩; have b3 := bk_grown (HB.out.alloc (.cells #[.bool false, .string ⟨#[97]⟩, .slice none 0 0] 26)) hgr3 (fun q hq => by have := (HRow.out.lt q hq).1; omega); have y2 := (box_cells b3).2.2; have yf := b3.frozen 2; have ly := b3.lt; have HB3 : Hid (Bk w3 X #[.bool true, .string ⟨#[]⟩, .slice va j vc] 26) := b3; clear hown3 hgr3 hsn3 b3)
          go_roundw
          case rel =>
            obtain ⟨hown3, hgr3, hsn3⟩ := H3.out
            have hB := hbld.out
            have hrow : ∀ q, (Value.slice va j vc).ownBlock = some q → X + 1 ≤ q ∧ q < wr.heap.size := fun q hq => hB.row.lt q hq
            have hb2a : Below wr.heap.size wr (wr.alloc (.cells #[.bool false, .string ⟨#[97]⟩, .slice none 0 0] 26)) := (Below.refl _ wr).alloc (Nat.le_refl _) _
            have hBn := (hB.below hb2a).snoc (x := aI) (sv := .slice none 0 0) (v' := .slice a3 (j + 1) c3) (w' := w3) (B := wr.heap.size) (rd_nil _ _ 1) ⟨_, _, _, rfl⟩ (by omega) (fun q hq => (hrow q hq).2) (by rw [HLen.out]; exact hown3) hgr3 hsn3
            have hrep : List.replicate j (aI, Value.slice none 0 0) ++ [(aI, Value.slice none 0 0)] = List.replicate (j + 1) (aI, Value.slice none 0 0) := by rw [List.replicate_succ']
            rw [hrep] at hBn
            refine ⟨j + 1, a3, c3, by omega, by go_num, ?_, HB3.out.set 2 _ rfl, ?_⟩
            · exact ⟨World.ownsRow.kept hBn.row ⟨rfl, rfl, rfl, by simp, fun q _ hq => Below.heap_setCell w3 _ _ q (fun e => hq (by rw [e]))⟩ (own_neE (k := X) hBn.row (by omega)), fun y hy => ⟨(hBn.each y hy).1, (hBn.each y hy).2.keep fun b hb _ => Below.heap_setCell w3 _ _ b (fun e => by have := hb.1; simp at e; omega)⟩⟩
            · exact ((hbj.trans (hb2a.mono hszj)).trans (grown_below hgr3 (by simp; omega) (fun q hq => by have := (hrow q hq).1; omega))).setCell (p := ⟨X, 2, none⟩) (by simp; omega) _
          case measure => simp [intOf]; omega
        · have hjk' : ¬ (j : Int) < (k : Int) := by omega
          obtain rfl : j = k := by omega
          have hrdl : Rd wr 3 (List.replicate j aI) (.slice va j vc) := by
            have h1 := (hbld.out.rd (by rw [HLen.out]; omega)).rd
            rw [List.map_replicate] at h1
            exact h1
          have HH : Hid (∃ m : Nat, (ldn j).raw.length = m ∧ (tz j).raw.length = m ∧ m = j + if 55 < j then 2 else 1) := ⟨_, ldn_len j hk hlt, by rw [tz_len j hk hlt], rfl⟩
          obtain ⟨m, hm1, hm2, hm3⟩ := HH.out
          have HC1 : Hid (Calls Try.prog 19 #[.agg #[.bool false, .string tx, .slice none 0 0]] wr fun e w' => (∃ s : ByteArray, e = .returned (.tuple #[.string s, .int .i64 0]) ∧ s.size = m) ∧ Below wr.heap.size wr w') := by
            have h1 := bytesOk 1 (tz j) none 0 0 wr (rd_nil _ (fun _ => True) 0).rd (by simp [tz, IT.wt, IT.wts, ByteArray.size]; omega) (tz_ok j hk hlt) m hm2
            rw [HTx.out]
            exact h1
          have HC2 : Hid (∀ W, Below wr.heap.size wr W → Calls Try.prog 19 #[.agg #[.bool true, .string ⟨#[]⟩, .slice va j vc]] W fun e w' => (∃ s : ByteArray, e = .returned (.tuple #[.string s, .int .i64 0]) ∧ s.size = m) ∧ Below W.heap.size W w') := fun W hW =>
            bytesOk 3 (ldn j) va j vc W (hrdl.below hW) (by simp [ldn, IT.wt, wts_rep, ByteArray.size]; omega) (ldn_ok j hk hlt) m hm1
          clear hrdl hm1 hm2 HH hbld HLen xf
          go_wp2_with fail
          refine HC1.out.mono ?_
          rintro e w2 ⟨⟨S1, rfl, hS1⟩, hb2⟩
          have p0 := (hb2.cell (cell_lt' p0)).trans p0
          have p1 := (hb2.cell (cell_lt' p1)).trans p1
          have p2 := (hb2.cell (cell_lt' p2)).trans p2
          have lX2 : X < w2.heap.size := cell_lt' p0
          go_wp2_with fail
          refine (HC2.out _ hb2).mono ?_
          rintro e w3 ⟨⟨S2, rfl, hS2⟩, hb3⟩
          have hB3 := (hbj.trans (hb2.mono hszj)).trans (hb3.mono (Nat.le_trans hszj hb2.size))
          clear HC1 HC2 hb2 hb3 p0 p1 p2 lX2
          by_cases h55 : 55 < j
          · have h55' : 55 < (j : Int) := by omega
            rw [if_pos h55] at hm3
            have hS1' : (S1.size : Int) = (j : Int) + 2 := by omega
            have hS2' : (S2.size : Int) = (j : Int) + 2 := by omega
            go_wp2_with (first | (go_at_call 14; refine (num4 _ _).mono ?_; rintro e w7 ⟨rfl, rfl⟩) | fail)
            go_roundw
            case rel => exact ⟨j + 1, by omega, by omega, by go_num, hB3⟩
            case measure => simp [intOf]; omega
          · have h55' : ¬ 55 < (j : Int) := by omega
            rw [if_neg h55] at hm3
            have hS1' : (S1.size : Int) = (j : Int) + 1 := by omega
            have hS2' : (S2.size : Int) = (j : Int) + 1 := by omega
            go_wp2_with (first | (go_at_call 14; refine (num4 _ _).mono ?_; rintro e w7 ⟨rfl, rfl⟩) | fail)
            go_roundw
            case rel => exact ⟨j + 1, by omega, by omega, by go_num, hB3⟩
            case measure => simp [intOf]; omega
    · have hlt' : ¬ (k : Int) ≤ 57 := by omega
      clear hlt hk hk2
      go_wp2_with fail
      have bY := Bk.new wr #[.bool true, .string ⟨#[]⟩, .slice none 0 0] 26
      have hBY := hbo.alloc hszo (.cells #[.bool true, .string ⟨#[]⟩, .slice none 0 0] 26)
      generalize wr.alloc (.cells #[.bool true, .string ⟨#[]⟩, .slice none 0 0] 26) = W1 at *
      obtain ⟨Y, hY⟩ : ∃ Y, Y = wr.heap.size := ⟨_, rfl⟩
      rw [← hY] at bY hszo ⊢
      have H0 : Hid (Bk W1 Y #[.bool true, .string ⟨#[]⟩, .slice none 0 0] 26 ∧ Below w.heap.size w W1) := ⟨bY, hBY⟩
      clear bY hBY hY hbo
      go_loopw [13] (fun i wx => ∃ (j : Nat) (va : Option Addr) (l vc : Nat), j ≤ 17 ∧ i = .int .i64 ((j : Int) + 1) ∧ Hid (RdP wx (Y + 1 ≤ ·) (j + 1) (dpt j).items (.slice va l vc)) ∧ Bk wx Y #[.bool true, .string ⟨#[]⟩, .slice va l vc] 26 ∧ Below w.heap.size w wx) (fun i _ => 18 - (intOf i).toNat)
      case atStart => exact ⟨0, none, 0, 0, by omega, rfl, rd_nil _ _ 0, H0.out.1, H0.out.2⟩
      case round =>
        obtain ⟨j, va, l, vc, hj, rfl, hrdj, bY, hbj⟩ := hrel
        have hszj := hbj.size
        have lY := bY.lt
        obtain ⟨p0, p1, p2⟩ := box_cells bY
        have HB : Hid (Bk wr Y #[.bool true, .string ⟨#[]⟩, .slice va l vc] 26) := bY
        clear bY H0
        by_cases hj17 : j < 17
        · have hj17' : (j : Int) + 1 ≤ 17 := by omega
          have hBy := bytes' (j + 1) (dpt j) va l vc wr hrdj.out.rd (by rw [dpt_wt]; omega)
          rw [dpt_list, dpt_text] at hBy
          have hvar : (j + 1 ≤ 16 ∧ ckE (dpt j) = 0 ∧ (itS (dpt j)).size = j + 1) ∨ (16 < j + 1 ∧ ckE (dpt j) = 1) := by
            by_cases h : j + 1 ≤ 16
            · have hok := (dpt_ok j (by omega)).2 h
              exact .inl ⟨h, if_pos hok, by rw [itS_size _ hok, dpt_len j (by omega)]⟩
            · exact .inr ⟨by omega, if_neg fun hok => h ((dpt_ok j (by omega)).1 hok)⟩
          generalize itS (dpt j) = S1 at *
          generalize ckE (dpt j) = e1 at *
          have HBy : Hid (Calls Try.prog 19 #[.agg #[.bool true, .string ⟨#[]⟩, .slice va l vc]] wr fun e w' => e = .returned (.tuple #[.string S1, .int .i64 e1]) ∧ Below wr.heap.size wr w') := hBy
          clear hBy
          go_wp2_with fail
          refine HBy.out.mono ?_
          rintro e w2 ⟨rfl, hb2⟩
          have bY2 := HB.out.below hb2 lY
          obtain ⟨q0, q1, q2⟩ := box_cells bY2
          have f0 := bY2.frozen 0
          have f1 := bY2.frozen 1
          have f2 := bY2.frozen 2
          have lY2 := bY2.lt
          have H2 : Hid (Bk w2 Y #[.bool true, .string ⟨#[]⟩, .slice va l vc] 26 ∧ Below w.heap.size w w2 ∧ RdP w2 (Y + 1 ≤ ·) (j + 1) (dpt j).items (.slice va l vc)) := ⟨bY2, hbj.trans (hb2.mono hszj), hrdj.out.keep fun b _ hl => hb2.block b hl⟩
          clear HBy hb2 bY2 p0 p1 p2 hrdj
          rcases hvar with ⟨h16, rfl, hS1⟩ | ⟨h16, rfl⟩
          · have h16' : (j : Int) + 1 ≤ 16 := by omega
            have hS1' : (S1.size : Int) = (j : Int) + 1 := by omega
            go_wp2_with (first | (go_at_call 14; refine (num4 _ _).mono ?_; rintro e w7 ⟨rfl, rfl⟩) | fail)
            go_roundw
            case rel =>
              obtain ⟨d1, d2, d3⟩ := deep_step (j := j) H2.out.1 H2.out.2.1 (by omega) H2.out.2.2
              exact ⟨j + 1, _, _, _, by omega, by go_num, d1, d2, d3⟩
            case measure => simp [intOf]; omega
          · have h16' : ¬ (j : Int) + 1 ≤ 16 := by omega
            go_wp2_with (first | (go_at_call 14; refine (num4 _ _).mono ?_; rintro e w7 ⟨rfl, rfl⟩) | fail)
            go_roundw
            case rel =>
              obtain ⟨d1, d2, d3⟩ := deep_step (j := j) H2.out.1 H2.out.2.1 (by omega) H2.out.2.2
              exact ⟨j + 1, _, _, _, by omega, by go_num, d1, d2, d3⟩
            case measure => simp [intOf]; omega
        · have hj17' : ¬ (j : Int) + 1 ≤ 17 := by omega
          go_wp2_with fail
          have bZ := Bk.new wr #[.string ⟨#[129, 97]⟩, .string ⟨#[184, 5, 97, 98, 99, 100, 101]⟩, .string ⟨#[185, 0, 64]⟩, .string ⟨#[248, 1, 97]⟩, .string ⟨#[193, 129]⟩, .string ⟨#[187, 255, 255, 255, 255]⟩] 9
          have hBZ := hbj.alloc hszj (.cells #[.string ⟨#[129, 97]⟩, .string ⟨#[184, 5, 97, 98, 99, 100, 101]⟩, .string ⟨#[185, 0, 64]⟩, .string ⟨#[248, 1, 97]⟩, .string ⟨#[193, 129]⟩, .string ⟨#[187, 255, 255, 255, 255]⟩] 9)
          generalize wr.alloc (.cells #[.string ⟨#[129, 97]⟩, .string ⟨#[184, 5, 97, 98, 99, 100, 101]⟩, .string ⟨#[185, 0, 64]⟩, .string ⟨#[248, 1, 97]⟩, .string ⟨#[193, 129]⟩, .string ⟨#[187, 255, 255, 255, 255]⟩] 9) = W2 at *
          obtain ⟨Z, hZ⟩ : ∃ Z, Z = wr.heap.size := ⟨_, rfl⟩
          rw [← hZ] at bZ hszj ⊢
          have H0 : Hid (Bk W2 Z #[.string ⟨#[129, 97]⟩, .string ⟨#[184, 5, 97, 98, 99, 100, 101]⟩, .string ⟨#[185, 0, 64]⟩, .string ⟨#[248, 1, 97]⟩, .string ⟨#[193, 129]⟩, .string ⟨#[187, 255, 255, 255, 255]⟩] 9 ∧ Below w.heap.size w W2) := ⟨bZ, hBZ⟩
          clear bZ hBZ hZ hbj p0 p1 p2 HB hrdj lY
          go_loopw [17] (fun i wx => ∃ q : Nat, q ≤ 6 ∧ i = .int .i64 (q : Int) ∧ Bk wx Z #[.string ⟨#[129, 97]⟩, .string ⟨#[184, 5, 97, 98, 99, 100, 101]⟩, .string ⟨#[185, 0, 64]⟩, .string ⟨#[248, 1, 97]⟩, .string ⟨#[193, 129]⟩, .string ⟨#[187, 255, 255, 255, 255]⟩] 9 ∧ Below w.heap.size w wx) (fun i _ => 6 - (intOf i).toNat)
          case atStart => exact ⟨0, by omega, rfl, H0.out.1, H0.out.2⟩
          case round =>
            obtain ⟨q, hq, rfl, bZ, hbq⟩ := hrel
            have hszq := hbq.size
            clear H0
            by_cases hq6 : q < 6
            · have hq6' : (q : Int) < 6 := by omega
              obtain ⟨s, hc, he, hsz⟩ := bads_at bZ hq6
              have HT := takeErr s 1 he (by omega) wr
              have HT : Hid (Calls Try.prog 12 #[.string s] wr fun e w' => (∃ l t ad ll c k, e = .returned (.tuple #[.agg #[.bool l, .string t, .slice ad ll c], .int .i64 k, .int .i64 1])) ∧ Below wr.heap.size wr w') := HT
              have HZ : Hid (Bk wr Z #[.string ⟨#[129, 97]⟩, .string ⟨#[184, 5, 97, 98, 99, 100, 101]⟩, .string ⟨#[185, 0, 64]⟩, .string ⟨#[248, 1, 97]⟩, .string ⟨#[193, 129]⟩, .string ⟨#[187, 255, 255, 255, 255]⟩] 9) := bZ
              have lZ := bZ.lt
              clear bZ he hsz
              go_wp2_with fail
              refine HT.out.mono ?_
              rintro e w2 ⟨⟨x1, x2, x3, x4, x5, x6, rfl⟩, hb2⟩
              have hb2a := hb2.alloc hb2.size (.cells #[.bool x1, .string x2, .slice x3 x4 x5] 26)
              have H2 : Hid (Bk (w2.alloc (.cells #[.bool x1, .string x2, .slice x3 x4 x5] 26)) Z #[.string ⟨#[129, 97]⟩, .string ⟨#[184, 5, 97, 98, 99, 100, 101]⟩, .string ⟨#[185, 0, 64]⟩, .string ⟨#[248, 1, 97]⟩, .string ⟨#[193, 129]⟩, .string ⟨#[187, 255, 255, 255, 255]⟩] 9 ∧ Below w.heap.size w (w2.alloc (.cells #[.bool x1, .string x2, .slice x3 x4 x5] 26))) := ⟨HZ.out.below hb2a lZ, hbq.trans (hb2a.mono hszq)⟩
              clear HT HZ hb2 hb2a hc
              go_wp2_with (first | (go_at_call 14; refine (num4 _ _).mono ?_; rintro e w7 ⟨rfl, rfl⟩) | fail)
              go_roundw
              case rel => exact ⟨q + 1, by omega, by go_num, H2.out.1, H2.out.2⟩
              case measure => simp [intOf]; omega
            · have hq6' : ¬ (q : Int) < 6 := by omega
              have HT1 : Hid (∀ W, Calls Try.prog 12 #[.string ⟨#[]⟩] W fun e w' => (∃ l t ad ll c k, e = .returned (.tuple #[.agg #[.bool l, .string t, .slice ad ll c], .int .i64 k, .int .i64 7])) ∧ Below W.heap.size W w') := fun W => takeErr _ 7 cut0 (by decide) W
              have HT2 : Hid (∀ W, Calls Try.prog 12 #[.string ⟨#[185, 0]⟩] W fun e w' => (∃ l t ad ll c k, e = .returned (.tuple #[.agg #[.bool l, .string t, .slice ad ll c], .int .i64 k, .int .i64 7])) ∧ Below W.heap.size W w') := fun W => takeErr _ 7 cut1 (by decide) W
              clear bZ
              go_wp2_with fail
              refine (HT1.out _).mono ?_
              rintro e w2 ⟨⟨x1, x2, x3, x4, x5, x6, rfl⟩, hb2⟩
              have hb2a := hb2.alloc hb2.size (.cells #[.bool x1, .string x2, .slice x3 x4 x5] 26)
              have hB2 := hbq.trans (hb2a.mono hszq)
              clear hb2 hb2a hbq
              go_wp2_with fail
              refine (HT2.out _).mono ?_
              rintro e w3 ⟨⟨y1, y2, y3, y4, y5, y6, rfl⟩, hb3⟩
              have hb3a := hb3.alloc hb3.size (.cells #[.bool y1, .string y2, .slice y3 y4 y5] 26)
              have hB3 := hB2.trans (hb3a.mono hB2.size)
              clear hb3 hb3a hB2
              have hlen0 : (0 : Int) ≤ (len : Int) := by omega
              go_wp2_with (first | (go_at_call 14; refine (num4 _ _).mono ?_; rintro e w7 ⟨rfl, rfl⟩) | (go_at_call 18; refine (wakes _).mono ?_; rintro e w8 ⟨rfl, hb8⟩) | fail)
              go_ret
              exact ⟨rfl, hB3.trans (hb8.mono hB3.size)⟩
end Go.Proofs.Ytliaegnhnnnojaa

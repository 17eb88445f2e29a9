import Derived.Test.YtddoanldjpeplaaBld
import Derived.Test.YtddoanldjpeplaaWr
import Derived.Deep.RegionLaw
set_option linter.unusedSimpArgs false
set_option linter.unusedVariables false
namespace Go.Proofs.Ytddoanldjpeplaa
open Go.RowKit

/-! The page's CopyItem by contract. -/
theorem step_append_src {P : Program} {ops : Array Oper} {o : Oper} {a : Act} {w : World} {K : Act → World → Prop} {Q : Exit → Act → World → Prop} {E : Prop} (hgd : o.guard = none) (s x : Operand) (t tx : TypeId)
    (ho : o.op = .call { callee := .builtin .append, args := #[s, x], argTypes := #[t, tx] })
    (base : Nat) (e : TypeId) (i : TypeInfo) (z : Value) (size bytes : Nat) (ht : P.underlying t = some (.slice e)) (hi : P.info? e = some i) (hz : i.zero = some z)
    (hsize : i.size = size) (hby : i.bytes = bytes) (hzs : z.cells.size = size)
    (v xv : Value) (n : Nat) (xs : List Value) (m : Nat) (news : List Value) (hs : a.eval s = v) (hx : a.eval x = xv) (hown : w.ownsRow base e size v n xs) (hsrc : Src P size tx xv m news w)
    (h63 : n + m ≤ maxLen) (hbytes : (n + m) * bytes ≤ 140737488355328) (hbase : base ≤ w.heap.size) (hm : 0 < m) (N : Nat) (hN : n + m = N)
    (h : ∀ g cap w', w'.ownsRow base e size (.slice (some ⟨g, 0, none⟩) N cap) N (xs ++ news) → w.grownBy w' v.ownBlock → Sn w v (.slice (some ⟨g, 0, none⟩) N cap) → g < w'.heap.size → base ≤ g → K (a.put o.dst (.slice (some ⟨g, 0, none⟩) N cap)) w') :
    if Region.wanted o (yielded ops a.tmps) = true then Oper.wp P o a w K Q else E := by
  subst hN
  rw [if_pos (by simp [Region.wanted, hgd])]
  obtain ⟨v', w', hr, h2, h3, h4⟩ := run_append_own_src (P := P) w base t tx o.type e i z size bytes ht hi hz hsize hby hzs v n xs hown xv m news hsrc h63 hbytes hbase
  unfold Oper.wp execOp
  simp only [ho, resolve, invoke, builtin, Sem.run_bind, Sem.run_pure, Result.andThen_ok, List.map_toArray, List.map_cons, List.map_nil, hs, hx, hr]
  have h2' := h2
  rcases h2.2 with ⟨rfl, hz'⟩ | ⟨g, cap, cur, rfl, hg, hh, _⟩
  · omega
  · exact h g cap w' h2' h3 h4 (Array.getElem?_eq_some_iff.1 hh).1 hg
theorem infoI : (Try.prog.info? 26).map (fun i => (i.zero, i.size, i.bytes)) = some (some (.agg #[.bool false, .string ⟨#[]⟩, .slice none 0 0]), 3, 48) := by kernel_rfl
/-- The one element that is appended, in its own block. -/
theorem one_src {w : World} {g : Nat} {x y z : Value} (hb : Bk w g #[x, y, z] 26) (h1 : x.oneCell' = true) (h2 : y.oneCell' = true) (h3 : z.oneCell' = true) : Src Try.prog 3 24 (.slice (some ⟨g, 0, none⟩) 1 1) 1 [x, y, z] w := by
  obtain ⟨c0, c1, c2⟩ := box_cells hb
  refine Src.ofSlice w Try.underlying24 ⟨g, 0, none⟩ 1 1 [x, y, z] rfl (fun j u hj => ?_) (fun u hu => ?_)
  · rw [Addr.add_lit, Nat.zero_add]
    match j with
    | 0 => simp at hj; subst hj; exact c0
    | 1 => simp at hj; subst hj; exact c1
    | 2 => simp at hj; subst hj; exact c2
    | j + 3 => simp at hj
  · simp at hu
    rcases hu with rfl | rfl | rfl <;> assumption
def CpS (n : Nat) : Prop := ∀ (a : IT) (ad : Option Addr) (l c : Nat) (w : World), Rd w n a.items (.slice ad l c) → a.wt ≤ 1099511627776 →
  Calls Try.prog 12 #[.agg #[.bool a.list, .string a.text, .slice ad l c]] w fun e w' => (∃ ad' l' c', e = .returned (.agg #[.bool a.list, .string a.text, .slice ad' l' c']) ∧ RdP w' (w.heap.size ≤ ·) n a.items (.slice ad' l' c')) ∧ Below w.heap.size w w'
theorem len_wts : ∀ xs : List IT, xs.length ≤ IT.wts xs
  | [] => Nat.le_refl _
  | x :: xs => by have := len_wts xs; have : 1 ≤ x.wt := (by rw [IT.wt_eq]; omega); simp only [List.length_cons, IT.wts]; omega
set_option maxRecDepth 100000 in
set_option maxHeartbeats 2000000 in
theorem copyI_step (n : Nat) (IH : CpS n) (li : Bool) (t : ByteArray) (xs : List IT) (ad : Option Addr) (cp : Nat) (w : World) (hr : Rd w (n + 1) xs (.slice ad xs.length cp)) (hwt : IT.wts xs ≤ 1099511627776) :
    Calls Try.prog 12 #[.agg #[.bool li, .string t, .slice ad xs.length cp]] w fun e w' => (∃ ad' l' c', e = .returned (.agg #[.bool li, .string t, .slice ad' l' c']) ∧ RdP w' (w.heap.size ≤ ·) (n + 1) xs (.slice ad' l' c')) ∧ Below w.heap.size w w' := by
  obtain ⟨_, e1, _, _, e2, hxl, hat⟩ := hr.at
  obtain rfl : n = _ := by simpa using e1
  simp at e2
  obtain ⟨rfl, rfl⟩ := e2
  have HA : Hid (∀ i (hi : i < xs.length), ∃ b off, ad = some ⟨b, off, none⟩ ∧ ∃ x l c, w.cell? ⟨b, off + i * 3, none⟩ = some (.bool xs[i].list) ∧ w.cell? ⟨b, off + i * 3 + 1, none⟩ = some (.string xs[i].text) ∧ w.cell? ⟨b, off + i * 3 + 2, none⟩ = some (.slice x l c) ∧ Rd w n xs[i].items (.slice x l c)) := hat
  have HI : Hid (CpS n) := IH
  have HL : Hid (IT.wts xs ≤ 1099511627776) := hwt
  clear hat hr e1 IH hwt
  obtain ⟨i0, hi, hz0, hz1, hz2⟩ := info_of infoI
  have HIn : Hid (Try.prog.info? 26 = some i0) := hi
  have HZ : Hid (i0.zero = some (.agg #[.bool false, .string ⟨#[]⟩, .slice none 0 0]) ∧ i0.size = 3 ∧ i0.bytes = 48) := ⟨hz0, hz1, hz2⟩
  clear hi hz0 hz1 hz2
  go_enter Try.func12, Try.ntmps12
  go_wp2_with fail
  go_loopw [4] (fun i wr => ∃ (k : Nat) (ps : List (IT × Value)) (va : Option Addr) (vc : Nat), k ≤ xs.length ∧ i = .int .i64 k ∧ Hid (ps.map Prod.fst = xs.take k ∧ ps.length = k ∧ Bld wr (w.heap.size + 3) n (.slice va k vc) ps) ∧ Bk wr w.heap.size #[.bool li, .string t, .slice ad xs.length cp] 26 ∧ Bk wr (w.heap.size + 1) #[.bool false, .string ⟨#[]⟩, .slice none 0 0] 26 ∧ Bk wr (w.heap.size + 1 + 1) #[.bool li, .string t, .slice va k vc] 26 ∧ Below w.heap.size w wr) (fun i _ => xs.length - (intOf i).toNat)
  case atStart =>
    refine ⟨0, [], none, 0, by omega, rfl, ⟨by simp, rfl, Bld.nil _ _ _⟩, ((Bk.new w _ _).alloc _).alloc _, (Bk.new' _ _ _ (by simp)).alloc _, Bk.new' _ _ _ (by simp), (((Below.refl _ w).alloc (Nat.le_refl _) _).alloc (by simp) _).alloc (by simp; omega) _⟩
  case round =>
    obtain ⟨k, ps, va, vc, hk, rfl, hbld, bA, bR, bX, hbo⟩ := hrel
    have hszo := hbo.size
    have lX := bX.lt
    obtain ⟨p0, p1, p2⟩ := box_cells bA
    obtain ⟨x0, x1, x2⟩ := box_cells bX
    have xf := bX.frozen 2
    have HB : Hid (Bk wr w.heap.size #[.bool li, .string t, .slice ad xs.length cp] 26 ∧ Bk wr (w.heap.size + 1) #[.bool false, .string ⟨#[]⟩, .slice none 0 0] 26 ∧ Bk wr (w.heap.size + 1 + 1) #[.bool li, .string t, .slice va k vc] 26) := ⟨bA, bR, bX⟩
    clear bA
    by_cases hlt : k < xs.length
    · have hlt' : (k : Int) < (xs.length : Int) := by omega
      obtain ⟨b, off, rfl, s0, s1, s2, c0, c1, c2, hrd⟩ := HA.out k hlt
      have c0 := (hbo.cell (cell_lt' c0)).trans c0
      have c1 := (hbo.cell (cell_lt' c1)).trans c1
      have c2 := (hbo.cell (cell_lt' c2)).trans c2
      have hwk := wt_get xs k hlt
      have hlw := len_wts xs
      have HTk : Hid (xs.take (k + 1) = xs.take k ++ [xs[k]]) := by show _ = _; rw [List.take_succ_eq_append_getElem hlt]
      have hcall := fun W (hW : Below wr.heap.size wr W) => HI.out xs[k] s0 s1 s2 W (hrd.below (hbo.trans (hW.mono hszo))) (by have := HL.out; omega)
      generalize hxk : xs[k] = xk at *
      have HC : Hid (∀ W, Below wr.heap.size wr W → Calls Try.prog 12 #[.agg #[.bool xk.list, .string xk.text, .slice s0 s1 s2]] W fun e w' => (∃ ad' l' c', e = .returned (.agg #[.bool xk.list, .string xk.text, .slice ad' l' c']) ∧ RdP w' (W.heap.size ≤ ·) n xk.items (.slice ad' l' c')) ∧ Below W.heap.size W w') := hcall
      have hk50 : k + 1 ≤ 1099511627776 := by have := HL.out; omega
      clear hcall hxk hwk hrd hlw
      go_upto_region 5 with fail
      go_region_law (first
        | (refine step_append_src (by rfl) _ _ 24 24 (by rfl) (w.heap.size + 3) 26 i0 (.agg #[.bool false, .string ⟨#[]⟩, .slice none 0 0]) 3 48 Try.underlying24 HIn.out HZ.out.1 HZ.out.2.1 HZ.out.2.2 rfl (.slice va k vc) (.slice (some ⟨w2.heap.size, 0, none⟩) 1 1) k (icells ps) 1 [.bool xk.list, .string xk.text, .slice ad' l' c'] (by simp [Act.eval, Act.put]) (by simp [Act.eval, Act.put]) (by have h := (hbld.out.2.2.below H2.out.2).row; rw [hbld.out.2.1] at h; exact h.alloc _) (one_src (Bk.new w2 _ _) rfl rfl rfl) (by unfold maxLen; omega) (by omega) (by simp; omega) (by omega) (k + 1) rfl ?_; intro g cap w3 hown3 hgr3 hsn3 hlt3 hbg3; have b3 := bk_grown ((HB.out.2.2.below H2.out.2 lX).alloc (.cells #[.bool xk.list, .string xk.text, .slice ad' l' c'] 26)) hgr3 (fun k hk => by have := (hbld.out.2.2.row.lt k hk).1; omega); have z2 := (box_cells b3).2.2; have zf := b3.frozen 2; have H3 : Hid (w3.ownsRow (w.heap.size + 3) 26 3 (.slice (some ⟨g, 0, none⟩) (k + 1) cap) (k + 1) (icells ps ++ [.bool xk.list, .string xk.text, .slice ad' l' c']) ∧ (w2.alloc (.cells #[.bool xk.list, .string xk.text, .slice ad' l' c'] 26)).grownBy w3 (Value.slice va k vc).ownBlock ∧ Sn (w2.alloc (.cells #[.bool xk.list, .string xk.text, .slice ad' l' c'] 26)) (.slice va k vc) (.slice (some ⟨g, 0, none⟩) (k + 1) cap) ∧ Bk w3 (w.heap.size + 1 + 1) #[.bool li, .string t, .slice va k vc] 26) := ⟨hown3, hgr3, hsn3, b3⟩; clear hown3 hgr3 hsn3 b3)
        | (go_simp; go_at_call 12; refine (HC.out _ ((Below.refl _ _).drew)).mono ?_; rintro e w2 ⟨⟨ad', l', c', rfl, hrd2⟩, hb2⟩; have H2 : Hid (RdP w2 (wr.heap.size ≤ ·) n xk.items (.slice ad' l' c') ∧ Below wr.heap.size wr w2) := ⟨hrd2, ((Below.refl _ _).drew).trans hb2⟩; obtain ⟨y0, y1, y2⟩ := box_cells (HB.out.2.2.below H2.out.2 lX); have lX2 : w.heap.size + 1 + 1 < w2.heap.size := (Nat.lt_of_lt_of_le lX H2.out.2.size); have yf := (HB.out.2.2.below H2.out.2 lX).frozen 2; clear hrd2 hb2))
      all_goals
        go_wp2_with fail
        go_roundw
        case rel =>
          obtain ⟨hown3, hgr3, hsn3, b3⟩ := H3.out
          obtain ⟨hrd2, hb2⟩ := H2.out
          obtain ⟨e1, e2, hB⟩ := hbld.out
          have hs2 := hb2.size
          have hrow : ∀ q, (Value.slice va k vc).ownBlock = some q → w.heap.size + 3 ≤ q ∧ q < wr.heap.size := fun q hq => hB.row.lt q hq
          have hb2a : Below wr.heap.size wr (w2.alloc (.cells #[.bool xk.list, .string xk.text, .slice ad' l' c'] 26)) := hb2.alloc hs2 _
          have hBn := (hB.below hb2a).snoc (x := xk) (sv := .slice ad' l' c') (v' := .slice (some ⟨g, 0, none⟩) (k + 1) cap) (w' := w3) (B := wr.heap.size) (hrd2.keep fun b _ hl => Below.heap_alloc w2 _ b hl) ⟨_, _, _, rfl⟩ (by omega) (fun q hq => (hrow q hq).2) (by rw [e2]; exact hown3) hgr3 hsn3
          have hgne : g ≠ w.heap.size + 1 + 1 := by omega
          have hold : ∀ (b : Nat) vs ty, Bk wr b vs ty → b < w.heap.size + 3 → b ≠ w.heap.size + 1 + 1 → Bk (w3.setCell ⟨w.heap.size + 1 + 1, 2, none⟩ (.slice (some ⟨g, 0, none⟩) (k + 1) cap)) b vs ty := fun b vs ty hb h1 h2 =>
            (bk_grown ((hb.below hb2 hb.lt).alloc _) hgr3 (fun q hq => by have := (hrow q hq).1; omega)).other (by simpa using h2) _
          refine ⟨k + 1, ps ++ [(xk, .slice ad' l' c')], some ⟨g, 0, none⟩, cap, by omega, by go_num, ⟨?_, ?_, ?_⟩, hold _ _ _ HB.out.1 (by omega) (by omega), hold _ _ _ HB.out.2.1 (by omega) (by omega), b3.set 2 _ rfl, ?_⟩
          · rw [HTk.out, List.map_append, e1]; rfl
          · rw [List.length_append, e2]; rfl
          · refine ⟨World.ownsRow.kept hBn.row ⟨rfl, rfl, rfl, by simp, fun q _ hq => Below.heap_setCell w3 _ _ q (fun e => hq (by rw [e]))⟩ (.inr (show (some g : Option Nat) ≠ some (w.heap.size + 1 + 1) by simpa using hgne)), fun p hp => ⟨(hBn.each p hp).1, (hBn.each p hp).2.keep fun b hb _ => Below.heap_setCell w3 _ _ b (fun e => by have := hb.1; simp at e; omega)⟩⟩
          · exact ((hbo.trans (hb2a.mono hszo)).trans (grown_below hgr3 (by simp; omega) (fun q hq => by have := (hrow q hq).1; omega))).setCell (p := ⟨w.heap.size + 1 + 1, 2, none⟩) (by simp; omega) _
        case measure => simp [intOf]; omega
    · have hlt' : ¬ (k : Int) < (xs.length : Int) := by omega
      have hkl : k = xs.length := by omega
      subst hkl
      have hl50 : xs.length ≤ 9223372036854775807 := hxl
      have r0 := (box_cells bR).1
      have r1 := (box_cells bR).2.1
      have r2 := (box_cells bR).2.2
      have f0 := bR.frozen 0
      have f1 := bR.frozen 1
      have f2 := bR.frozen 2
      have lR := bR.lt
      clear bR bX
      go_wp2_with fail
      obtain ⟨e1, e2, hB⟩ := hbld.out
      have b9 := ((HB.out.2.1.set 0 (.bool li) rfl).set 1 (.string t) rfl).set 2 (.slice va xs.length vc) rfl
      have hrd := hB.rd (by rw [e2]; exact hl50)
      rw [e1, List.take_length] at hrd
      refine bodyPost_ret (v := .agg #[.bool li, .string t, .slice va xs.length vc]) ?_ rfl ⟨⟨va, xs.length, vc, rfl, ?_⟩, ?_⟩
      · obtain ⟨g0, g1, g2⟩ := box_cells b9
        simp [results, Try.results12, go_sem, g0, g1, g2]
      · have hne : ∀ b : Nat, w.heap.size + 3 ≤ b → b ≠ w.heap.size + 1 := fun b h => by omega
        exact (hrd.keep (w' := ((wr.setCell ⟨w.heap.size + 1, 0, none⟩ (.bool li)).setCell ⟨w.heap.size + 1, 1, none⟩ (.string t)).setCell ⟨w.heap.size + 1, 2, none⟩ (.slice va xs.length vc)) fun b hb _ => (Below.heap_setCell _ _ _ b (hne b hb)).trans ((Below.heap_setCell _ _ _ b (hne b hb)).trans (Below.heap_setCell _ _ _ b (hne b hb)))).weak fun b hb => by omega
      · exact ((hbo.setCell (p := ⟨w.heap.size + 1, 0, none⟩) (by simp) _).setCell (p := ⟨w.heap.size + 1, 1, none⟩) (by simp) _).setCell (p := ⟨w.heap.size + 1, 2, none⟩) (by simp) _
theorem copyItem : ∀ n, CpS n
  | 0 => fun a ad l c w h => h.elim
  | n + 1 => fun a ad l c w hr hw => by
    have IH := copyItem n
    obtain ⟨li, t, xs⟩ := a
    have hwe : (IT.mk li t xs).wt = 1 + t.size + IT.wts xs := rfl
    rw [hwe] at hw
    simp only [IT.list, IT.text, IT.items] at hr ⊢
    obtain ⟨m, e1, ad', cp, e2, hxl, -⟩ := hr.at
    simp at e2
    obtain ⟨rfl, rfl, rfl⟩ := e2
    exact copyI_step n IH li t xs ad c w hr (by omega)
end Go.Proofs.Ytddoanldjpeplaa

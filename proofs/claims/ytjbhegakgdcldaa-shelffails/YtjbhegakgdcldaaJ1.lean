/- Texts joined: Ovr Cln9 Do9 DkB DkC DkD. -/
import Derived.Test.YtjbhegakgdcldaaJ0
import Derived.Deep.RegionHeld3
import Derived.Deep.RegionLaw
import Derived.Deep.DeepCutAuto
section
set_option linter.unusedSimpArgs false
set_option linter.unusedVariables false
namespace Go.Proofs.Ytjbhegakgdcldaa
open Go.RowKit

/-! change.over: a row as it is with a change done. -/
theorem Bk.grown {w w' : World} {b : Nat} {vs : Array Value} {t : TypeId} {row : Option Nat} (h : Bk w b vs t) (hg : w.grownBy w' row) (hne : some b ≠ row) : Bk w' b vs t := (hg.block b h.lt hne).trans h
theorem Ow.cells {w : World} {g n cap : Nat} {l : List UInt8} (h : Ow w 0 (.slice (some ⟨g, 0, none⟩) l.length cap) l) : ∃ cur : Array Value, w.heap[g]? = some (.cells cur 5) ∧ l.length ≤ cap ∧ cap ≤ maxLen ∧ cur.size = cap ∧ cur.toList.take l.length = bc l := by
  rcases h.2 with ⟨h0, _⟩ | ⟨g', cap', cur, hv, _, hh, h1, h2, h3, h4⟩
  · simp at h0
  · simp at hv
    obtain ⟨rfl, rfl⟩ := hv
    exact ⟨cur, hh, h1, h2, by simpa using h3, by simpa using h4⟩
theorem Ow.pos' {w : World} {v : Value} {l : List UInt8} (h : Ow w 0 v l) (hl : 0 < l.length) : ∃ g cap, v = .slice (some ⟨g, 0, none⟩) l.length cap ∧ l.length ≤ cap ∧ cap ≤ maxLen ∧ g < w.heap.size := by
  rcases h.2 with ⟨rfl, hz⟩ | ⟨g, cap, cur, rfl, hb, hh, hc, hm, _⟩
  · omega
  · exact ⟨g, cap, rfl, hc, hm, (Array.getElem?_eq_some_iff.1 hh).1⟩
theorem Ow.cut {w : World} {ad : Option Addr} {n cap : Nat} {l : List UInt8} (h : Ow w 0 (.slice ad n cap) l) (k : Nat) (hk : k ≤ l.length) : Ow w 0 (.slice ad k cap) (l.take k) := by
  have hlk : (l.take k).length = k := by rw [List.length_take]; omega
  refine ⟨by rw [bc_length]; omega, ?_⟩
  rcases h.2 with ⟨h0, hz⟩ | ⟨g, cap', cur, hv, hb, hh, h1, h2, h3, h4⟩
  · simp at h0
    obtain ⟨rfl, rfl, rfl⟩ := h0
    exact .inl ⟨by simp; omega, by omega⟩
  · simp at hv
    obtain ⟨rfl, rfl, rfl⟩ := hv
    refine .inr ⟨g, cap, cur, by rw [hlk], hb, hh, by omega, h2, h3, ?_⟩
    rw [hlk, ← bc_take, ← h4, List.take_take]
    congr 1
    omega
theorem bc_splice (l : List UInt8) (k : Nat) (bs : List UInt8) : bc (splice l k bs) = splice (bc l) k (bc bs) := by simp [splice, bc, List.map_take, List.map_drop]
theorem Ow.cellAt {w : World} {g n cap : Nat} {l : List UInt8} (h : Ow w 0 (.slice (some ⟨g, 0, none⟩) n cap) l) (j : Nat) (hj : j < l.length) : w.cell? ⟨g, j, none⟩ = some (.int .u8 (l[j].toNat : Int)) := by
  have hn : n = l.length := by
    rcases h.2 with ⟨h0, _⟩ | ⟨g', cap', cur, hv, _⟩
    · simp at h0
    · simp at hv; exact hv.2.1
  subst hn
  rw [World.ownsRow.cellAt h j (by omega)]
  simp [bc, hj]
/-- copy onto a row of one's own. -/
theorem step_copy_ow {ops : Array Oper} {o : Oper} {a : Act} {w : World} {K : Act → World → Prop} {Q : Exit → Act → World → Prop} {E : Prop} (hgd : o.guard = none) (d s : Operand)
    (ho : o.op = .call { callee := .builtin .copy, args := #[d, s], argTypes := #[58, 58] }) {g cap dCap pos sCap b : Nat} {l bs : List UInt8} (hd : a.eval d = .slice (some ⟨g, pos, none⟩) (l.length - pos) dCap) (hs : a.eval s = .slice (some ⟨b, 0, none⟩) bs.length sCap)
    (hl : Ow w 0 (.slice (some ⟨g, 0, none⟩) l.length cap) l) (hb : Ow w 0 (.slice (some ⟨b, 0, none⟩) bs.length sCap) bs) (hfit : pos + bs.length ≤ l.length)
    (h : ∀ w', Ow w' 0 (.slice (some ⟨g, 0, none⟩) l.length cap) (splice l pos bs) → w.grownBy w' (some g) → w'.heap.size = w.heap.size → K (a.put o.dst (goInt bs.length)) w') :
    if Region.wanted o (yielded ops a.tmps) = true then Oper.wp Try.prog o a w K Q else E := by
  have hw : Region.wanted o (yielded ops a.tmps) = true := by simp [Region.wanted, hgd]
  rw [if_pos hw]
  obtain ⟨cur, hh, h1, h2, h3, h4⟩ := hl.cells (n := 0)
  obtain ⟨i, hi, hz, hsize, hby⟩ := info_of info8
  have hlb : (bc bs).length = bs.length := bc_length bs
  have hrun := run_copy_row (P := Try.prog) w 58 58 o.type 5 g pos (l.length - pos) dCap ⟨b, 0, none⟩ bs.length sCap cur 5 (bc bs) Try.underlying58 (by rw [hi]; simp [hsize]) hh (by rw [hlb]; show _ = min _ _; omega)
    (fun j v hv => by
      have hj : j < bs.length := by rw [← hlb]; exact (List.getElem?_eq_some_iff.1 hv).1
      rw [Addr.add_mid, Nat.zero_add, Ow.cellAt hb j hj, ← hv]
      simp [bc, hj]) (by rw [hlb, h3]; omega) bc_one
  have hsl : (splice l pos bs).length = l.length := length_splice l pos bs hfit
  unfold Oper.wp
  simp [execOp, ho, resolve, invoke, builtin, hd, hs, hrun, Result.andThen]
  rw [hlb]
  refine h _ ⟨by rw [bc_length, hsl]; omega, .inr ⟨g, cap, _, by rw [hsl], Nat.zero_le _, setRow_heap w g cur _ 5 _ hh, by rw [hsl]; exact h1, h2, ?_, ?_⟩⟩ ⟨rfl, rfl, rfl, by simp, fun k _ hk => setRow_other w g k _ (fun e => hk (by rw [e]))⟩ (by simp [World.setRow])
  · simp only [List.size_toArray, List.length_append, List.length_take, List.length_drop, Array.length_toList, hlb]
    omega
  · rw [hsl, Nat.mul_one]
    have e : cur.toList = bc l ++ cur.toList.drop l.length := by rw [← h4]; exact (List.take_append_drop _ _).symm
    rw [bc_splice]
    unfold splice
    rw [hlb]
    have hll : (bc l).length = l.length := bc_length l
    generalize cur.toList.drop l.length = rest at e
    rw [e]
    simp only []
    have e1 : (bc l ++ rest).take pos = (bc l).take pos := List.take_append_of_le_length (by omega)
    have e2 : (bc l ++ rest).drop (pos + bs.length) = (bc l).drop (pos + bs.length) ++ rest := List.drop_append_of_le_length (by omega)
    rw [e1, e2, show (bc l).take pos ++ (bc bs ++ ((bc l).drop (pos + bs.length) ++ rest)) = ((bc l).take pos ++ (bc bs ++ (bc l).drop (pos + bs.length))) ++ rest by simp [List.append_assoc]]
    rw [List.take_left' (by simp; omega)]
set_option maxRecDepth 100000 in
set_option maxHeartbeats 2000000 in
theorem over_cut (w : World) (pos : Nat) (bv rv : Value) (r : List UInt8) (hr : Ow w 0 rv r) (hl : r.length ≤ 1099511627776) (hp : pos ≤ 1099511627776) :
    Calls Try.prog 83 #[.agg #[.bool true, .int .i64 (pos : Int), bv], rv] w fun e w' => ∃ rv', e = .returned rv' ∧ Ow w' 0 rv' (r.take pos) ∧ w.grownBy w' rv.ownBlock ∧ Sn w rv rv' := by
  obtain ⟨ad, cap, rfl, hle⟩ := hr.shape
  have HR : Hid (Ow w 0 (.slice ad r.length cap) r) := hr
  clear hr
  rcases Nat.lt_trichotomy pos r.length with hlt | heq | hgt
  · have h1 : pos ≤ cap := by omega
    go_enter Try.func83, Try.ntmps83
    go_wp2
    go_ret
    exact ⟨.slice ad pos cap, rfl, World.ownsRow.alloc (HR.out.cut pos (by omega)) _, ⟨rfl, rfl, rfl, by simp, fun k hk _ => Below.heap_alloc w _ k hk⟩, .inl (by cases ad <;> rfl)⟩
  · subst heq
    rw [List.take_of_length_le (by omega)]
    go_enter Try.func83, Try.ntmps83
    go_wp2
    go_ret
    exact ⟨.slice ad r.length cap, rfl, World.ownsRow.alloc HR.out _, ⟨rfl, rfl, rfl, by simp, fun k hk _ => Below.heap_alloc w _ k hk⟩, .inl rfl⟩
  · rw [List.take_of_length_le (by omega)]
    go_enter Try.func83, Try.ntmps83
    go_wp2
    go_ret
    exact ⟨.slice ad r.length cap, rfl, World.ownsRow.alloc HR.out _, ⟨rfl, rfl, rfl, by simp, fun k hk _ => Below.heap_alloc w _ k hk⟩, .inl rfl⟩
set_option maxRecDepth 100000 in
set_option maxHeartbeats 2000000 in
theorem over_piece (w : World) (pos : Nat) (bv rv : Value) (bs r : List UInt8) (hr : Ow w 0 rv r) (hb : Ow w 0 bv bs) (hne : rv.ownBlock = none ∨ rv.ownBlock ≠ bv.ownBlock) (hn : 0 < bs.length) (hl : r.length ≤ 1099511627776) (hp : pos + bs.length ≤ 1099511627776) :
    Calls Try.prog 83 #[.agg #[.bool false, .int .i64 (pos : Int), bv], rv] w fun e w' => ∃ rv', e = .returned rv' ∧ Ow w' 0 rv' (splice (pad r (pos + bs.length)) pos bs) ∧ w.grownBy w' rv.ownBlock ∧ Sn w rv rv' := by
  obtain ⟨b, bcap, rfl, hbc, hbm, hbl⟩ := hb.pos' hn
  obtain ⟨ad, cap, rfl, hle⟩ := hr.shape
  have HR : Hid (Ow w 0 (.slice ad r.length cap) r) := hr
  have HBy : Hid (Ow w 0 (.slice (some ⟨b, 0, none⟩) bs.length bcap) bs) := hb
  clear hr hb
  have hsum : IntKind.i64.wrap ((pos : Int) + (bs.length : Int)) = (pos : Int) + (bs.length : Int) := IntWalk.i64_in _ (by omega)
  have hbv : (Value.slice (some ⟨b, 0, none⟩) bs.length bcap).ownBlock ≠ (Value.slice ad r.length cap).ownBlock := by
    rcases hne with h | h
    · rw [h]; simp [Value.ownBlock]
    · exact fun e => h e.symm
  by_cases hlt : r.length < pos + bs.length
  · have HL : Hid (∀ k, (Value.slice ad r.length cap).ownBlock = some k → k < w.heap.size) := fun k hk => (HR.out.ge hk).2
    go_enter Try.func83, Try.ntmps83
    go_upto_region 4 with fail
    obtain ⟨W, hW⟩ : ∃ W, W = w.alloc (.cells #[.bool false, .int .i64 (pos : Int), .slice (some ⟨b, 0, none⟩) bs.length bcap] 128) := ⟨_, rfl⟩
    have HX : Hid (Bk W w.heap.size #[.bool false, .int .i64 (pos : Int), .slice (some ⟨b, 0, none⟩) bs.length bcap] 128) := by show Bk _ _ _ _; rw [hW]; exact Bk.new _ _ _
    have HG : Hid (w.grownBy W (Value.slice ad r.length cap).ownBlock) := by show World.grownBy _ _ _; rw [hW]; exact ⟨rfl, rfl, rfl, by simp, fun k hk _ => Below.heap_alloc w _ k hk⟩
    have HR1 : Hid (Ow W 0 (.slice ad r.length cap) r) := by show Ow _ _ _ _; rw [hW]; exact World.ownsRow.alloc HR.out _
    have HB1 : Hid (Ow W 0 (.slice (some ⟨b, 0, none⟩) bs.length bcap) bs) := by show Ow _ _ _ _; rw [hW]; exact World.ownsRow.alloc HBy.out _
    rw [← hW]
    clear hW HR HBy
    have hlt' : decide ((r.length : Int) < (pos : Int) + (bs.length : Int)) = true := decide_eq_true (by omega)
    obtain ⟨m, hm⟩ : ∃ m, m = pos + bs.length - r.length := ⟨_, rfl⟩
    have hdif : IntKind.i64.wrap ((pos : Int) + (bs.length : Int) - (r.length : Int)) = (m : Int) := by rw [IntWalk.i64_in _ (by omega)]; omega
    have Hm : Hid (m = pos + bs.length - r.length) := hm
    clear hm
    go_upto_region 6 with (refine wpList_append_zeros rfl _ _ rfl (.slice ad r.length cap) r m rfl rfl HR1.out (by have := Hm.out; omega) ?_; intro v2 w2 hown2 hgr2 hsn2)
    have er : r ++ List.replicate m 0 = pad r (pos + bs.length) := by rw [Hm.out]; rfl
    rw [er] at hown2
    have hpl : (pad r (pos + bs.length)).length = pos + bs.length := by rw [pad_length]; omega
    have HX2 : Hid (Bk w2 w.heap.size #[.bool false, .int .i64 (pos : Int), .slice (some ⟨b, 0, none⟩) bs.length bcap] 128) := HX.out.grown hgr2 (fun e => by have h := HL.out _ e.symm; omega)
    have HB2 : Hid (Ow w2 0 (.slice (some ⟨b, 0, none⟩) bs.length bcap) bs) := World.ownsRow.kept HB1.out hgr2 (.inr hbv)
    have HG2 : Hid (w.grownBy w2 (Value.slice ad r.length cap).ownBlock) := grown_trans HG.out hgr2 (.inl rfl)
    have HS2 : Hid (Sn w (Value.slice ad r.length cap) v2) := by
      rcases hsn2 with h | h
      · exact .inl h
      · exact .inr fun k hk => Nat.le_trans HG.out.size (h k hk)
    have hvb : v2.ownBlock ≠ some b := fun e => by
      rcases HS2.out with h | h
      · rcases hne with h' | h'
        · rw [h, h'] at e; simp at e
        · exact h' (by rw [← h, e]; rfl)
      · have := h b e; omega
    obtain ⟨g, cap2, rfl, hc1, hc2, hc3⟩ := Ow.pos' hown2 (by omega)
    have hgw : g ≠ w.heap.size := fun e => by
      rcases hsn2 with h | h
      · have := HL.out g (h ▸ rfl); omega
      · have h8 := h g rfl; have h9 := HX.out.lt; omega
    have HO2 : Hid (Ow w2 0 (.slice (some ⟨g, 0, none⟩) (pad r (pos + bs.length)).length cap2) (pad r (pos + bs.length))) := hown2
    clear hown2 hgr2 hsn2 HX HB1 HG HR1 er Hm
    generalize hpd : pad r (pos + bs.length) = pd at *
    have Hpd : Hid (pd.length = pos + bs.length) := hpl
    have Hpe : Hid (pad r (pos + bs.length) = pd) := hpd
    have hp1 : pos < pd.length := by omega
    have hp1' : pos ≤ pd.length := by omega
    have hp2 : ¬ cap2 = pos := by omega
    clear hpl hpd
    refine wp_region_noPanic ?_
    refine wp_region_held_drew (S := fun w' => w'.cell? ⟨w.heap.size, 1, none⟩ = some (.int .i64 (pos : Int)) ∧ w'.cell? ⟨w.heap.size, 2, none⟩ = some (.slice (some ⟨b, 0, none⟩) bs.length bcap)) (by kernel_rfl) ?_ (fun hHeld => ?_)
    · ((try dsimp only); exact ⟨HX2.out.cell 1, HX2.out.cell 2⟩)
    (try dsimp only at hHeld)
    refine wpAnyH_take (i := 0) (oi := ⟨some 31, _, _, _, _, _⟩) (v := ?_) rfl (by kernel_rfl) (by kernel_rfl) (by kernel_rfl) (fun _ _ _ h => h) (Or.inl ⟨by rfl, ?_⟩) (by assumption) ?_
    rotate_left
    · (intro w hSw; (try dsimp only at hSw); go_simp; try (with_reducible rfl))
    (try dsimp only); (try simp only [Act.put, List.setIfInBounds_toArray, List.set_cons_zero, List.set_cons_succ])
    refine wpAnyH_take (i := 1) (oi := ⟨some 32, _, _, _, _, _⟩) (v := ?_) rfl (by kernel_rfl) (by kernel_rfl) (by kernel_rfl) (fun _ _ _ h => h) (Or.inl ⟨by rfl, ?_⟩) (by assumption) ?_
    rotate_left
    · (intro w hSw; (try dsimp only at hSw); go_simp; try (with_reducible rfl))
    (try dsimp only); (try simp only [Act.put, List.setIfInBounds_toArray, List.set_cons_zero, List.set_cons_succ])
    refine wpAnyH_take (i := 2) (oi := ⟨some 33, _, _, _, _, _⟩) (v := ?_) rfl (by kernel_rfl) (by kernel_rfl) (by kernel_rfl) (fun _ _ _ h => h) (Or.inl ⟨by rfl, ?_⟩) (by assumption) ?_
    rotate_left
    · (intro w hSw; (try dsimp only at hSw); go_simp; try (with_reducible rfl))
    (try dsimp only); (try simp only [Act.put, List.setIfInBounds_toArray, List.set_cons_zero, List.set_cons_succ])
    refine wpAnyH_take (i := 3) (oi := ⟨some 34, _, _, _, _, _⟩) (v := ?_) rfl (by kernel_rfl) (by kernel_rfl) (by kernel_rfl) (fun _ _ _ h => h) (Or.inl ⟨by rfl, ?_⟩) (by assumption) ?_
    rotate_left
    · (intro w hSw; (try dsimp only at hSw); go_simp; try (with_reducible rfl))
    (try dsimp only); (try simp only [Act.put, List.setIfInBounds_toArray, List.set_cons_zero, List.set_cons_succ])
    refine wpAnyH_take (i := 4) (oi := ⟨some 35, _, _, _, _, _⟩) (v := ?_) rfl (by kernel_rfl) (by kernel_rfl) (by kernel_rfl) (fun _ _ _ h => h) (Or.inl ⟨by rfl, ?_⟩) (by assumption) ?_
    rotate_left
    · (intro w hSw; (try dsimp only at hSw); go_simp; try (with_reducible rfl))
    (try dsimp only); (try simp only [Act.put, List.setIfInBounds_toArray, List.set_cons_zero, List.set_cons_succ])
    refine wpAnyH_take (i := 5) (oi := ⟨some 36, _, _, _, _, _⟩) (v := ?_) rfl (by kernel_rfl) (by kernel_rfl) (by kernel_rfl) (fun _ _ _ h => h) (Or.inl ⟨by rfl, ?_⟩) (by assumption) ?_
    rotate_left
    · (intro w hSw; (try dsimp only at hSw); go_simp; try (with_reducible rfl))
    (try dsimp only); (try simp only [Act.put, List.setIfInBounds_toArray, List.set_cons_zero, List.set_cons_succ])
    refine wpAnyH_ready (rs := [6]) (by kernel_rfl) (by simp) ?_
    refine AllReadyH.cons (o := ⟨some 37, _, _, _, _, _⟩) rfl (fun K hK => ?_) AllReadyH.nil
    refine step_copy_ow (w := (w2).drew) rfl _ _ rfl rfl rfl HO2.out HB2.out (by have := Hpd.out; omega) ?_
    intro w3 ho3 hg3 hz3
    refine hK.out _ _ (by have hx := HX2.out.drew.grown hg3 (fun e => by simp at e; exact hgw e.symm); exact ⟨hx.cell 1, hx.cell 2⟩) (fun hHeld => ?_)
    clear hK K
    (try dsimp only); (try simp only [Act.put, List.setIfInBounds_toArray, List.set_cons_zero, List.set_cons_succ])
    refine wpAnyH_done (by kernel_rfl) ?_ _
    refine NoPanic.normal ?_
    go_wp2
    go_ret
    refine ⟨.slice (some ⟨g, 0, none⟩) pd.length cap2, rfl, by rw [Hpe.out]; exact ho3, grown_trans HG2.out ⟨hg3.os, hg3.tape, hg3.output, hg3.size, hg3.block⟩ ?_, HS2.out⟩
    rcases HS2.out with h | h
    · exact .inl h
    · exact .inr h
  · have er : pad r (pos + bs.length) = r := by unfold pad; rw [show pos + bs.length - r.length = 0 by omega]; simp
    rw [er]
    have HL : Hid (∀ k, (Value.slice ad r.length cap).ownBlock = some k → k < w.heap.size) := fun k hk => (HR.out.ge hk).2
    go_enter Try.func83, Try.ntmps83
    go_upto_region 4 with fail
    obtain ⟨W, hW⟩ : ∃ W, W = w.alloc (.cells #[.bool false, .int .i64 (pos : Int), .slice (some ⟨b, 0, none⟩) bs.length bcap] 128) := ⟨_, rfl⟩
    have HX : Hid (Bk W w.heap.size #[.bool false, .int .i64 (pos : Int), .slice (some ⟨b, 0, none⟩) bs.length bcap] 128) := by show Bk _ _ _ _; rw [hW]; exact Bk.new _ _ _
    have HG : Hid (w.grownBy W (Value.slice ad r.length cap).ownBlock) := by show World.grownBy _ _ _; rw [hW]; exact ⟨rfl, rfl, rfl, by simp, fun k hk _ => Below.heap_alloc w _ k hk⟩
    have HR1 : Hid (Ow W 0 (.slice ad r.length cap) r) := by show Ow _ _ _ _; rw [hW]; exact World.ownsRow.alloc HR.out _
    have HB1 : Hid (Ow W 0 (.slice (some ⟨b, 0, none⟩) bs.length bcap) bs) := by show Ow _ _ _ _; rw [hW]; exact World.ownsRow.alloc HBy.out _
    rw [← hW]
    clear hW HR HBy
    have hlt' : decide ((r.length : Int) < (pos : Int) + (bs.length : Int)) = false := decide_eq_false (by omega)
    obtain ⟨g, hg⟩ : ∃ g, ad = some ⟨g, 0, none⟩ := by
      obtain ⟨g, c, e, _⟩ := Ow.pos' HR1.out (by omega)
      simp at e
      exact ⟨g, e.1⟩
    subst hg
    have HX2 := HX
    have HB2 : Hid (Ow W 0 (.slice (some ⟨b, 0, none⟩) bs.length bcap) bs) := HB1.out
    have HG2 : Hid (w.grownBy W (Value.slice (some ⟨g, 0, none⟩) r.length cap).ownBlock) := HG.out
    have HO2 : Hid (Ow W 0 (.slice (some ⟨g, 0, none⟩) r.length cap) r) := HR1.out
    have HS2 : Hid (Sn w (Value.slice (some ⟨g, 0, none⟩) r.length cap) (Value.slice (some ⟨g, 0, none⟩) r.length cap)) := .inl rfl
    have hgw : g ≠ w.heap.size := fun e => by have := HL.out g rfl; omega
    have hp1 : pos < r.length := by omega
    have hp1' : pos ≤ r.length := by omega
    have hp2 : ¬ cap = pos := by omega
    have Hpd : Hid (pos + bs.length ≤ r.length) := by show _ ≤ _; omega
    clear HX HB1 HG HR1 er hlt
    go_upto_region 6 with fail
    refine wp_region_noPanic ?_
    refine wp_region_held_drew (S := fun w' => w'.cell? ⟨w.heap.size, 1, none⟩ = some (.int .i64 (pos : Int)) ∧ w'.cell? ⟨w.heap.size, 2, none⟩ = some (.slice (some ⟨b, 0, none⟩) bs.length bcap)) (by kernel_rfl) ?_ (fun hHeld => ?_)
    · ((try dsimp only); exact ⟨HX2.out.cell 1, HX2.out.cell 2⟩)
    (try dsimp only at hHeld)
    refine wpAnyH_take (i := 0) (oi := ⟨some 31, _, _, _, _, _⟩) (v := ?_) rfl (by kernel_rfl) (by kernel_rfl) (by kernel_rfl) (fun _ _ _ h => h) (Or.inl ⟨by rfl, ?_⟩) (by assumption) ?_
    rotate_left
    · (intro w hSw; (try dsimp only at hSw); go_simp; try (with_reducible rfl))
    (try dsimp only); (try simp only [Act.put, List.setIfInBounds_toArray, List.set_cons_zero, List.set_cons_succ])
    refine wpAnyH_take (i := 1) (oi := ⟨some 32, _, _, _, _, _⟩) (v := ?_) rfl (by kernel_rfl) (by kernel_rfl) (by kernel_rfl) (fun _ _ _ h => h) (Or.inl ⟨by rfl, ?_⟩) (by assumption) ?_
    rotate_left
    · (intro w hSw; (try dsimp only at hSw); go_simp; try (with_reducible rfl))
    (try dsimp only); (try simp only [Act.put, List.setIfInBounds_toArray, List.set_cons_zero, List.set_cons_succ])
    refine wpAnyH_take (i := 2) (oi := ⟨some 33, _, _, _, _, _⟩) (v := ?_) rfl (by kernel_rfl) (by kernel_rfl) (by kernel_rfl) (fun _ _ _ h => h) (Or.inl ⟨by rfl, ?_⟩) (by assumption) ?_
    rotate_left
    · (intro w hSw; (try dsimp only at hSw); go_simp; try (with_reducible rfl))
    (try dsimp only); (try simp only [Act.put, List.setIfInBounds_toArray, List.set_cons_zero, List.set_cons_succ])
    refine wpAnyH_take (i := 3) (oi := ⟨some 34, _, _, _, _, _⟩) (v := ?_) rfl (by kernel_rfl) (by kernel_rfl) (by kernel_rfl) (fun _ _ _ h => h) (Or.inl ⟨by rfl, ?_⟩) (by assumption) ?_
    rotate_left
    · (intro w hSw; (try dsimp only at hSw); go_simp; try (with_reducible rfl))
    (try dsimp only); (try simp only [Act.put, List.setIfInBounds_toArray, List.set_cons_zero, List.set_cons_succ])
    refine wpAnyH_take (i := 4) (oi := ⟨some 35, _, _, _, _, _⟩) (v := ?_) rfl (by kernel_rfl) (by kernel_rfl) (by kernel_rfl) (fun _ _ _ h => h) (Or.inl ⟨by rfl, ?_⟩) (by assumption) ?_
    rotate_left
    · (intro w hSw; (try dsimp only at hSw); go_simp; try (with_reducible rfl))
    (try dsimp only); (try simp only [Act.put, List.setIfInBounds_toArray, List.set_cons_zero, List.set_cons_succ])
    refine wpAnyH_take (i := 5) (oi := ⟨some 36, _, _, _, _, _⟩) (v := ?_) rfl (by kernel_rfl) (by kernel_rfl) (by kernel_rfl) (fun _ _ _ h => h) (Or.inl ⟨by rfl, ?_⟩) (by assumption) ?_
    rotate_left
    · (intro w hSw; (try dsimp only at hSw); go_simp; try (with_reducible rfl))
    (try dsimp only); (try simp only [Act.put, List.setIfInBounds_toArray, List.set_cons_zero, List.set_cons_succ])
    refine wpAnyH_ready (rs := [6]) (by kernel_rfl) (by simp) ?_
    refine AllReadyH.cons (o := ⟨some 37, _, _, _, _, _⟩) rfl (fun K hK => ?_) AllReadyH.nil
    refine step_copy_ow (w := (W).drew) rfl _ _ rfl rfl rfl HO2.out HB2.out (by have := Hpd.out; omega) ?_
    intro w3 ho3 hg3 hz3
    refine hK.out _ _ (by have hx := HX2.out.drew.grown hg3 (fun e => by simp at e; exact hgw e.symm); exact ⟨hx.cell 1, hx.cell 2⟩) (fun hHeld => ?_)
    clear hK K
    (try dsimp only); (try simp only [Act.put, List.setIfInBounds_toArray, List.set_cons_zero, List.set_cons_succ])
    refine wpAnyH_done (by kernel_rfl) ?_ _
    refine NoPanic.normal ?_
    go_wp2
    go_ret
    refine ⟨.slice (some ⟨g, 0, none⟩) r.length cap, rfl, ho3, grown_trans HG2.out ⟨hg3.os, hg3.tape, hg3.output, hg3.size, hg3.block⟩ ?_, HS2.out⟩
    rcases HS2.out with h | h
    · exact .inl h
    · exact .inr h
end Go.Proofs.Ytjbhegakgdcldaa
end
section
set_option linter.unusedSimpArgs false
set_option linter.unusedVariables false
namespace Go.Proofs.Ytjbhegakgdcldaa
open Go.RowKit

/-! Bytes that are read; slices.Clone of them. -/
def Rb (w : World) (v : Value) (l : List UInt8) : Prop :=
  ∃ ad cap, v = .slice ad l.length cap ∧ l.length ≤ cap ∧ l.length ≤ 9223372036854775807 ∧ ∀ i (h : i < l.length), ∃ b off, ad = some ⟨b, off, none⟩ ∧ w.cell? ⟨b, off + i, none⟩ = some (.int .u8 (l[i].toNat : Int))
theorem Ow.rb {w : World} {base : Nat} {v : Value} {l : List UInt8} (h : Ow w base v l) (hm : l.length ≤ 9223372036854775807) : Rb w v l := by
  obtain ⟨ad, cap, rfl, hle⟩ := h.shape
  refine ⟨ad, cap, rfl, hle, hm, fun i hi => ?_⟩
  rcases h.2 with ⟨h0, hz⟩ | ⟨g, c, cur, hv, _⟩
  · omega
  · simp at hv
    obtain ⟨rfl, rfl⟩ := hv
    refine ⟨g, 0, rfl, ?_⟩
    rw [Nat.zero_add]
    have := World.ownsRow.cellAt h i (by omega)
    rw [this]
    simp [bc, hi]
theorem Rb.cells {w w' : World} {v : Value} {l : List UInt8} (h : Rb w v l) (hk : ∀ a u, w.cell? a = some u → (∃ n c, v = .slice (some ⟨a.block, n, none⟩) l.length c) → w'.cell? a = some u) : Rb w' v l := by
  obtain ⟨ad, cap, rfl, hle, hm, hc⟩ := h
  refine ⟨ad, cap, rfl, hle, hm, fun i hi => ?_⟩
  obtain ⟨b, off, rfl, hx⟩ := hc i hi
  exact ⟨b, off, rfl, hk _ _ hx ⟨off, cap, rfl⟩⟩
theorem Rb.below {w w' : World} {v : Value} {l : List UInt8} (h : Rb w v l) (hb : Below w.heap.size w w') : Rb w' v l :=
  h.cells fun a u hc _ => (hb.cell (World.block_lt_of_cell? w a hc)).trans hc
theorem Rb.fp {O O' : Nat → Nat} {w w' : World} {v : Value} {l : List UInt8} (h : Rb w v l) (hf : Fp O w O' w') (hO : ∀ b n c, v = .slice (some ⟨b, n, none⟩) l.length c → O b = 0) : Rb w' v l :=
  h.cells fun a u hc ⟨n, c, e⟩ => hf.cell hc (hO _ _ _ e)
theorem Rb.src {w : World} {v : Value} {l : List UInt8} (h : Rb w v l) : Src Try.prog 1 58 v l.length (bc l) w := by
  obtain ⟨ad, cap, rfl, hle, hm, hc⟩ := h
  cases ad with
  | none =>
    have : l = [] := by
      apply List.eq_nil_of_length_eq_zero
      rcases Nat.eq_zero_or_pos l.length with h0 | h0
      · exact h0
      · obtain ⟨b, off, e, _⟩ := hc 0 h0; simp at e
    subst this
    exact Src.ofNil w Try.underlying58 cap
  | some a =>
    refine Src.ofSlice w Try.underlying58 a l.length cap (bc l) (by rw [bc_length]; omega) (fun j u hu => ?_) bc_one
    have hj : j < l.length := by rw [← bc_length]; exact (List.getElem?_eq_some_iff.1 hu).1
    obtain ⟨b, off, e, hx⟩ := hc j hj
    simp at e
    subst e
    rw [Addr.add_mid, hx, ← hu]
    simp [bc, hj]
set_option maxRecDepth 100000 in
set_option maxHeartbeats 2000000 in
theorem clone (w : World) (v : Value) (l : List UInt8) (h : Rb w v l) (hl : l.length ≤ 1099511627776) :
    Calls Try.prog 71 #[v] w fun e w' => ∃ v', e = .returned v' ∧ Ow w' w.heap.size v' l ∧ Below w.heap.size w w' := by
  have HR : Hid (Rb w v l) := h
  obtain ⟨ad, cap, rfl, hle, hm, hc⟩ := h
  cases ad with
  | none =>
    have : l = [] := by
      apply List.eq_nil_of_length_eq_zero
      rcases Nat.eq_zero_or_pos l.length with h0 | h0
      · exact h0
      · obtain ⟨b, off, e, _⟩ := hc 0 h0; simp at e
    subst this
    have heq := fun w => Lib.run_eql_slice_nil (P := Try.prog) w 58 5 none 0 cap 0 0 Try.underlying58
    clear hc HR
    go_enter Try.func71, Try.ntmps71
    go_wp2_with fail
    go_ret
    exact ⟨.slice none 0 0, rfl, Ow.nil _ _, Below.refl _ _⟩
  | some a =>
    obtain ⟨i, hi, hz, hsize, hby⟩ := info_of info8
    have heq := fun w => Lib.run_eql_slice_nil (P := Try.prog) w 58 5 (some a) l.length cap 0 0 Try.underlying58
    have HB : Hid (Below w.heap.size w (w.alloc (.cells #[] 5))) := (Below.refl _ _).alloc (Nat.le_refl _) _
    have HRow : Hid ((w.alloc (.cells #[] 5)).ownsRow w.heap.size 5 1 (.slice (some ⟨w.heap.size, 0, none⟩) 0 0) 0 []) := ⟨rfl, .inr ⟨w.heap.size, 0, #[], rfl, Nat.le_refl _, Bk.new w #[] 5, Nat.le_refl _, Nat.zero_le _, rfl, rfl⟩⟩
    have HSrc : Hid (Src Try.prog 1 58 (.slice (some a) l.length cap) l.length (bc l) (w.alloc (.cells #[] 5))) := (HR.out.below HB.out).src
    have HI : Hid (Try.prog.info? 5 = some i ∧ i.zero = some (.int .u8 0) ∧ i.size = 1 ∧ i.bytes = 1) := ⟨hi, hz, hsize, hby⟩
    clear hi hz hsize hby hc
    go_enter Try.func71, Try.ntmps71
    go_wp2_with (at_builtin; refine wpList_append_src rfl _ _ 58 58 rfl w.heap.size 5 i (.int .u8 0) 1 1 Try.underlying58 HI.out.1 HI.out.2.1 HI.out.2.2.1 HI.out.2.2.2 rfl _ _ 0 [] l.length (bc l) rfl rfl HRow.out HSrc.out (by unfold maxLen; omega) (by omega) (by simp) ?_; intro v2 w2 hown2 hgr2 hsn2)
    go_ret
    rw [Nat.zero_add, List.nil_append] at hown2
    exact ⟨v2, rfl, hown2, HB.out.trans (grown_below hgr2 (by simp) (fun k hk => by have h1 : some w.heap.size = some k := hk; injection h1 with h1; omega))⟩
end Go.Proofs.Ytjbhegakgdcldaa
end
section
set_option linter.unusedSimpArgs false
set_option linter.unusedVariables false
namespace Go.Proofs.Ytjbhegakgdcldaa
open Go.RowKit

/-! file.do: a change done, and kept with the others. -/
theorem infoCh : (Try.prog.info? 128).map (·.size) = some 3 := by kernel_rfl
theorem infoCh' : (Try.prog.info? 128).map (fun i => (i.zero, i.size, i.bytes)) = some (some (.agg #[.bool false, .int .i64 0, .slice none 0 0]), 3, 40) := by kernel_rfl
abbrev chc (c : Ch) (bv : Value) : Array Value := #[.bool c.cut, .int .i64 (c.pos : Int), bv]
theorem range_bk {w : World} {b : Nat} {vs : Array Value} {t : TypeId} (h : Bk w b vs t) : w.rangeAt b 0 vs.toList := fun j x hx => by
  rw [Nat.zero_add, h.cell, ← Array.getElem?_toList]
  exact hx
theorem yl_ch {ops : Array Oper} {S : World → Prop} {op : Oper} {a : Act} (hw : Region.wanted op (yielded ops a.tmps) = true) (x : Operand) (ho : op.op = .load 128 x)
    {b o : Nat} (hx : a.eval x = .pointer (some ⟨b, o, none⟩)) {c : Ch} {bv : Value} (hS : ∀ w, S w → w.rangeAt b o (chc c bv).toList) : YieldsIf Try.prog ops S op (.agg (chc c bv)) a :=
  yieldsIf_load_mid hw 128 x ho b o hx _ _ hS Try.underlying128 rfl infoCh
theorem ownsRow_sl {w : World} {base : Nat} {e : TypeId} {size n : Nat} {v : Value} {xs : List Value} (h : w.ownsRow base e size v n xs) : ∃ ad n cap, v = .slice ad n cap := by
  rcases h.2 with ⟨rfl, _⟩ | ⟨g, cap, cur, rfl, _⟩
  · exact ⟨_, _, _, rfl⟩
  · exact ⟨_, _, _, rfl⟩
/-- What a change is handed on as. -/
structure ChOk (w : World) (O : Nat → Nat) (c : Ch) (bv : Value) : Prop where
  ow : Ow w 0 bv c.bs
  tag : ∀ b, bv.ownBlock = some b → O b = 25
  some : c.cut = false → 0 < c.bs.length
  pos : c.pos + c.bs.length ≤ 1099511627776
  sl : ∃ ad n cap, bv = .slice ad n cap
/-- change.over, whatever the change. -/
theorem over (w : World) (c : Ch) (bv rv : Value) (r : List UInt8) (hr : Ow w 0 rv r) (hb : Ow w 0 bv c.bs) (hne : rv.ownBlock = none ∨ rv.ownBlock ≠ bv.ownBlock) (hn : c.cut = false → 0 < c.bs.length) (hl : r.length ≤ 1099511627776) (hp : c.pos + c.bs.length ≤ 1099511627776) :
    Calls Try.prog 83 #[.agg (chc c bv), rv] w fun e w' => ∃ rv', e = .returned rv' ∧ Ow w' 0 rv' (ovr c r) ∧ w.grownBy w' rv.ownBlock ∧ Sn w rv rv' := by
  obtain ⟨cut, pos, bs⟩ := c
  cases cut with
  | true => rw [ovr_cut (by rfl)]; exact over_cut w pos bv rv r hr hl (by simp at hp; omega)
  | false => rw [ovr_piece (by rfl)]; exact over_piece w pos bv rv bs r hr hb hne (hn rfl) hl hp
theorem one_ch {w : World} {g : Nat} {c : Ch} {bv : Value} (hb : Bk w g (chc c bv) 128) (h1 : bv.oneCell' = true) : Src Try.prog 3 99 (.slice (some ⟨g, 0, none⟩) 1 1) 1 (ccells (c, bv)) w := by
  refine Src.ofSlice w Try.underlying99 ⟨g, 0, none⟩ 1 1 _ rfl (fun j u hj => ?_) (fun u hu => ?_)
  · rw [Addr.add_lit, Nat.zero_add, hb.cell j]
    rw [← hj, ← Array.getElem?_toList]
    rfl
  · simp [ccells] at hu
    rcases hu with rfl | rfl | rfl <;> first | rfl | assumption
theorem step_append_own9 {P : Program} {ops : Array Oper} {o : Oper} {a : Act} {w : World} {K : Act → World → Prop} {Q : Exit → Act → World → Prop} {E : Prop} (hgd : o.guard = none) (s x : Operand) (t tx : TypeId)
    (ho : o.op = .call { callee := .builtin .append, args := #[s, x], argTypes := #[t, tx] })
    (base : Nat) (e : TypeId) (i : TypeInfo) (z : Value) (size bytes : Nat) (ht : P.underlying t = some (.slice e)) (hi : P.info? e = some i) (hz : i.zero = some z)
    (hsize : i.size = size) (hby : i.bytes = bytes) (hzs : z.cells.size = size)
    (v xv : Value) (n : Nat) (xs : List Value) (m : Nat) (news : List Value) (hs : a.eval s = v) (hx : a.eval x = xv) (hown : w.ownsRow base e size v n xs) (hsrc : Src P size tx xv m news w)
    (h63 : n + m ≤ maxLen) (hbytes : (n + m) * bytes ≤ 140737488355328) (hbase : base ≤ w.heap.size)
    (h : ∀ v' w', w'.ownsRow base e size v' (n + m) (xs ++ news) → w.grownBy w' v.ownBlock → Sn w v v' → K (a.put o.dst v') w') :
    if Region.wanted o (yielded ops a.tmps) = true then Oper.wp P o a w K Q else E := by
  rw [if_pos (by simp [Region.wanted, hgd])]
  obtain ⟨v', w', hr, h2, h3, h4⟩ := run_append_own_src (P := P) w base t tx o.type e i z size bytes ht hi hz hsize hby hzs v n xs hown xv m news hsrc h63 hbytes hbase
  unfold Oper.wp execOp
  simp only [ho, resolve, invoke, builtin, Sem.run_bind, Sem.run_pure, Result.andThen_ok, List.map_toArray, List.map_cons, List.map_nil, hs, hx, hr]
  exact h v' w' h2 h3 h4
theorem do_end {w W3 w5 : World} {O : Nat → Nat} {d i : Nat} {D : Ds} {nv sv cv : Nat → Value} {c : Ch} {bv v2 v5 : Value} {ps : List (Ch × Value)} (h : DK w O d D nv sv cv) (hi : i < 8) (hps : ps.map Prod.fst = D.chs i ∧ ∀ p ∈ ps, Ow w 0 p.2 p.1.bs ∧ ∀ b, p.2.ownBlock = some b → O b = 25) (hc : ChOk w O c bv)
    (hz : w.heap.size < W3.heap.size) (hK : W3.os = w.os ∧ W3.tape = w.tape ∧ W3.output = w.output ∧ ∀ k, k < w.heap.size → k ≠ d → some k ≠ (nv i).ownBlock → W3.heap[k]? = w.heap[k]?) (hN : Ow W3 0 v2 (ovr c (D.now i)) ∧ Sn w (nv i) v2)
    (hD3 : Bk W3 d (dkc (upd nv i v2) sv cv D.off D.tO D.tF) 107) (hRow : (W3.drew.alloc (.cells (chc c bv) 128)).ownsRow 0 128 3 (cv i) ps.length (ps.flatMap ccells))
    (h1 : w5.ownsRow 0 128 3 v5 (ps.length + 1) (ps.flatMap ccells ++ ccells (c, bv))) (h2 : (W3.drew.alloc (.cells (chc c bv) 128)).grownBy w5 (cv i).ownBlock) (h3 : Sn (W3.drew.alloc (.cells (chc c bv) 128)) (cv i) v5)
    (h4 : Bk w5 d (dkc (upd nv i v2) sv cv D.off D.tO D.tF) 107) :
    ∃ O' nv' cv', DK (w5.setCell ⟨d, i * 3 + 2, none⟩ v5) O' d { D with now := upd D.now i (ovr c (D.now i)), chs := upd D.chs i (D.chs i ++ [c]) } nv' sv cv' ∧ Fp O w O' (w5.setCell ⟨d, i * 3 + 2, none⟩ v5) := by
  have hz5 : W3.heap.size + 1 ≤ w5.heap.size := by have := h2.size; simp at this; exact this
  have al : ∀ k, k < W3.heap.size → (W3.drew.alloc (.cells (chc c bv) 128)).heap[k]? = W3.heap[k]? := fun k hk => Below.heap_alloc W3.drew _ k hk
  have ty5 : ∀ b, v5.ownBlock = some b → b ≠ d := fun b hb e => by
    subst e
    rcases h1.2 with ⟨e, _⟩ | ⟨g, cap, cur, e, _, g4, _⟩
    · rw [e] at hb; simp [Value.ownBlock] at hb
    · rw [e] at hb; simp [Value.ownBlock] at hb; subst hb
      rw [show w5.heap[g]? = _ from h4] at g4; simp at g4
  have ty2 : ∀ b, v2.ownBlock = some b → b ≠ d ∧ some b ≠ (cv i).ownBlock := fun b hb => by
    obtain ⟨cur, e⟩ := hN.1.bytes b hb
    refine ⟨fun e2 => ?_, fun e2 => ?_⟩
    · subst e2; rw [show W3.heap[b]? = _ from hD3] at e; simp at e
    · rcases hRow.2 with ⟨e3, _⟩ | ⟨g, cap, cur, e3, _, g4, _⟩
      · rw [e3] at e2; simp [Value.ownBlock] at e2
      · rw [e3] at e2; simp [Value.ownBlock] at e2; subst e2
        rw [al b (hN.1.lt b hb), e] at g4; simp at g4
  obtain ⟨O', r1, r2⟩ := h.doStep hi (w' := w5.setCell ⟨d, i * 3 + 2, none⟩ v5) (nv' := v2) (cv' := v5) (r := ovr c (D.now i)) (l := D.chs i ++ [c]) (h2.os.trans hK.1) (h2.tape.trans hK.2.1) (h2.output.trans hK.2.2.1) (by simp; omega) (h4.set _ _ (dkc_setC _ _ _ _ _ _ hi _))
    (hN.1.same fun b hb => by rw [Below.heap_setCell w5 _ _ b (ty2 b hb).1, h2.block b (by have := hN.1.lt b hb; simp; omega) (ty2 b hb).2, al b (hN.1.lt b hb)]) hN.2
    ⟨ps ++ [(c, bv)], by simp [hps.1], by
      have e : (ps ++ [(c, bv)]).length = ps.length + 1 := by simp
      have e2 : (ps ++ [(c, bv)]).flatMap ccells = ps.flatMap ccells ++ ccells (c, bv) := by simp
      rw [e, e2]
      exact ownsRow_same h1 fun b hb => Below.heap_setCell w5 _ _ b (ty5 b hb), fun p hp => by
      rcases List.mem_append.1 hp with hp | hp
      · exact hps.2 p hp
      · simp at hp; subst hp; exact ⟨hc.ow, hc.tag⟩⟩
    (by
      rcases h3 with e | e
      · exact .inl e
      · exact .inr fun k hk => by have := e k hk; simp at this; omega)
    (fun k hk n1 n2 n3 => by rw [Below.heap_setCell w5 _ _ k n1, h2.block k (by simp; omega) n3, al k (by omega), hK.2.2.2 k hk n1 n2])
  exact ⟨O', _, _, r1, r2⟩
set_option maxRecDepth 100000 in
set_option maxHeartbeats 4000000 in
theorem do9 (w : World) (O : Nat → Nat) (d i : Nat) (D : Ds) (nv sv cv : Nat → Value) (c : Ch) (bv : Value) (h : DK w O d D nv sv cv) (hi : i < 8) (hc : ChOk w O c bv) (hn : (D.now i).length ≤ 1099511627776) (hm : (D.chs i).length ≤ 1099511627776) :
    Calls Try.prog 97 #[.pointer (some ⟨d, i * 3, none⟩), .agg (chc c bv)] w fun e w' => (∃ v, e = .returned v) ∧ ∃ O' nv' cv', DK w' O' d { D with now := upd D.now i (ovr c (D.now i)), chs := upd D.chs i (D.chs i ++ [c]) } nv' sv cv' ∧ Fp O w O' w' := by
  have HD : Hid (DK w O d D nv sv cv) := h
  have HC : Hid (ChOk w O c bv) := hc
  have Hn : Hid ((D.now i).length ≤ 1099511627776) := hn
  have Hm : Hid ((D.chs i).length ≤ 1099511627776) := hm
  obtain ⟨ad0, n0, cap0, rfl⟩ := hc.sl
  clear h hc hn hm
  obtain ⟨j0, hj, hz0, hz1, hz2⟩ := info_of infoCh'
  have HJ : Hid (Try.prog.info? 128 = some j0 ∧ j0.zero = some (.agg #[.bool false, .int .i64 0, .slice none 0 0]) ∧ j0.size = 3 ∧ j0.bytes = 40) := ⟨hj, hz0, hz1, hz2⟩
  clear hj hz0 hz1 hz2
  obtain ⟨bv, hbv⟩ : ∃ bv, bv = Value.slice ad0 n0 cap0 := ⟨_, rfl⟩
  have hbv1 : bv.oneCell' = true := by rw [hbv]; rfl
  rw [← hbv] at HC ⊢
  clear hbv
  go_enter Try.func97, Try.ntmps97
  go_upto_region 1 with fail
  obtain ⟨W, hW⟩ : ∃ W, W = w.alloc (.cells (chc c bv) 128) := ⟨_, rfl⟩
  rw [← hW]
  have HBw : Hid (Below w.heap.size w W) := by show Below _ _ _; rw [hW]; exact (Below.refl _ _).alloc (Nat.le_refl _) _
  have HX : Hid (Bk W w.heap.size (chc c bv) 128) := by show Bk _ _ _ _; rw [hW]; exact Bk.new _ _ _
  have hd1 : Bk W d (dkc nv sv cv D.off D.tO D.tF) 107 := HD.out.blk.below HBw.out HD.out.blk.lt
  have HD1 : Hid (Bk W d (dkc nv sv cv D.off D.tO D.tF) 107) := hd1
  have c0 : W.drew.cell? ⟨d, i * 3, none⟩ = some (nv i) := (hd1.cell _).trans (dkc_now _ _ _ _ _ _ hi)
  have hnow : Ow W 0 (nv i) (D.now i) := (HD.out.now i hi).below HBw.out (HD.out.now i hi).lt
  have hbs : Ow W 0 bv c.bs := HC.out.ow.below HBw.out HC.out.ow.lt
  have hne : (nv i).ownBlock = none ∨ (nv i).ownBlock ≠ bv.ownBlock := by
    cases e : (nv i).ownBlock with
    | none => exact .inl rfl
    | some b => right; intro e2; have h1 := HD.out.tn i hi b e; have h2 := HC.out.tag b e2.symm; omega
  have HO : Hid (∀ W', W'.heap = W.heap → Calls Try.prog 83 #[.agg (chc c bv), nv i] W' fun e w' => ∃ rv', e = .returned rv' ∧ Ow w' 0 rv' (ovr c (D.now i)) ∧ W'.grownBy w' (nv i).ownBlock ∧ Sn W' (nv i) rv') := fun W' e => over W' c bv (nv i) (D.now i) (hnow.same fun b _ => by rw [e]) (hbs.same fun b _ => by rw [e]) hne HC.out.some Hn.out HC.out.pos
  have hNd : ∀ k, (nv i).ownBlock = some k → k ≠ d := fun k hk e => by have h1 := HD.out.tn i hi k hk; rw [e, HD.out.td] at h1; omega
  have HNd : Hid (∀ k, (nv i).ownBlock = some k → k ≠ d ∧ k < w.heap.size) := fun k hk => ⟨hNd k hk, (HD.out.now i hi).lt k hk⟩
  have hnv1 : (nv i).oneCell' = true := by obtain ⟨a1, c1, e1, _⟩ := (HD.out.now i hi).shape; rw [e1]; rfl
  have hwd : d < w.heap.size := HD.out.blk.lt
  have hwW := HBw.out.size
  have hXlt := HX.out.lt
  clear hW hnow hbs hne hd1 hNd
  refine wp_region_noPanic ?_
  refine wp_region_held_drew (S := fun w' => Bk w' w.heap.size (chc c bv) 128) (by kernel_rfl) ?_ (fun hHeld => ?_)
  · ((try dsimp only); exact HX.out.drew)
  (try dsimp only at hHeld)
  refine wpAnyH_take (i := 0) (oi := ⟨some 4, _, _, _, _, _⟩) (v := ?_) rfl (by kernel_rfl) (by kernel_rfl) (by kernel_rfl) (fun _ _ _ h => h) (Or.inl ⟨by rfl, ?_⟩) (by assumption) ?_
  rotate_left
  · (intro w hSw; (try dsimp only at hSw); go_simp; try (with_reducible rfl))
  (try dsimp only); (try simp only [Act.put, List.setIfInBounds_toArray, List.set_cons_zero, List.set_cons_succ])
  refine wpAnyH_take (i := 1) (oi := ⟨some 5, _, _, _, _, _⟩) rfl (by kernel_rfl) (by kernel_rfl) (by kernel_rfl) (fun _ _ _ h => h) (yl_ch (by rfl) _ rfl rfl (fun w' h => range_bk h)) (by assumption) ?_
  (try dsimp only); (try simp only [Act.put, List.setIfInBounds_toArray, List.set_cons_zero, List.set_cons_succ])
  refine wpAnyH_take (i := 2) (oi := ⟨some 6, _, _, _, _, _⟩) (v := ?_) rfl (by kernel_rfl) (by kernel_rfl) (by kernel_rfl) (fun _ _ _ h => h) (Or.inl ⟨by rfl, ?_⟩) (by assumption) ?_
  rotate_left
  · (intro w hSw; (try dsimp only at hSw); go_simp; try (with_reducible rfl))
  (try dsimp only); (try simp only [Act.put, List.setIfInBounds_toArray, List.set_cons_zero, List.set_cons_succ])
  refine wpAnyH_take (i := 3) (oi := ⟨some 7, _, _, _, _, _⟩) (v := ?_) rfl (by kernel_rfl) (by kernel_rfl) (by kernel_rfl) (fun _ _ _ h => h) (Or.inl ⟨by rfl, ?_⟩) (by assumption) ?_
  rotate_left
  · (intro w hSw; (try dsimp only at hSw); go_simp; try (with_reducible rfl))
  (try dsimp only); (try simp only [Act.put, List.setIfInBounds_toArray, List.set_cons_zero, List.set_cons_succ])
  refine wpAnyH_take (i := 4) (oi := ⟨some 8, _, _, _, _, _⟩) (v := ?_) rfl (by kernel_rfl) (by kernel_rfl) (by kernel_rfl) (fun _ _ _ h => h) (Or.inl ⟨by rfl, ?_⟩) (by assumption) ?_
  rotate_left
  · (intro w hSw; (try dsimp only at hSw); go_simp; try (with_reducible rfl))
  (try dsimp only); (try simp only [Act.put, List.setIfInBounds_toArray, List.set_cons_zero, List.set_cons_succ])
  refine wpAnyH_ready (rs := [5]) (by kernel_rfl) (by simp) ?_
  refine AllReadyH.cons (o := ⟨some 9, _, _, _, _, _⟩) rfl (fun K hK => ?_) AllReadyH.nil
  go_simp
  refine hK.out _ _ hHeld (fun hHeld => ?_)
  clear hK K
  (try dsimp only); (try simp only [Act.put, List.setIfInBounds_toArray, List.set_cons_zero, List.set_cons_succ])
  refine wpAnyH_ready (rs := [6]) (by kernel_rfl) (by simp) ?_
  refine AllReadyH.cons (o := ⟨some 10, _, _, _, _, _⟩) rfl (fun K hK => ?_) AllReadyH.nil
  go_simp
  refine (HO.out W.drew rfl).mono ?_
  rintro e w2 ⟨rv2, rfl, ho2, hg2, hs2⟩
  obtain ⟨ad2, n2, cap2, rfl⟩ := ownsRow_sl ho2
  have hX2 : Bk w2 w.heap.size (chc c bv) 128 := hHeld.grown hg2 (fun e => by have := (HNd.out _ e.symm).2; omega)
  have hd2 : Bk w2 d (dkc nv sv cv D.off D.tO D.tF) 107 := HD1.out.drew.grown hg2 (fun e => (HNd.out _ e.symm).1 rfl)
  have HO2 : Hid (Ow w2 0 (.slice ad2 n2 cap2) (ovr c (D.now i)) ∧ W.grownBy w2 (nv i).ownBlock ∧ Sn W (nv i) (.slice ad2 n2 cap2)) := ⟨ho2, ⟨hg2.os, hg2.tape, hg2.output, hg2.size, hg2.block⟩, hs2⟩
  have HX2 : Hid (Bk w2 w.heap.size (chc c bv) 128) := hX2
  have HD2 : Hid (Bk w2 d (dkc nv sv cv D.off D.tO D.tF) 107) := hd2
  have p0 : w2.cell? ⟨d, i * 3, none⟩ = some (nv i) := (hd2.cell _).trans (dkc_now _ _ _ _ _ _ hi)
  have pf0 := hd2.frozen (i * 3)
  have pl0 := hd2.lt
  refine hK.out _ _ hX2 (fun hHeld => ?_)
  clear hK K ho2 hg2 hs2 hX2 hd2 c0
  (try dsimp only); (try simp only [Act.put, List.setIfInBounds_toArray, List.set_cons_zero, List.set_cons_succ])
  refine wpAnyH_take (i := 7) (oi := ⟨some 11, _, _, _, _, _⟩) (v := ?_) rfl (by kernel_rfl) (by kernel_rfl) (by kernel_rfl) (fun _ _ _ h => h) (Or.inl ⟨by rfl, ?_⟩) (by assumption) ?_
  rotate_left
  · (intro w hSw; (try dsimp only at hSw); go_simp; try (with_reducible rfl))
  (try dsimp only); (try simp only [Act.put, List.setIfInBounds_toArray, List.set_cons_zero, List.set_cons_succ])
  refine wpAnyH_take (i := 8) (oi := ⟨some 12, _, _, _, _, _⟩) (v := ?_) rfl (by kernel_rfl) (by kernel_rfl) (by kernel_rfl) (fun _ _ _ h => h) (Or.inl ⟨by rfl, ?_⟩) (by assumption) ?_
  rotate_left
  · (intro w hSw; (try dsimp only at hSw); go_simp; try (with_reducible rfl))
  (try dsimp only); (try simp only [Act.put, List.setIfInBounds_toArray, List.set_cons_zero, List.set_cons_succ])
  refine wpAnyH_ready (rs := [9]) (by kernel_rfl) (by simp) ?_
  refine AllReadyH.cons (o := ⟨none, _, _, _, _, _⟩) rfl (fun K hK => ?_) AllReadyH.nil
  go_simp
  refine hK.out _ _ (hHeld.other (a := ⟨d, i * 3, none⟩) (by show w.heap.size ≠ d; omega) _) (fun hHeld => ?_)
  clear hK K
  (try dsimp only); (try simp only [Act.put, List.setIfInBounds_toArray, List.set_cons_zero, List.set_cons_succ])
  refine wpAnyH_done (by kernel_rfl) ?_ _
  refine NoPanic.normal ?_
  clear p0 pf0 pl0 HO hHeld
  go_upto_region 2 with fail
  obtain ⟨W3, hW3⟩ : ∃ W3, W3 = w2.setCell ⟨d, i * 3, none⟩ (.slice ad2 n2 cap2) := ⟨_, rfl⟩
  rw [← hW3]
  have HX3 : Hid (Bk W3 w.heap.size (chc c bv) 128) := by show Bk _ _ _ _; rw [hW3]; exact HX2.out.other (a := ⟨d, i * 3, none⟩) (by show w.heap.size ≠ d; omega) _
  have hd3 : Bk W3 d (dkc (upd nv i (.slice ad2 n2 cap2)) sv cv D.off D.tO D.tF) 107 := by rw [hW3]; exact HD2.out.set (i * 3) (.slice ad2 n2 cap2) (dkc_setN _ _ _ _ _ _ hi _)
  have HD3 : Hid (Bk W3 d (dkc (upd nv i (.slice ad2 n2 cap2)) sv cv D.off D.tO D.tF) 107) := hd3
  have hz3 : w2.heap.size ≤ W3.heap.size := by rw [hW3]; simp
  have hz4 : W.heap.size ≤ w2.heap.size := HO2.out.2.1.size
  have HK3 : Hid (W3.os = w.os ∧ W3.tape = w.tape ∧ W3.output = w.output ∧ ∀ k, k < w.heap.size → k ≠ d → some k ≠ (nv i).ownBlock → W3.heap[k]? = w.heap[k]?) := by
    show _ ∧ _ ∧ _ ∧ _
    rw [hW3]
    refine ⟨HO2.out.2.1.os.trans HBw.out.os, HO2.out.2.1.tape.trans HBw.out.tape, HO2.out.2.1.output.trans HBw.out.output, fun k hk h1 h2 => ?_⟩
    rw [Below.heap_setCell w2 _ _ k h1, HO2.out.2.1.block k (by omega) h2, HBw.out.block k hk]
  have hod : (Value.slice ad2 n2 cap2).ownBlock ≠ some d := fun e => by
    rcases HO2.out.2.2 with h1 | h1
    · exact (HNd.out d (by rw [← h1, e])).1 rfl
    · have := h1 d e; omega
  have HN3 : Hid (Ow W3 0 (.slice ad2 n2 cap2) (ovr c (D.now i)) ∧ Sn w (nv i) (.slice ad2 n2 cap2)) := by
    refine ⟨HO2.out.1.same fun b e => ?_, ?_⟩
    · rw [hW3]; exact Below.heap_setCell w2 _ _ b (fun e2 => hod (by rw [e, e2]))
    · rcases HO2.out.2.2 with h1 | h1
      · exact .inl h1
      · exact .inr fun k hk => Nat.le_trans HBw.out.size (h1 k hk)
  obtain ⟨ps, hps1, hps2, hps3⟩ := HD.out.chs i hi
  have HPs : Hid (ps.map Prod.fst = D.chs i ∧ ∀ p ∈ ps, Ow w 0 p.2 p.1.bs ∧ ∀ b, p.2.ownBlock = some b → O b = 25) := ⟨hps1, hps3⟩
  have HL3 : Hid (ps.length ≤ 1099511627776) := by have := Hm.out; rw [← hps1, List.length_map] at this; exact this
  have hcv : ∀ k, (cv i).ownBlock = some k → k ≠ d ∧ k < w.heap.size ∧ some k ≠ (nv i).ownBlock := fun k hk => by
    have h1 := HD.out.tc i hi k hk
    refine ⟨fun e => ?_, (hps2.lt k hk).2, fun e => ?_⟩
    · rw [e, HD.out.td] at h1; omega
    · have h2 := HD.out.tn i hi k e.symm; omega
  have HCv : Hid (∀ k, (cv i).ownBlock = some k → k ≠ d ∧ k < w.heap.size) := fun k hk => ⟨(hcv k hk).1, (hcv k hk).2.1⟩
  have hrow3 : W3.ownsRow 0 128 3 (cv i) ps.length (ps.flatMap ccells) := ownsRow_same hps2 fun b e => HK3.out.2.2.2 b (hcv b e).2.1 (hcv b e).1 (hcv b e).2.2
  have HRow : Hid ((W3.drew.alloc (.cells (chc c bv) 128)).ownsRow 0 128 3 (cv i) ps.length (ps.flatMap ccells)) := World.ownsRow.alloc (w := W3.drew) hrow3 _
  have HSrc : Hid (Src Try.prog 3 99 (.slice (some ⟨W3.heap.size, 0, none⟩) 1 1) 1 (ccells (c, bv)) (W3.drew.alloc (.cells (chc c bv) 128))) := one_ch (Bk.new W3.drew _ _) hbv1
  have p3 : W3.drew.cell? ⟨d, i * 3 + 2, none⟩ = some (cv i) := (hd3.cell _).trans (dkc_chs _ _ _ _ _ _ hi)
  have p3' : (W3.alloc (.cells (chc c bv) 128)).cell? ⟨d, i * 3 + 2, none⟩ = some (cv i) := ((hd3.alloc _).cell _).trans (dkc_chs _ _ _ _ _ _ hi)
  have hcv1 : (cv i).oneCell' = true := by
    rcases hps2.2 with ⟨e, _⟩ | ⟨g, cap, cur, e, _⟩
    · rw [e]; rfl
    · rw [e]; rfl
  have hz5 : w.heap.size < W3.heap.size := by omega
  clear hW3 hd3 hod hps1 hps2 hps3 hcv hrow3 HX HD1 HNd HO2 HX2 HD2 HBw
  have hPs2 := HPs.out
  refine wp_region_noPanic ?_
  refine wp_region_held_drew (S := fun w' => Bk w' w.heap.size (chc c bv) 128) (by kernel_rfl) ?_ (fun hHeld => ?_)
  · ((try dsimp only); exact HX3.out.drew)
  (try dsimp only at hHeld)
  refine wpAnyH_take (i := 0) (oi := ⟨some 13, _, _, _, _, _⟩) (v := ?_) rfl (by kernel_rfl) (by kernel_rfl) (by kernel_rfl) (fun _ _ _ h => h) (Or.inl ⟨by rfl, ?_⟩) (by assumption) ?_
  rotate_left
  · (intro w hSw; (try dsimp only at hSw); go_simp; try (with_reducible rfl))
  (try dsimp only); (try simp only [Act.put, List.setIfInBounds_toArray, List.set_cons_zero, List.set_cons_succ])
  refine wpAnyH_take (i := 1) (oi := ⟨some 14, _, _, _, _, _⟩) (v := ?_) rfl (by kernel_rfl) (by kernel_rfl) (by kernel_rfl) (fun _ _ _ h => h) (Or.inl ⟨by rfl, ?_⟩) (by assumption) ?_
  rotate_left
  · (intro w hSw; (try dsimp only at hSw); go_simp; try (with_reducible rfl))
  (try dsimp only); (try simp only [Act.put, List.setIfInBounds_toArray, List.set_cons_zero, List.set_cons_succ])
  refine wpAnyH_take (i := 2) (oi := ⟨some 15, _, _, _, _, _⟩) (v := ?_) rfl (by kernel_rfl) (by kernel_rfl) (by kernel_rfl) (fun _ _ _ h => h) (Or.inl ⟨by rfl, ?_⟩) (by assumption) ?_
  rotate_left
  · (intro w hSw; (try dsimp only at hSw); go_simp; try (with_reducible rfl))
  (try dsimp only); (try simp only [Act.put, List.setIfInBounds_toArray, List.set_cons_zero, List.set_cons_succ])
  refine wpAnyH_take (i := 3) (oi := ⟨some 16, _, _, _, _, _⟩) (v := ?_) rfl (by kernel_rfl) (by kernel_rfl) (by kernel_rfl) (fun _ _ _ h => h) (Or.inl ⟨by rfl, ?_⟩) (by assumption) ?_
  rotate_left
  · (intro w hSw; (try dsimp only at hSw); go_simp; try (with_reducible rfl))
  (try dsimp only); (try simp only [Act.put, List.setIfInBounds_toArray, List.set_cons_zero, List.set_cons_succ])
  refine wpAnyH_take (i := 5) (oi := ⟨some 18, _, _, _, _, _⟩) rfl (by kernel_rfl) (by kernel_rfl) (by kernel_rfl) (fun _ _ _ h => h) (yl_ch (by rfl) _ rfl rfl (fun w' h => range_bk h)) (by assumption) ?_
  (try dsimp only); (try simp only [Act.put, List.setIfInBounds_toArray, List.set_cons_zero, List.set_cons_succ])
  refine wpAnyH_ready (rs := [4, 6]) (by kernel_rfl) (by simp) ?_
  refine AllReadyH.cons (o := ⟨some 17, _, _, _, _, _⟩) rfl (fun K hK => ?_) (AllReadyH.cons (o := ⟨some 19, _, _, _, _, _⟩) rfl (fun K hK => ?_) AllReadyH.nil)
  · go_simp
    refine hK.out _ _ hHeld (fun hHeld => ?_)
    clear hK K
    (try dsimp only); (try simp only [Act.put, List.setIfInBounds_toArray, List.set_cons_zero, List.set_cons_succ])
    refine wpAnyH_ready (rs := [6]) (by kernel_rfl) (by simp) ?_
    refine AllReadyH.cons (o := ⟨some 19, _, _, _, _, _⟩) rfl (fun K hK => ?_) AllReadyH.nil
    go_simp
    refine hK.out _ _ (hHeld.alloc _) (fun hHeld => ?_)
    clear hK K
    (try dsimp only); (try simp only [Act.put, List.setIfInBounds_toArray, List.set_cons_zero, List.set_cons_succ])
    refine wpAnyH_ready (rs := [7]) (by kernel_rfl) (by simp) ?_
    refine AllReadyH.cons (o := ⟨some 20, _, _, _, _, _⟩) rfl (fun K hK => ?_) AllReadyH.nil
    refine step_append_own9 rfl _ _ 99 99 rfl 0 128 j0 (.agg #[.bool false, .int .i64 0, .slice none 0 0]) 3 40 Try.underlying99 HJ.out.1 HJ.out.2.1 HJ.out.2.2.1 HJ.out.2.2.2 rfl (cv i) (.slice (some ⟨W3.heap.size, 0, none⟩) 1 1) ps.length (ps.flatMap ccells) 1 (ccells (c, bv)) rfl rfl HRow.out HSrc.out (by have := HL3.out; unfold maxLen; omega) (by have := HL3.out; omega) (Nat.zero_le _) ?_
    intro v5 w5 ho5 hg5 hs5
    obtain ⟨ad5, n5, cap5, rfl⟩ := ownsRow_sl ho5
    have hX5 : Bk w5 w.heap.size (chc c bv) 128 := hHeld.grown hg5 (fun e => by have := (HCv.out _ e.symm).2; omega)
    have hd5 : Bk w5 d (dkc (upd nv i (.slice ad2 n2 cap2)) sv cv D.off D.tO D.tF) 107 := (HD3.out.drew.alloc _).grown hg5 (fun e => (HCv.out _ e.symm).1 rfl)
    have p5 : w5.cell? ⟨d, i * 3 + 2, none⟩ = some (cv i) := (hd5.cell _).trans (dkc_chs _ _ _ _ _ _ hi)
    have pf5 := hd5.frozen (i * 3 + 2)
    have pl5 := hd5.lt
    have H5 : Hid (w5.ownsRow 0 128 3 (.slice ad5 n5 cap5) (ps.length + 1) (ps.flatMap ccells ++ ccells (c, bv)) ∧ (W3.drew.alloc (.cells (chc c bv) 128)).grownBy w5 (cv i).ownBlock ∧ Sn (W3.drew.alloc (.cells (chc c bv) 128)) (cv i) (.slice ad5 n5 cap5) ∧ Bk w5 d (dkc (upd nv i (.slice ad2 n2 cap2)) sv cv D.off D.tO D.tF) 107) := ⟨ho5, hg5, hs5, hd5⟩
    refine hK.out _ _ hX5 (fun hHeld => ?_)
    clear hK K ho5 hg5 hs5 hX5 hd5 p3
    (try dsimp only); (try simp only [Act.put, List.setIfInBounds_toArray, List.set_cons_zero, List.set_cons_succ])
    refine wpAnyH_take (i := 8) (oi := ⟨some 21, _, _, _, _, _⟩) (v := ?_) rfl (by kernel_rfl) (by kernel_rfl) (by kernel_rfl) (fun _ _ _ h => h) (Or.inl ⟨by rfl, ?_⟩) (by assumption) ?_
    rotate_left
    · (intro w hSw; (try dsimp only at hSw); go_simp; try (with_reducible rfl))
    (try dsimp only); (try simp only [Act.put, List.setIfInBounds_toArray, List.set_cons_zero, List.set_cons_succ])
    refine wpAnyH_take (i := 9) (oi := ⟨some 22, _, _, _, _, _⟩) (v := ?_) rfl (by kernel_rfl) (by kernel_rfl) (by kernel_rfl) (fun _ _ _ h => h) (Or.inl ⟨by rfl, ?_⟩) (by assumption) ?_
    rotate_left
    · (intro w hSw; (try dsimp only at hSw); go_simp; try (with_reducible rfl))
    (try dsimp only); (try simp only [Act.put, List.setIfInBounds_toArray, List.set_cons_zero, List.set_cons_succ])
    refine wpAnyH_ready (rs := [10]) (by kernel_rfl) (by simp) ?_
    refine AllReadyH.cons (o := ⟨none, _, _, _, _, _⟩) rfl (fun K hK => ?_) AllReadyH.nil
    go_simp
    refine hK.out _ _ (hHeld.other (a := ⟨d, i * 3 + 2, none⟩) (by show w.heap.size ≠ d; omega) _) (fun hHeld => ?_)
    clear hK K
    (try dsimp only); (try simp only [Act.put, List.setIfInBounds_toArray, List.set_cons_zero, List.set_cons_succ])
    refine wpAnyH_done (by kernel_rfl) ?_ _
    refine NoPanic.normal ?_
    go_wp2
    go_end0
    refine ⟨⟨_, rfl⟩, ?_⟩
    exact do_end HD.out hi hPs2 HC.out hz5 HK3.out HN3.out HD3.out HRow.out H5.out.1 H5.out.2.1 H5.out.2.2.1 H5.out.2.2.2
  · go_simp
    refine hK.out _ _ (hHeld.alloc _) (fun hHeld => ?_)
    clear hK K
    (try dsimp only); (try simp only [Act.put, List.setIfInBounds_toArray, List.set_cons_zero, List.set_cons_succ])
    refine wpAnyH_ready (rs := [4]) (by kernel_rfl) (by simp) ?_
    refine AllReadyH.cons (o := ⟨some 17, _, _, _, _, _⟩) rfl (fun K hK => ?_) AllReadyH.nil
    go_simp
    refine hK.out _ _ hHeld (fun hHeld => ?_)
    clear hK K
    (try dsimp only); (try simp only [Act.put, List.setIfInBounds_toArray, List.set_cons_zero, List.set_cons_succ])
    refine wpAnyH_ready (rs := [7]) (by kernel_rfl) (by simp) ?_
    refine AllReadyH.cons (o := ⟨some 20, _, _, _, _, _⟩) rfl (fun K hK => ?_) AllReadyH.nil
    refine step_append_own9 rfl _ _ 99 99 rfl 0 128 j0 (.agg #[.bool false, .int .i64 0, .slice none 0 0]) 3 40 Try.underlying99 HJ.out.1 HJ.out.2.1 HJ.out.2.2.1 HJ.out.2.2.2 rfl (cv i) (.slice (some ⟨W3.heap.size, 0, none⟩) 1 1) ps.length (ps.flatMap ccells) 1 (ccells (c, bv)) rfl rfl HRow.out HSrc.out (by have := HL3.out; unfold maxLen; omega) (by have := HL3.out; omega) (Nat.zero_le _) ?_
    intro v5 w5 ho5 hg5 hs5
    obtain ⟨ad5, n5, cap5, rfl⟩ := ownsRow_sl ho5
    have hX5 : Bk w5 w.heap.size (chc c bv) 128 := hHeld.grown hg5 (fun e => by have := (HCv.out _ e.symm).2; omega)
    have hd5 : Bk w5 d (dkc (upd nv i (.slice ad2 n2 cap2)) sv cv D.off D.tO D.tF) 107 := (HD3.out.drew.alloc _).grown hg5 (fun e => (HCv.out _ e.symm).1 rfl)
    have p5 : w5.cell? ⟨d, i * 3 + 2, none⟩ = some (cv i) := (hd5.cell _).trans (dkc_chs _ _ _ _ _ _ hi)
    have pf5 := hd5.frozen (i * 3 + 2)
    have pl5 := hd5.lt
    have H5 : Hid (w5.ownsRow 0 128 3 (.slice ad5 n5 cap5) (ps.length + 1) (ps.flatMap ccells ++ ccells (c, bv)) ∧ (W3.drew.alloc (.cells (chc c bv) 128)).grownBy w5 (cv i).ownBlock ∧ Sn (W3.drew.alloc (.cells (chc c bv) 128)) (cv i) (.slice ad5 n5 cap5) ∧ Bk w5 d (dkc (upd nv i (.slice ad2 n2 cap2)) sv cv D.off D.tO D.tF) 107) := ⟨ho5, hg5, hs5, hd5⟩
    refine hK.out _ _ hX5 (fun hHeld => ?_)
    clear hK K ho5 hg5 hs5 hX5 hd5 p3
    (try dsimp only); (try simp only [Act.put, List.setIfInBounds_toArray, List.set_cons_zero, List.set_cons_succ])
    refine wpAnyH_take (i := 8) (oi := ⟨some 21, _, _, _, _, _⟩) (v := ?_) rfl (by kernel_rfl) (by kernel_rfl) (by kernel_rfl) (fun _ _ _ h => h) (Or.inl ⟨by rfl, ?_⟩) (by assumption) ?_
    rotate_left
    · (intro w hSw; (try dsimp only at hSw); go_simp; try (with_reducible rfl))
    (try dsimp only); (try simp only [Act.put, List.setIfInBounds_toArray, List.set_cons_zero, List.set_cons_succ])
    refine wpAnyH_take (i := 9) (oi := ⟨some 22, _, _, _, _, _⟩) (v := ?_) rfl (by kernel_rfl) (by kernel_rfl) (by kernel_rfl) (fun _ _ _ h => h) (Or.inl ⟨by rfl, ?_⟩) (by assumption) ?_
    rotate_left
    · (intro w hSw; (try dsimp only at hSw); go_simp; try (with_reducible rfl))
    (try dsimp only); (try simp only [Act.put, List.setIfInBounds_toArray, List.set_cons_zero, List.set_cons_succ])
    refine wpAnyH_ready (rs := [10]) (by kernel_rfl) (by simp) ?_
    refine AllReadyH.cons (o := ⟨none, _, _, _, _, _⟩) rfl (fun K hK => ?_) AllReadyH.nil
    go_simp
    refine hK.out _ _ (hHeld.other (a := ⟨d, i * 3 + 2, none⟩) (by show w.heap.size ≠ d; omega) _) (fun hHeld => ?_)
    clear hK K
    (try dsimp only); (try simp only [Act.put, List.setIfInBounds_toArray, List.set_cons_zero, List.set_cons_succ])
    refine wpAnyH_done (by kernel_rfl) ?_ _
    refine NoPanic.normal ?_
    go_wp2
    go_end0
    refine ⟨⟨_, rfl⟩, ?_⟩
    exact do_end HD.out hi hPs2 HC.out hz5 HK3.out HN3.out HD3.out HRow.out H5.out.1 H5.out.2.1 H5.out.2.2.1 H5.out.2.2.2
end Go.Proofs.Ytjbhegakgdcldaa
end
section
set_option linter.unusedSimpArgs false
set_option linter.unusedVariables false
namespace Go.Proofs.Ytjbhegakgdcldaa
open Go.RowKit

/-! Off, Fail, Size, Read. -/
set_option maxRecDepth 100000 in
set_option maxHeartbeats 2000000 in
theorem off9 (w : World) (O : Nat → Nat) (d : Nat) (D : Ds) (nv sv cv : Nat → Value) (n : Int) (h : DK w O d D nv sv cv) (hn : n ≤ 9223372036854775807) :
    Calls Try.prog 34 #[.pointer (some ⟨d, 0, none⟩), .int .i64 n] w fun e w' => (∃ v, e = .returned v) ∧ Turn w w' d (dkc nv sv cv (D.off || decide (n < 1)) n.toNat D.tF) 107 := by
  have hbk := h.blk
  have HB : Hid (Bk w d (dkc nv sv cv D.off D.tO D.tF) 107) := hbk
  have hd := hbk.lt
  have c24 := (hbk.cell 24).trans (dkc_off ..)
  have c25 := (hbk.cell 25).trans (dkc_tO ..)
  have f24 := hbk.frozen 24
  have f25 := hbk.frozen 25
  clear h hbk
  generalize D.off = off at *
  generalize D.tO = t1 at *
  generalize D.tF = t2 at *
  have hT : ∀ (b : Bool) (m : Nat), Turn w ((w.setCell ⟨d, 24, none⟩ (.bool b)).setCell ⟨d, 25, none⟩ (.int .i64 (m : Int))) d (dkc nv sv cv b m t2) 107 := fun b m => by
    have h1 := Turn.set HB.out 24 (.bool b)
    rw [dkc_setOff] at h1
    have h2 := Turn.set h1.blk 25 (.int .i64 (m : Int))
    rw [dkc_setO] at h2
    exact h1.trans h2
  have HT : Hid _ := hT
  clear hT
  rcases Int.lt_trichotomy n 0 with hlt | heq | hgt
  · have e : n.toNat = 0 := by omega
    have e2 : decide (n < 1) = true := decide_eq_true (by omega)
    rw [e, e2, Bool.or_true]
    cases off
    all_goals
      go_enter Try.func34, Try.ntmps34
      go_wp2
      go_end0
      exact ⟨⟨_, rfl⟩, HT.out true 0⟩
  · subst heq
    have e2 : decide ((0 : Int) < 1) = true := rfl
    rw [e2, Bool.or_true]
    cases off
    all_goals
      go_enter Try.func34, Try.ntmps34
      go_wp2
      go_end0
      exact ⟨⟨_, rfl⟩, HT.out true 0⟩
  · obtain ⟨m, rfl⟩ : ∃ m : Nat, n = m := ⟨n.toNat, by omega⟩
    have e2 : decide ((m : Int) < 1) = false := decide_eq_false (by omega)
    rw [e2, Bool.or_false, Int.toNat_natCast]
    cases off
    · go_enter Try.func34, Try.ntmps34
      go_wp2
      go_end0
      exact ⟨⟨_, rfl⟩, HT.out false m⟩
    · go_enter Try.func34, Try.ntmps34
      go_wp2
      go_end0
      exact ⟨⟨_, rfl⟩, HT.out true m⟩
set_option maxRecDepth 100000 in
set_option maxHeartbeats 2000000 in
theorem fail9 (w : World) (O : Nat → Nat) (d : Nat) (D : Ds) (nv sv cv : Nat → Value) (n : Int) (h : DK w O d D nv sv cv) (hn : n ≤ 9223372036854775807) :
    Calls Try.prog 40 #[.pointer (some ⟨d, 0, none⟩), .int .i64 n] w fun e w' => (∃ v, e = .returned v) ∧ Turn w w' d (dkc nv sv cv D.off D.tO n.toNat) 107 := by
  have hbk := h.blk
  have HB : Hid (Bk w d (dkc nv sv cv D.off D.tO D.tF) 107) := hbk
  have hd := hbk.lt
  have c26 := (hbk.cell 26).trans (dkc_tF ..)
  have f26 := hbk.frozen 26
  clear h hbk
  generalize D.off = off at *
  generalize D.tO = t1 at *
  generalize D.tF = t2 at *
  have hT : ∀ (m : Nat), Turn w (w.setCell ⟨d, 26, none⟩ (.int .i64 (m : Int))) d (dkc nv sv cv off t1 m) 107 := fun m => by
    have h1 := Turn.set HB.out 26 (.int .i64 (m : Int))
    rw [dkc_setF] at h1
    exact h1
  have HT : Hid _ := hT
  clear hT
  rcases Int.lt_trichotomy n 0 with hlt | heq | hgt
  · have e : n.toNat = 0 := by omega
    rw [e]
    go_enter Try.func40, Try.ntmps40
    go_wp2
    go_end0
    exact ⟨⟨_, rfl⟩, HT.out 0⟩
  · subst heq
    go_enter Try.func40, Try.ntmps40
    go_wp2
    go_end0
    exact ⟨⟨_, rfl⟩, HT.out 0⟩
  · obtain ⟨m, rfl⟩ : ∃ m : Nat, n = m := ⟨n.toNat, by omega⟩
    rw [Int.toNat_natCast]
    go_enter Try.func40, Try.ntmps40
    go_wp2
    go_end0
    exact ⟨⟨_, rfl⟩, HT.out m⟩
/-- A file is found: its cells. -/
theorem fnd_ok {d : Nat} {off : Bool} {f : Int} (h : fndE off f = 0) : off = false ∧ ∃ i : Nat, f = (i : Int) ∧ i < 8 ∧ fndP d off f = .pointer (some ⟨d, i * 3, none⟩) := by
  have hp : fndP d off f = .pointer (some ⟨d, f.toNat * 3, none⟩) := if_pos h
  unfold fndE at h
  by_cases h1 : off = true
  · rw [if_pos h1] at h; omega
  · rw [if_neg h1] at h
    by_cases h2 : f < 0 ∨ 8 ≤ f
    · rw [if_pos h2] at h; omega
    · exact ⟨by simpa using h1, f.toNat, by omega, by omega, hp⟩
theorem fnd_no {d : Nat} {off : Bool} {f : Int} (h : fndE off f ≠ 0) : fndP d off f = .pointer none := if_neg h
def sizeV (D : Ds) (f : Int) : Int := if fndE D.off f = 0 then ((D.now f.toNat).length : Int) else 0
set_option maxRecDepth 100000 in
set_option maxHeartbeats 2000000 in
theorem size9 (w : World) (O : Nat → Nat) (d : Nat) (D : Ds) (nv sv cv : Nat → Value) (f : Int) (h : DK w O d D nv sv cv) :
    Calls Try.prog 28 #[.pointer (some ⟨d, 0, none⟩), .int .i64 f] w fun e w' => e = .returned (.tuple #[.int .i64 (sizeV D f), .int .i64 (fndE D.off f)]) ∧ w' = w := by
  have HF := find w d D.off f h.c24 h.blk.lt
  by_cases h0 : fndE D.off f = 0
  · obtain ⟨ho, i, rfl, hi, hp⟩ := fnd_ok (d := d) h0
    have e : sizeV D (i : Int) = ((D.now i).length : Int) := by unfold sizeV; rw [if_pos h0]; rfl
    rw [e, h0]
    rw [hp, h0] at HF
    obtain ⟨ad, cap, env, _⟩ := (h.now i hi).shape
    have c0 : w.cell? ⟨d, i * 3, none⟩ = some (.slice ad (D.now i).length cap) := by rw [← env]; exact (h.blk.cell _).trans (dkc_now _ _ _ _ _ _ hi)
    have HF : Hid _ := HF
    clear e h h0 env hp ho
    generalize (D.now i).length = n at *
    go_enter Try.func28, Try.ntmps28
    go_wp2_with (go_at_call 63; refine Calls.mono HF.out ?_; rintro e w8 ⟨rfl, rfl⟩)
    go_ret2
    exact ⟨rfl, rfl⟩
  · have e : sizeV D f = 0 := if_neg h0
    rw [e]
    rw [fnd_no h0] at HF
    have HF : Hid _ := HF
    have hne : (fndE D.off f != 0) = true := by rw [bne_iff_ne]; exact h0
    clear h e h0
    generalize fndE D.off f = ev at *
    go_enter Try.func28, Try.ntmps28
    go_wp2_with (go_at_call 63; refine Calls.mono HF.out ?_; rintro e w8 ⟨rfl, rfl⟩)
    go_ret2
    exact ⟨rfl, rfl⟩
end Go.Proofs.Ytjbhegakgdcldaa
end
section
set_option linter.unusedSimpArgs false
set_option linter.unusedVariables false
namespace Go.Proofs.Ytjbhegakgdcldaa
open Go.RowKit

/-! Read, Cut. -/
def rdE (D : Ds) (f at_ n : Int) : Int := if fndE D.off f ≠ 0 then fndE D.off f else if at_ < 0 ∨ n < 0 ∨ ((D.now f.toNat).length : Int) < at_ ∨ ((D.now f.toNat).length : Int) - at_ < n then 1 else 0
def rdV (D : Ds) (f at_ n : Int) : List UInt8 := if rdE D f at_ n = 0 then ((D.now f.toNat).drop at_.toNat).take n.toNat else []
/-- A piece of a row, as a cut of it lies. -/
theorem Rb.mid {w : World} {ad : Option Addr} {n cap a m : Nat} {l : List UInt8} (h : Rb w (.slice ad n cap) l) (ham : a + m ≤ l.length) : Rb w (.slice (Option.map (fun x => x.add a) ad) m (cap - a)) ((l.drop a).take m) := by
  have hlen : ((l.drop a).take m).length = m := by simp; omega
  obtain ⟨ad', cap', e, hle, hm, hc⟩ := h
  simp at e
  obtain ⟨rfl, rfl, rfl⟩ := e
  refine ⟨_, cap - a, by rw [hlen], by omega, by omega, fun i hi => ?_⟩
  have him : i < m := by omega
  obtain ⟨b, off, rfl, hx⟩ := hc (a + i) (by omega)
  refine ⟨b, off + a, by rw [Option.map_some, Addr.add_mid], ?_⟩
  rw [Nat.add_assoc, hx]
  simp
theorem Rb.none {w : World} (ad : Option Addr) (n cap m : Nat) (l : List UInt8) (hl : l.length = n) (hn : n = 0) : Rb w (.slice ad n cap) l := by
  subst hn
  obtain rfl := List.length_eq_zero_iff.1 hl
  exact ⟨ad, cap, rfl, Nat.zero_le _, by simp, fun i hi => by simp at hi⟩
set_option maxRecDepth 100000 in
set_option maxHeartbeats 2000000 in
theorem read9 (w : World) (O : Nat → Nat) (d : Nat) (D : Ds) (nv sv cv : Nat → Value) (f at_ n : Int) (h : DK w O d D nv sv cv) (hl : ∀ i, i < 8 → (D.now i).length ≤ 1099511627776) (h1 : -9223372036854775808 ≤ n ∧ n ≤ 9223372036854775807) (h2 : -9223372036854775808 ≤ at_ ∧ at_ ≤ 9223372036854775807) :
    Calls Try.prog 72 #[.pointer (some ⟨d, 0, none⟩), .int .i64 f, .int .i64 at_, .int .i64 n] w fun e w' => ∃ v', e = .returned (.tuple #[v', .int .i64 (rdE D f at_ n)]) ∧ Ow w' w.heap.size v' (rdV D f at_ n) ∧ Below w.heap.size w w' := by
  have HF := find w d D.off f h.c24 h.blk.lt
  by_cases h0 : fndE D.off f = 0
  · obtain ⟨ho, i, rfl, hi, hp⟩ := fnd_ok (d := d) h0
    rw [hp, h0] at HF
    obtain ⟨ad, cap, env, hle⟩ := (h.now i hi).shape
    have c0 : w.cell? ⟨d, i * 3, none⟩ = some (.slice ad (D.now i).length cap) := by rw [← env]; exact (h.blk.cell _).trans (dkc_now _ _ _ _ _ _ hi)
    have how : Ow w 0 (.slice ad (D.now i).length cap) (D.now i) := env ▸ h.now i hi
    have HOw : Hid (Ow w 0 (.slice ad (D.now i).length cap) (D.now i)) := how
    have hli := hl i hi
    have HF : Hid _ := HF
    have eE : rdE D (i : Int) at_ n = if at_ < 0 ∨ n < 0 ∨ ((D.now i).length : Int) < at_ ∨ ((D.now i).length : Int) - at_ < n then 1 else 0 := by unfold rdE; rw [if_neg (by rw [h0]; simp), Int.toNat_natCast]
    unfold rdV
    rw [eE, Int.toNat_natCast]
    clear eE h hl env hp ho h0 how
    generalize hlr : D.now i = row at *
    by_cases hc : at_ < 0 ∨ n < 0 ∨ (row.length : Int) < at_ ∨ (row.length : Int) - at_ < n
    · rw [if_pos hc]
      rw [if_neg (by omega)]
      have hdif : 0 ≤ at_ → IntKind.i64.wrap ((row.length : Int) - at_) = (row.length : Int) - at_ := fun _ => IntWalk.i64_in _ (by omega)
      rcases hc with hc | hc | hc | hc
      · go_enter Try.func72, Try.ntmps72
        go_wp2_with (go_at_call 63; refine Calls.mono HF.out ?_; rintro e w8 ⟨rfl, rfl⟩)
        go_ret2
        exact ⟨_, rfl, Ow.nil _ _, Below.refl _ _⟩
      · by_cases hx : at_ < 0
        all_goals
          go_enter Try.func72, Try.ntmps72
          go_wp2_with (go_at_call 63; refine Calls.mono HF.out ?_; rintro e w8 ⟨rfl, rfl⟩)
          go_ret2
          exact ⟨_, rfl, Ow.nil _ _, Below.refl _ _⟩
      · have hx : ¬ at_ < 0 := by omega
        by_cases hy : n < 0
        all_goals
          go_enter Try.func72, Try.ntmps72
          go_wp2_with (go_at_call 63; refine Calls.mono HF.out ?_; rintro e w8 ⟨rfl, rfl⟩)
          go_ret2
          exact ⟨_, rfl, Ow.nil _ _, Below.refl _ _⟩
      · by_cases hx : at_ < 0
        · clear hdif
          go_enter Try.func72, Try.ntmps72
          go_wp2_with (go_at_call 63; refine Calls.mono HF.out ?_; rintro e w8 ⟨rfl, rfl⟩)
          go_ret2
          exact ⟨_, rfl, Ow.nil _ _, Below.refl _ _⟩
        · have hdif := hdif (by omega)
          by_cases hy : n < 0
          · go_enter Try.func72, Try.ntmps72
            go_wp2_with (go_at_call 63; refine Calls.mono HF.out ?_; rintro e w8 ⟨rfl, rfl⟩)
            go_ret2
            exact ⟨_, rfl, Ow.nil _ _, Below.refl _ _⟩
          · by_cases hz : (row.length : Int) < at_
            all_goals
              go_enter Try.func72, Try.ntmps72
              go_wp2_with (go_at_call 63; refine Calls.mono HF.out ?_; rintro e w8 ⟨rfl, rfl⟩)
              go_ret2
              exact ⟨_, rfl, Ow.nil _ _, Below.refl _ _⟩
    · rw [if_neg hc, if_pos rfl]
      obtain ⟨a, rfl⟩ : ∃ a : Nat, at_ = a := ⟨at_.toNat, by omega⟩
      obtain ⟨m, rfl⟩ : ∃ m : Nat, n = m := ⟨n.toNat, by omega⟩
      have g1 : a ≤ row.length := by omega
      have g2 : a + m ≤ row.length := by omega
      have hdif : IntKind.i64.wrap ((row.length : Int) - (a : Int)) = (row.length : Int) - (a : Int) := IntWalk.i64_in _ (by omega)
      have hsum : IntKind.i64.wrap ((a : Int) + (m : Int)) = (a : Int) + (m : Int) := IntWalk.i64_in _ (by omega)
      have hx : ¬ (a : Int) < 0 := by omega
      have hy : ¬ (m : Int) < 0 := by omega
      have hz : ¬ (row.length : Int) < (a : Int) := by omega
      have hq : ¬ (row.length : Int) - (a : Int) < (m : Int) := by omega
      have g3 : a + m ≤ cap := by omega
      have g4 : a ≤ a + m := by omega
      rw [Int.toNat_natCast, Int.toNat_natCast]
      have HC : Hid (∀ v, Rb w v ((row.drop a).take m) → Calls Try.prog 71 #[v] w fun e w' => ∃ v', e = .returned v' ∧ Ow w' w.heap.size v' ((row.drop a).take m) ∧ Below w.heap.size w w') := fun v hv => clone w v _ hv (by simp; omega)
      clear hc
      go_enter Try.func72, Try.ntmps72
      have HMid : Hid (Rb w (.slice (Option.map (fun x => x.add a) ad) m (cap - a)) ((row.drop a).take m)) := (HOw.out.rb (by omega)).mid g2
      have hlen : ((row.drop a).take m).length = m := by simp; omega
      have HLen : Hid (((row.drop a).take m).length = m) := hlen
      clear hlen
      go_wp2_with (first | (go_at_call 63; refine Calls.mono HF.out ?_; rintro e w8 ⟨rfl, rfl⟩) | fail)
      all_goals
        refine (HC.out _ (by first | exact HMid.out | exact Rb.none ad m 0 m _ HLen.out (by omega))).mono ?_
        rintro e w9 ⟨v9, rfl, ho9, hb9⟩
        go_wp2
        go_ret2
        exact ⟨_, rfl, ho9, hb9⟩
  · have e : rdE D f at_ n = fndE D.off f := if_pos h0
    have e2 : rdV D f at_ n = [] := if_neg (by rw [e]; exact h0)
    rw [e, e2]
    rw [fnd_no h0] at HF
    have HF : Hid _ := HF
    have hne : (fndE D.off f != 0) = true := by rw [bne_iff_ne]; exact h0
    clear h e h0 e2 hl
    generalize fndE D.off f = ev at *
    go_enter Try.func72, Try.ntmps72
    go_wp2_with (go_at_call 63; refine Calls.mono HF.out ?_; rintro e w8 ⟨rfl, rfl⟩)
    go_ret2
    exact ⟨_, rfl, Ow.nil _ _, Below.refl _ _⟩
end Go.Proofs.Ytjbhegakgdcldaa
end
section
set_option linter.unusedSimpArgs false
set_option linter.unusedVariables false
namespace Go.Proofs.Ytjbhegakgdcldaa
open Go.RowKit

/-! Cut. -/
theorem cnt_ok {d : Nat} {D : Ds} {f : Int} (h : cntE D f = 0) : (cnt D).off = false ∧ ∃ i : Nat, f = (i : Int) ∧ i < 8 ∧ cntP d D f = .pointer (some ⟨d, i * 3, none⟩) := by
  have hp : cntP d D f = .pointer (some ⟨d, f.toNat * 3, none⟩) := if_pos h
  unfold cntE at h
  by_cases h1 : (cnt D).off = true
  · rw [if_pos h1] at h; omega
  · rw [if_neg h1] at h
    by_cases h2 : D.tF = 1
    · rw [if_pos h2] at h; omega
    · rw [if_neg h2] at h
      obtain ⟨_, i, e1, e2, _⟩ := fnd_ok (d := d) h
      exact ⟨by simpa using h1, i, e1, e2, by rw [hp, e1, Int.toNat_natCast]⟩
theorem cnt_no {d : Nat} {D : Ds} {f : Int} (h : cntE D f ≠ 0) : cntP d D f = .pointer none := if_neg h
theorem DK.counted {w w' : World} {O : Nat → Nat} {d : Nat} {D : Ds} {nv sv cv : Nat → Value} (h : DK w O d D nv sv cv) (ht : Turn w w' d (dkc nv sv cv (cnt D).off (cnt D).tO (cnt D).tF) 107) : DK w' O d (cnt D) nv sv cv ∧ Fp O w O w' :=
  ⟨h.turn ht (by have := h.bO; simp [cnt]; omega) (by have := h.bF; simp [cnt]; omega), Fp.of_turn ht h.blk (by rw [h.td]; omega)⟩
/-- File i with a change more. -/
def chg (D : Ds) (i : Nat) (c : Ch) : Ds := { D with now := upd D.now i (ovr c (D.now i)), chs := upd D.chs i (D.chs i ++ [c]) }
def cutE (D : Ds) (f n : Int) : Int := if cntE D f ≠ 0 then cntE D f else if n < 0 ∨ ((D.now f.toNat).length : Int) < n then 1 else 0
def cutD (D : Ds) (f n : Int) : Ds := if cutE D f n = 0 then chg (cnt D) f.toNat ⟨true, n.toNat, []⟩ else cnt D
set_option maxRecDepth 100000 in
set_option maxHeartbeats 4000000 in
theorem cut9 (w : World) (O : Nat → Nat) (d : Nat) (D : Ds) (nv sv cv : Nat → Value) (f n : Int) (h : DK w O d D nv sv cv) (hl : ∀ i, i < 8 → (D.now i).length ≤ 1099511627776) (hm : ∀ i, i < 8 → (D.chs i).length ≤ 1099511627776) :
    Calls Try.prog 92 #[.pointer (some ⟨d, 0, none⟩), .int .i64 f, .int .i64 n] w fun e w' => e = .returned (.int .i64 (cutE D f n)) ∧ ∃ O' nv' sv' cv', DK w' O' d (cutD D f n) nv' sv' cv' ∧ Fp O w O' w' := by
  have HF := findC w O d D nv sv cv f h
  have HD : Hid (DK w O d D nv sv cv) := h
  by_cases h0 : cntE D f = 0
  · obtain ⟨ho, i, rfl, hi, hp⟩ := cnt_ok (d := d) h0
    rw [hp, h0] at HF
    have eE : cutE D (i : Int) n = if n < 0 ∨ ((D.now i).length : Int) < n then 1 else 0 := by unfold cutE; rw [if_neg (by rw [h0]; simp), Int.toNat_natCast]
    have hli := hl i hi
    have hmi := hm i hi
    have HF : Hid _ := HF
    by_cases hc : n < 0 ∨ ((D.now i).length : Int) < n
    · rw [if_pos hc] at eE
      have eD : cutD D (i : Int) n = cnt D := if_neg (by rw [eE]; omega)
      rw [eE, eD]
      obtain ⟨ad, cap, env, hle⟩ := (h.now i hi).shape
      have HC0 : Hid (∀ W, Turn w W d (dkc nv sv cv (cnt D).off (cnt D).tO (cnt D).tF) 107 → W.cell? ⟨d, i * 3, none⟩ = some (.slice ad (D.now i).length cap)) := fun W hW => by rw [← env]; exact (hW.blk.cell _).trans (dkc_now _ _ _ _ _ _ hi)
      clear eE eD h env hp h0 ho hl hm
      generalize (D.now i).length = ln at *
      by_cases hx : n < 0
      all_goals
        go_enter Try.func92, Try.ntmps92
        go_wp2_with (go_at_call 91; refine Calls.mono HF.out ?_; rintro e w8 ⟨rfl, ht8⟩; have c8 := HC0.out _ ht8; have H8 : Hid (Turn w w8 d (dkc nv sv cv (cnt D).off (cnt D).tO (cnt D).tF) 107) := ht8; clear ht8)
        go_ret
        exact ⟨rfl, O, nv, sv, cv, HD.out.counted H8.out⟩
    · rw [if_neg hc] at eE
      have eD : cutD D (i : Int) n = chg (cnt D) i ⟨true, n.toNat, []⟩ := by unfold cutD; rw [if_pos eE, Int.toNat_natCast]
      rw [eE, eD]
      obtain ⟨m, rfl⟩ : ∃ m : Nat, n = m := ⟨n.toNat, by omega⟩
      rw [Int.toNat_natCast]
      obtain ⟨ad, cap, env, hle⟩ := (h.now i hi).shape
      have HC0 : Hid (∀ W, Turn w W d (dkc nv sv cv (cnt D).off (cnt D).tO (cnt D).tF) 107 → W.cell? ⟨d, i * 3, none⟩ = some (.slice ad (D.now i).length cap)) := fun W hW => by rw [← env]; exact (hW.blk.cell _).trans (dkc_now _ _ _ _ _ _ hi)
      have HDo : Hid (∀ W, Turn w W d (dkc nv sv cv (cnt D).off (cnt D).tO (cnt D).tF) 107 → Calls Try.prog 97 #[.pointer (some ⟨d, i * 3, none⟩), .agg #[.bool true, .int .i64 (m : Int), .slice none 0 0]] W fun e w' => (∃ v, e = .returned v) ∧ ∃ O' nv' cv', DK w' O' d (chg (cnt D) i ⟨true, m, []⟩) nv' sv cv' ∧ Fp O W O' w') := fun W hW =>
        do9 W O d i (cnt D) nv sv cv ⟨true, m, []⟩ (.slice none 0 0) (HD.out.counted hW).1 hi ⟨Ow.nil _ _, fun b hb => by simp [Value.ownBlock] at hb, fun hx => by simp at hx, by simp; omega, _, _, _, rfl⟩ hli hmi
      have HT : Hid (∀ W, Turn w W d (dkc nv sv cv (cnt D).off (cnt D).tO (cnt D).tF) 107 → Fp O w O W) := fun W hW => (HD.out.counted hW).2
      have hx : ¬ (m : Int) < 0 := by omega
      have hy : ¬ ((D.now i).length : Int) < (m : Int) := by omega
      clear eE eD h env hp h0 ho hl hm hc hli hmi
      generalize (D.now i).length = ln at *
      generalize chg (cnt D) i ⟨true, m, []⟩ = D2 at *
      go_enter Try.func92, Try.ntmps92
      go_wp2_with (first | (go_at_call 91; refine Calls.mono HF.out ?_; rintro e w8 ⟨rfl, ht8⟩; have c8 := HC0.out _ ht8; have H8 : Hid (Turn w w8 d (dkc nv sv cv (cnt D).off (cnt D).tO (cnt D).tF) 107) := ht8; clear ht8) | (go_at_call 97; refine (HDo.out _ H8.out).mono ?_; rintro e w9 ⟨⟨v9, rfl⟩, h9⟩))
      go_ret
      obtain ⟨O', nv', cv', r1, r2⟩ := h9
      exact ⟨rfl, O', nv', sv, cv', r1, (HT.out _ H8.out).trans r2⟩
  · have e : cutE D f n = cntE D f := if_pos h0
    have e2 : cutD D f n = cnt D := if_neg (by rw [e]; exact h0)
    rw [e, e2]
    rw [cnt_no h0] at HF
    have HF : Hid _ := HF
    have hne : (cntE D f != 0) = true := by rw [bne_iff_ne]; exact h0
    clear h e h0 e2 hl hm
    generalize cntE D f = ev at *
    go_enter Try.func92, Try.ntmps92
    go_wp2_with (go_at_call 91; refine Calls.mono HF.out ?_; rintro e w8 ⟨rfl, ht8⟩; have H8 : Hid (Turn w w8 d (dkc nv sv cv (cnt D).off (cnt D).tO (cnt D).tF) 107) := ht8; clear ht8)
    go_ret
    exact ⟨rfl, O, nv, sv, cv, HD.out.counted H8.out⟩
end Go.Proofs.Ytjbhegakgdcldaa
end

import Derived.Test.YtjbhegakgdcldaaShV
import Derived.Test.YtjbhegakgdcldaaRw0
set_option linter.unusedSimpArgs false
set_option linter.unusedVariables false
set_option maxRecDepth 100000
namespace Go.Proofs.Ytjbhegakgdcldaa
open Go.RowKit Go.Shelf
attribute [local go_sem] Oper.semAt_some

/-! tarnlaw10.texts; tarnref0.EqStrings. -/
theorem eqStr_ext (xs ys : List ByteArray) (h : xs.length = ys.length) (hh : ∀ i, i < xs.length → xs.getD i ByteArray.empty = ys.getD i ByteArray.empty) : xs = ys := by
  apply List.ext_getElem h
  intro i h1 h2
  have := hh i h1
  simpa [h1, h2] using this
theorem bytes_ij {a b : ByteArray} (h : a.toList = b.toList) : a = b := by
  have h2 : (a.toList == b.toList) = true := by rw [h]; exact beq_self_eq_true _
  rw [bytes_inj] at h2
  simpa using h2
set_option maxHeartbeats 1000000 in
theorem eqStr10 (u v : Value) (xs ys : List ByteArray) (w : World) (hu : Ss w u (fun i => xs.getD i ByteArray.empty) xs.length) (hv : Ss w v (fun i => ys.getD i ByteArray.empty) ys.length) :
    Calls Try.prog 41 #[u, v] w fun r w' => r = .returned (.bool (decide (xs = ys))) ∧ Below w.heap.size w w' := by
  obtain ⟨l1, -, a1, c1, rfl, h1⟩ := hu
  obtain ⟨l2, -, a2, c2, rfl, h2⟩ := hv
  unfold maxLen at l1 l2
  have H1 : Hid (∀ i, i < xs.length → ∃ b off, a1 = some ⟨b, off, none⟩ ∧ w.cell? ⟨b, off + i, none⟩ = some (cS (xs.getD i ByteArray.empty))) := h1
  have H2 : Hid (∀ i, i < ys.length → ∃ b off, a2 = some ⟨b, off, none⟩ ∧ w.cell? ⟨b, off + i, none⟩ = some (cS (ys.getD i ByteArray.empty))) := h2
  clear h1 h2
  by_cases hl : xs.length = ys.length
  · have hl' : ((xs.length : Int) != (ys.length : Int)) = false := by rw [bne_eq_false_iff_eq]; omega
    have HL : Hid (xs.length = ys.length) := hl
    clear hl
    go_enter Try.func41, Try.ntmps41
    go_wp2_with fail
    go_loopw [5] (fun i wr => ∃ k : Nat, k ≤ xs.length ∧ i = .int .i64 (k : Int) ∧ (∀ j, j < k → xs.getD j ByteArray.empty = ys.getD j ByteArray.empty) ∧ Below w.heap.size w wr) (fun i _ => xs.length - (intOf i).toNat)
    case atStart => exact ⟨0, by omega, rfl, fun j hj => absurd hj (by omega), Below.refl _ _⟩
    case round =>
      obtain ⟨k, hk, rfl, hall, hb⟩ := hrel
      have HAll : Hid (∀ j, j < k → xs.getD j ByteArray.empty = ys.getD j ByteArray.empty) := hall
      clear hall
      by_cases hlt : k < xs.length
      · have hlt' : (k : Int) < (xs.length : Int) := by omega
        have hlt2 : k < ys.length := by have := HL.out; omega
        have hlt2' : (k : Int) < (ys.length : Int) := by omega
        obtain ⟨b, off, rfl, hc⟩ := H1.out k hlt
        obtain ⟨b', off', rfl, hc'⟩ := H2.out k hlt2
        replace hc := (hb.cell (cell_lt' hc)).trans hc
        replace hc' := (hb.cell (cell_lt' hc')).trans hc'
        by_cases he : xs.getD k ByteArray.empty = ys.getD k ByteArray.empty
        · have HE : Hid (xs.getD k ByteArray.empty = ys.getD k ByteArray.empty) := he
          rw [he] at hc
          generalize ys.getD k ByteArray.empty = y at hc hc'
          clear he
          have hq : (y.toList == y.toList) = true := beq_self_eq_true _
          go_upto_region 6 with fail
          go_quiet (fail)
          go_wp2_with fail
          go_roundw
          case rel =>
            refine ⟨k + 1, by omega, by go_num, fun j hj => ?_, bdrewN hb _⟩
            rcases Nat.lt_or_ge j k with h | h
            · exact HAll.out j h
            · obtain rfl : j = k := by omega
              exact HE.out
          case measure => simp [intOf]; omega
        · have HN : Hid (decide (xs = ys) = false) := decide_eq_false fun h => he (by rw [h])
          generalize xs.getD k ByteArray.empty = x at hc he
          generalize ys.getD k ByteArray.empty = y at hc' he
          have hq : (x.toList == y.toList) = false := by rw [beq_eq_false_iff_ne]; exact fun h => he (bytes_ij h)
          clear he
          go_upto_region 6 with fail
          go_quiet (fail)
          go_wp2_with fail
          go_ret
          exact ⟨by rw [HN.out]; rfl, bdrewN hb _⟩
      · have hlt' : ¬ (k : Int) < (xs.length : Int) := by omega
        have HN : Hid (decide (xs = ys) = true) := decide_eq_true (eqStr_ext xs ys HL.out fun j hj => HAll.out j (by omega))
        go_wp2_with fail
        go_ret
        exact ⟨by rw [HN.out]; rfl, hb⟩
  · have hl' : ((xs.length : Int) != (ys.length : Int)) = true := by rw [bne_iff_ne]; omega
    have HN : Hid (decide (xs = ys) = false) := decide_eq_false fun h => hl (by rw [h])
    clear hl
    go_enter Try.func41, Try.ntmps41
    go_wp2_with fail
    go_ret
    exact ⟨by rw [HN.out]; rfl, Below.refl _ _⟩
theorem ecl_at : ∀ (l : List Ent) (i : Nat) (hi : i < l.length), (l.flatMap ecl)[i * 2]? = some (.int .i64 ((l.getD i (0, ByteArray.empty)).1 : Int)) ∧ (l.flatMap ecl)[i * 2 + 1]? = some (.string (l.getD i (0, ByteArray.empty)).2)
  | [], i, h => by simp at h
  | x :: l, 0, h => ⟨rfl, rfl⟩
  | x :: l, i + 1, h => by
    have e := ecl_at l i (by simpa using h)
    rw [show (i + 1) * 2 = i * 2 + 2 by omega]
    refine ⟨?_, ?_⟩
    · rw [List.flatMap_cons]
      exact e.1
    · rw [List.flatMap_cons]
      exact e.2
theorem RowE.at {W : World} {base : Nat} {v : Value} {l : List Ent} (h : RowE W base v l) (i : Nat) (hi : i < l.length) : ∃ g cap, v = .slice (some ⟨g, 0, none⟩) l.length cap ∧ l.length ≤ cap ∧ g < W.heap.size ∧ W.cell? ⟨g, i * 2, none⟩ = some (.int .i64 ((l.getD i (0, ByteArray.empty)).1 : Int)) ∧ W.cell? ⟨g, i * 2 + 1, none⟩ = some (.string (l.getD i (0, ByteArray.empty)).2) ∧ (∀ j, W.frozen? ⟨g, j, none⟩ = false) := by
  have hc := h
  rcases h.2 with ⟨e, hz⟩ | ⟨g, cap, cur, rfl, _, hh, hcc, _⟩
  · omega
  · obtain ⟨h1, h2⟩ := ecl_at l i hi
    exact ⟨g, cap, rfl, hcc, (Array.getElem?_eq_some_iff.1 hh).1, (World.ownsRow.cellAt hc (i * 2) (by omega)).trans h1, (World.ownsRow.cellAt hc (i * 2 + 1) (by omega)).trans h2, fun j => World.ownsRow.frozenAt hc j⟩
/-- The texts of entries. -/
def txs (l : List Ent) : List ByteArray := l.map (·.2)
theorem one_str {W : World} {g : Nat} {x : ByteArray} (hb : Bk W g #[.string x] 9) : Src Try.prog 1 52 (.slice (some ⟨g, 0, none⟩) 1 1) 1 [cS x] W := by
  have c0 := hb.cell 0
  simp only [List.getElem?_toArray, List.getElem?_cons_zero] at c0
  refine Src.ofSlice W Try.underlying52 ⟨g, 0, none⟩ 1 1 [cS x] rfl (fun j u hj => ?_) (fun u hu => ?_)
  · rw [Addr.add_lit, Nat.zero_add]
    match j with
    | 0 => simp at hj; subst hj; exact c0
    | j + 1 => simp at hj
  · simp at hu
    rw [hu]; rfl
section
variable {W : World} {P : Nat → Nat} {vs : Value → Bool → Array Value} {b d f n : Nat} {t : TypeId} {pv : Value} {ps : List Pl} {fl : Bool}
set_option maxHeartbeats 8000000 in
theorem texts10 (hx : Box vs 0 d f n t) (h : SB W P vs b t pv ps fl) (hl : ps.length ≤ 128) :
    Calls Try.prog 38 #[.pointer (some ⟨b, 0, none⟩)] W fun e w' => ∃ v, e = .returned v ∧ Or 9 cS w' W.heap.size v (txs (ents 0 ps)) ∧ Below W.heap.size W w' := by
  have HE : Hid (Calls Try.prog 30 #[.pointer (some ⟨b, 0, none⟩), .int .i64 1000] W (EnQ W ((ents 0 ps).take 1000))) := entries10 hx h hl 1000 (by omega) rfl
  have hle : (ents 0 ps).length ≤ 128 := Nat.le_trans (ents_le 0 ps) hl
  rw [List.take_of_length_le (by omega)] at HE
  clear h hx
  generalize ents 0 ps = L at *
  go_enter Try.func38, Try.ntmps38
  go_wp2_with (go_at_call 30; refine Calls.mono HE.out ?_; rintro e w9 ⟨v, rfl, hrow, hb9⟩; obtain ⟨ad, cp, rfl, hcp⟩ := hrow.shape)
  have HR : Hid (RowE w9 W.heap.size (.slice ad L.length cp) L) := hrow
  have HB9 : Hid (Below W.heap.size W w9) := hb9
  clear hrow hb9
  go_loopw [4, 5] (fun m i wr => ∃ k : Nat, k ≤ L.length ∧ i = .int .i64 (k : Int) ∧ Or 9 cS wr w9.heap.size m (txs (L.take k)) ∧ Below w9.heap.size w9 wr) (fun m i _ => L.length - (intOf i).toNat)
  case atStart => exact ⟨0, by omega, rfl, Or.nil _ _ _ _, Below.refl _ _⟩
  case round =>
    obtain ⟨k, hk, rfl, ho, hb⟩ := hrel
    have hlk : (txs (L.take k)).length = k := by simp [txs]; omega
    obtain ⟨ad2, cp2, rfl, hcp2⟩ := ho.shape
    rw [hlk] at ho ⊢
    have HO : Hid (wr.ownsRow w9.heap.size 9 1 (.slice ad2 k cp2) k ((txs (L.take k)).map cS) ∧ Below w9.heap.size w9 wr) := by
      have h7 : wr.ownsRow w9.heap.size 9 1 _ (txs (L.take k)).length ((txs (L.take k)).map cS) := ho
      rw [hlk] at h7
      exact ⟨h7, hb⟩
    by_cases hlt : k < L.length
    · have hlt' : (k : Int) < (L.length : Int) := by omega
      have h3 := HR.out.at k hlt
      obtain ⟨g, cap, he, hcc, hg, -, hc1, -⟩ := h3
      simp at he
      obtain ⟨rfl, rfl⟩ := he
      replace hc1 := (hb.cell (cell_lt' hc1)).trans hc1
      have HSn : Hid (txs (L.take (k + 1)) = txs (L.take k) ++ [(L.getD k (0, ByteArray.empty)).2]) := by
        show _ = _
        unfold txs
        rw [List.take_add_one, List.map_append]
        congr 1
        simp [hlt]
      obtain ⟨i0, hi1, hi2, hi3, hi4⟩ : ∃ i0, Try.prog.info? 9 = some i0 ∧ i0.zero = some (.string ⟨#[]⟩) ∧ i0.size = 1 ∧ i0.bytes = 16 := by have h := infoS; revert h; cases Try.prog.info? 9 with | none => intro h; simp at h | some i => intro h; simp at h; exact ⟨i, rfl, h.1, h.2.1, h.2.2⟩
      have HIn : Hid (Try.prog.info? 9 = some i0 ∧ i0.zero = some (.string ⟨#[]⟩) ∧ i0.size = 1 ∧ i0.bytes = 16) := ⟨hi1, hi2, hi3, hi4⟩
      clear hi1 hi2 hi3 hi4 ho hcp2
      generalize (L.getD k (0, ByteArray.empty)).2 = x at *
      have HLk : Hid ((txs (L.take k)).length = k) := hlk
      clear hlk
      have HSrc : Hid (Src Try.prog 1 52 (.slice (some ⟨wr.heap.size, 0, none⟩) 1 1) 1 [cS x] (wr.alloc (.cells #[.string x] 9))) := one_str (Bk.new _ _ _)
      have HRow : Hid ((wr.alloc (.cells #[.string x] 9)).ownsRow w9.heap.size 9 1 (.slice ad2 k cp2) k ((txs (L.take k)).map cS)) := HO.out.1.alloc _
      go_wp2_with (at_builtin; refine wpList_append_src rfl _ _ 52 52 rfl w9.heap.size 9 i0 (.string ⟨#[]⟩) 1 16 Try.underlying52 HIn.out.1 HIn.out.2.1 HIn.out.2.2.1 HIn.out.2.2.2 rfl (.slice ad2 k cp2) (.slice (some ⟨wr.heap.size, 0, none⟩) 1 1) k _ 1 [cS x] rfl rfl HRow.out HSrc.out (by unfold maxLen; omega) (by omega) (by simp; have := HO.out.2.size; omega) ?_; intro v3 w3 hown3 hgr3 hsn3)
      go_roundw
      case rel =>
        refine ⟨k + 1, by omega, by go_num, ?_, ?_⟩
        · show World.ownsRow _ _ _ _ _ _ _
          rw [HSn.out, List.map_append, List.length_append, HLk.out]
          exact hown3
        · exact ((HO.out.2.alloc HO.out.2.size _).grown hgr3 (by simp; have := HO.out.2.size; omega) (fun q hq => (World.ownsRow.lt HRow.out q hq).1))
      case measure => simp [intOf]; omega
    · have hlt' : ¬ (k : Int) < (L.length : Int) := by omega
      have HT : Hid (L.take k = L) := List.take_of_length_le (by omega)
      go_wp2_with fail
      go_ret
      refine ⟨_, rfl, ?_, HB9.out.trans (HO.out.2.mono HB9.out.size)⟩
      have h7 := HO.out.1
      rw [HT.out] at h7 hlk
      have h8 : Or 9 cS wr w9.heap.size (.slice ad2 k cp2) (txs L) := by show World.ownsRow _ _ _ _ _ _ _; rw [hlk]; exact h7
      exact h8.based HB9.out.size
end
end Go.Proofs.Ytjbhegakgdcldaa

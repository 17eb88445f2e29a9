/- Texts joined: TxW Hv7 Frm7 Len. -/
import Derived.Test.YtapjonmgjccpbaaJ0
import Derived.Deep.Light
import Derived.Test.YtapjonmgjccpbaaRows
import Derived.ProofKit
import Derived.OpenShut
import Derived.ShutString
import Derived.ChangeOld
import Derived.JoinedCond
import Derived.Deep.Slices
import Derived.SliceStrings
import Derived.ChangeSlices
import Derived.Lib.BitFns
section
set_option linter.unusedSimpArgs false
set_option linter.unusedVariables false
namespace Go.Proofs.Ytapjonmgjccpbaa
open Go.RowKit

/-! tarnlaw0.TxWeight. -/
/-- Not too much (the second form's own word). -/
structure Fine (t : TX) : Prop where
  hs : t.hs.length ≤ 1048576
  bs : t.bs.length ≤ 1048576
  each : ∀ x ∈ t.bs, x.size ≤ 1048576
/-- So light that the statement looks at it. -/
structure Light7 (t : TX) : Prop where
  hs : t.hs.length ≤ 2000
  bs : t.bs.length ≤ 2000
  each : ∀ x ∈ t.bs, x.size ≤ 2000
def szs (l : List ByteArray) : Nat := (l.map ByteArray.size).sum
theorem szs_take (l : List ByteArray) (k : Nat) (h : k < l.length) : szs (l.take (k + 1)) = szs (l.take k) + (l.getD k ByteArray.empty).size := by
  unfold szs
  rw [List.take_succ_eq_append_getElem h, List.map_append, List.sum_append]
  simp [h]
theorem szs_mem (l : List ByteArray) : ∀ x ∈ l, x.size ≤ szs l := by
  induction l with
  | nil => intro x h; cases h
  | cons y l ih =>
    intro x h
    simp only [szs, List.map_cons, List.sum_cons]
    rcases List.mem_cons.1 h with rfl | h
    · omega
    · have := ih x h; unfold szs at this; omega
set_option maxRecDepth 100000 in
set_option maxHeartbeats 2000000 in
theorem txWeight (t : TX) (aH aB : Option Addr) (cH cB : Nat) (w : World) (hf : Fine t) (hr : RT w t (.slice aH t.hs.length cH) (.slice aB t.bs.length cB)) :
    Calls Try.prog 26 #[.agg (txc t (.slice aH t.hs.length cH) (.slice aB t.bs.length cB))] w fun e w' => (∃ r : Int, e = .returned (.int .i64 r) ∧ (r ≤ 2000 → Light7 t)) ∧ Below w.heap.size w w' := by
  have h1 := hf.hs
  have h2 := hf.bs
  have HF : Hid (Fine t) := hf
  obtain ⟨-, -, -, a, c, e, h⟩ := hr
  simp at e
  obtain ⟨rfl, rfl⟩ := e
  have HA : Hid (∀ i, i < t.bs.length → ∃ b off, aB = some ⟨b, off, none⟩ ∧ w.cell? ⟨b, off + i, none⟩ = some (.string (t.bs.getD i ByteArray.empty))) := h
  clear h hf
  obtain ⟨wr, hwr⟩ : ∃ wr, wr = w.alloc (.cells (txc t (.slice aH t.hs.length cH) (.slice aB t.bs.length cB)) 30) := ⟨_, rfl⟩
  go_enter Try.func26, Try.ntmps26
  go_upto_region 1 with fail
  rw [← hwr]
  have bX : Bk wr w.heap.size (txc t (.slice aH t.hs.length cH) (.slice aB t.bs.length cB)) 30 := by rw [hwr]; exact Bk.new _ _ _
  have hB : Below w.heap.size w wr := by rw [hwr]; exact (Below.refl _ _).alloc (Nat.le_refl _) _
  have HB : Hid (Below w.heap.size w wr) := hB
  clear hwr
  obtain ⟨X, hX⟩ : ∃ X, X = w.heap.size := ⟨_, rfl⟩
  rw [← hX] at bX ⊢
  have x19 := bX.cell 19
  have x20 := bX.cell 20
  simp only [List.getElem?_toArray, List.getElem?_cons_zero, List.getElem?_cons_succ] at x19 x20
  clear hX hB bX
  generalize hn0 : t.hs.length = nh at *
  generalize hn1 : t.bs.length = nb at *
  go_wp2_with fail
  go_loopw [3, 4] (fun n i wq => ∃ k : Nat, k ≤ nb ∧ i = .int .i64 (k : Int) ∧ n = .int .i64 ((1 + nh + nb + szs (t.bs.take k) : Nat) : Int) ∧ 1 + nh + nb + szs (t.bs.take k) ≤ 4194304 ∧ wq = wr) (fun _ i _ => nb - (intOf i).toNat)
  case atStart => exact ⟨0, by omega, rfl, by simp [szs], by simp [szs]; omega, rfl⟩
  case round =>
    obtain ⟨k, hk, rfl, rfl, hle, rfl⟩ := hrel
    by_cases hgo : k < nb ∧ 1 + nh + nb + szs (t.bs.take k) < 1048576
    · obtain ⟨hlt, hsm⟩ := hgo
      have hlt' : (k : Int) < (nb : Int) := by omega
      obtain ⟨b, off, rfl, hc⟩ := HA.out k hlt
      replace hc := (HB.out.cell (cell_lt' hc)).trans hc
      have HS : Hid (szs (t.bs.take (k + 1)) = szs (t.bs.take k) + (t.bs.getD k ByteArray.empty).size) := szs_take t.bs k (by omega)
      have hz : (t.bs.getD k ByteArray.empty).size ≤ 1048576 := by
        have hk' : k < t.bs.length := by omega
        have := HF.out.each _ (List.getElem_mem hk')
        simpa [hk'] using this
      generalize t.bs.getD k ByteArray.empty = s at *
      generalize szs (t.bs.take k) = z at *
      have hsm' : (((1 + nh + nb + z : Nat)) : Int) < 1048576 := by omega
      have hwz : wrap64 (((1 + nh + nb + z : Nat) : Int) + (s.size : Int)) = ((1 + nh + nb + (z + s.size) : Nat) : Int) := by unfold wrap64; omega
      generalize hN : 1 + nh + nb + z = N at *
      go_wp2_with fail
      go_roundw
      case rel => exact ⟨k + 1, by omega, by go_num, by rw [HS.out]; first | rfl | (congr 1; omega), by rw [HS.out]; omega, trivial⟩
      case measure => simp [intOf]; omega
    · have hend : ¬ (k : Int) < (nb : Int) ∨ ((k : Int) < (nb : Int) ∧ ¬ (((1 + nh + nb + szs (t.bs.take k) : Nat)) : Int) < 1048576) := by
        by_cases h : (k : Int) < (nb : Int)
        · exact .inr ⟨h, by omega⟩
        · exact .inl h
      have HE : Hid ((((1 + nh + nb + szs (t.bs.take k) : Nat)) : Int) ≤ 2000 → Light7 t) := fun h => by
        have hkn : ¬ k < nb := fun h' => hgo ⟨h', by omega⟩
        have ek : t.bs.take k = t.bs := List.take_of_length_le (by omega)
        rw [ek] at h
        exact ⟨by omega, by omega, fun x hx => by have := szs_mem t.bs x hx; omega⟩
      clear hgo
      generalize 1 + nh + nb + szs (t.bs.take k) = N at *
      rcases hend with hend | ⟨hend, hend2⟩
      · go_wp2_with fail
        go_ret
        exact ⟨⟨_, rfl, HE.out⟩, HB.out⟩
      · go_wp2_with fail
        go_ret
        exact ⟨⟨_, rfl, HE.out⟩, HB.out⟩
end Go.Proofs.Ytapjonmgjccpbaa
end
section
set_option linter.unusedSimpArgs false
set_option linter.unusedVariables false
namespace Go.Proofs.Ytapjonmgjccpbaa
open Go.RowKit

/-! Questions (tarnlaw7.Ask): a transaction, bytes, a fee; tarnlaw7.heavy, num. -/
abbrev askc (t : TX) (u v : Value) (s : ByteArray) (b : Nat) : Array Value := #[.int .i64 t.fr, .int .i64 t.no,
  .int .u64 (lb t.ti 0), .int .u64 (lb t.ti 1), .int .u64 (lb t.ti 2), .int .u64 (lb t.ti 3),
  .int .u64 (lb t.ca 0), .int .u64 (lb t.ca 1), .int .u64 (lb t.ca 2), .int .u64 (lb t.ca 3),
  .int .u64 (lb t.bc 0), .int .u64 (lb t.bc 1), .int .u64 (lb t.bc 2), .int .u64 (lb t.bc 3),
  .int .u64 (lb t.va 0), .int .u64 (lb t.va 1), .int .u64 (lb t.va 2), .int .u64 (lb t.va 3),
  .int .i64 t.ga, u, v, .string s, .int .u64 (lb b 0), .int .u64 (lb b 1), .int .u64 (lb b 2), .int .u64 (lb b 3)]
/-- A transaction that lies in the midst of a block, loaded. -/
theorem wpList_load_txAt {ops : Array Oper} {rest : List Oper} {op : Oper} {a : Act} {w : World} {Q : Exit → Act → World → Prop} (hgd : op.guard = none) (x : Operand) (ho : op.op = .load 30 x)
    {X o : Nat} (hx : a.eval x = .pointer (some ⟨X, o, none⟩)) {t : TX} {u v : Value} (h : w.rangeAt X o (txc t u v).toList) (hk : wpList Try.prog ops Q rest (a.put op.dst (.agg (txc t u v))) w) : wpList Try.prog ops Q (op :: rest) a w :=
  wpList_load_mid hgd 30 x ho X o hx (txc t u v).toList _ h Try.underlying30 rfl infoT hk
theorem range_ask {w : World} {X : Nat} {ty : TypeId} {t : TX} {u v : Value} {s : ByteArray} {b : Nat} (h : Bk w X (askc t u v s b) ty) : w.rangeAt X 0 (txc t u v).toList := fun j x hx => by
  rw [Nat.zero_add, h.cell]
  have hj : j < 21 := (List.getElem?_eq_some_iff.1 hx).1
  have e : (askc t u v s b)[j]? = (txc t u v).toList[j]? := by
    have : (askc t u v s b).toList = (txc t u v).toList ++ [.string s, .int .u64 (lb b 0), .int .u64 (lb b 1), .int .u64 (lb b 2), .int .u64 (lb b 3)] := rfl
    rw [← Array.getElem?_toList, this, List.getElem?_append_left (by exact hj)]
  rw [e]
  exact hx
theorem num7 (n : Int) (w : World) : Calls Try.prog 13 #[.int .i64 n] w fun e w' => e = .returned (.int .i64 n) ∧ w' = w := by
  go_enter Try.func13, Try.ntmps13
  go_wp2
  go_ret
  exact ⟨rfl, rfl⟩
set_option maxRecDepth 100000 in
set_option maxHeartbeats 2000000 in
theorem heavy7 (t : TX) (aH aB : Option Addr) (cH cB : Nat) (s : ByteArray) (b : Nat) (w : World) (hf : Fine t) (hr : RT w t (.slice aH t.hs.length cH) (.slice aB t.bs.length cB)) :
    Calls Try.prog 10 #[.agg (askc t (.slice aH t.hs.length cH) (.slice aB t.bs.length cB) s b)] w fun e w' => (∃ c : Bool, e = .returned (.bool c) ∧ (c = false → Light7 t ∧ s.size ≤ 5000)) ∧ Below w.heap.size w w' := by
  have HW : Hid (∀ W, Below w.heap.size w W → Calls Try.prog 26 #[.agg (txc t (.slice aH t.hs.length cH) (.slice aB t.bs.length cB))] W fun e w' => (∃ r : Int, e = .returned (.int .i64 r) ∧ (r ≤ 2000 → Light7 t)) ∧ Below W.heap.size W w') := fun W h => txWeight t aH aB cH cB W hf (hr.below h)
  clear hf hr
  obtain ⟨wr, hwr⟩ : ∃ wr, wr = w.alloc (.cells (askc t (.slice aH t.hs.length cH) (.slice aB t.bs.length cB) s b) 32) := ⟨_, rfl⟩
  go_enter Try.func10, Try.ntmps10
  go_upto_region 1 with fail
  rw [← hwr]
  have bX : Bk wr w.heap.size (askc t (.slice aH t.hs.length cH) (.slice aB t.bs.length cB) s b) 32 := by rw [hwr]; exact Bk.new _ _ _
  have HB : Hid (Below w.heap.size w wr) := by show Below _ _ _; rw [hwr]; exact (Below.refl _ _).alloc (Nat.le_refl _) _
  clear hwr
  obtain ⟨X, hX⟩ : ∃ X, X = w.heap.size := ⟨_, rfl⟩
  rw [← hX] at bX ⊢
  clear hX
  have HX : Hid (Bk wr X (askc t (.slice aH t.hs.length cH) (.slice aB t.bs.length cB) s b) 32) := bX
  have lX := bX.lt
  clear bX
  go_wp2_with (refine wpList_load_txAt rfl _ rfl rfl (range_ask HX.out) ?_)
  refine (HW.out _ HB.out).mono ?_
  rintro e w1 ⟨⟨r, rfl, hr⟩, hb1⟩
  have bX1 := HX.out.below hb1 lX
  have HB1 : Hid (Below w.heap.size w w1) := HB.out.trans (hb1.mono HB.out.size)
  have x21 := bX1.cell 21
  simp only [List.getElem?_toArray, List.getElem?_cons_zero, List.getElem?_cons_succ] at x21
  have HR : Hid (r ≤ 2000 → Light7 t) := hr
  clear hr bX1 hb1
  by_cases h : 2000 < r
  · go_wp2_with fail
    go_ret
    exact ⟨⟨true, rfl, fun h => by cases h⟩, HB1.out⟩
  · by_cases hs : s.size ≤ 5000
    · have hs' : ¬ 5000 < (s.size : Int) := by omega
      have HL : Hid (Light7 t ∧ s.size ≤ 5000) := ⟨HR.out (by omega), hs⟩
      go_wp2_with fail
      go_ret
      exact ⟨⟨false, by first | rfl | (show Ending.returned (.bool (decide (2000 < r) || decide (5000 < (s.size : Int)))) = _; rw [decide_eq_false (show ¬ 2000 < r by omega), decide_eq_false (show ¬ 5000 < (s.size : Int) by omega)]; rfl), fun _ => HL.out⟩, HB1.out⟩
    · have hs' : 5000 < (s.size : Int) := by omega
      go_wp2_with fail
      go_ret
      exact ⟨⟨true, rfl, fun h => by cases h⟩, HB1.out⟩
end Go.Proofs.Ytapjonmgjccpbaa
end
section
set_option linter.unusedSimpArgs false
set_option linter.unusedVariables false
set_option maxRecDepth 100000
namespace Go.Proofs.Ytapjonmgjccpbaa
open Go.ChangeShapes Go.WideShapes Go.ChangeAt Go.RowKit Go.Deep

/-! Lists of questions (tarnlaw7.Ask) that came in. -/
structure Q7 where
  t : TX
  s : ByteArray
  b : Nat
structure Q7w (q : Q7) : Prop where
  t : TXw q.t
  s : q.s.size ≤ maxLen
  b : q.b < M256
def Sq7 (w : World) (v : Value) (qs : List Q7) : Prop :=
  qs.length ≤ 9223372036854775807 ∧ ∃ ad cap, v = .slice ad qs.length cap ∧ ∀ i (hi : i < qs.length), ∃ b off, ad = some ⟨b, off, none⟩ ∧ ∃ aH cH aB cB,
    w.rangeAt b (off + i * 26) (askc qs[i].t (.slice aH qs[i].t.hs.length cH) (.slice aB qs[i].t.bs.length cB) qs[i].s qs[i].b).toList ∧
    RT w qs[i].t (.slice aH qs[i].t.hs.length cH) (.slice aB qs[i].t.bs.length cB) ∧ Q7w qs[i]
def Small7 (qs : List Q7) : Prop := ∀ q ∈ qs, Fine q.t ∧ q.s.size ≤ 1048576
theorem own : ownKnob Try.prog.godebug = none := by kernel_rfl
theorem laidOut : laidOutB Try.prog = true := by kernel_rfl
theorem cellsAsk7 : Try.prog.cellsOf 32 = 26 := by kernel_rfl
theorem cellsTx7 : Try.prog.cellsOf 30 = 21 := by kernel_rfl
theorem cells9 : Try.prog.cellsOf 9 = 1 := by kernel_rfl
theorem cells3 : Try.prog.cellsOf 3 = 1 := by kernel_rfl
theorem cellsU : Try.prog.cellsOf 24 = 1 := by kernel_rfl
theorem cells24 : Try.prog.cellsOf 24 = 1 := by kernel_rfl
theorem cells26 : Try.prog.cellsOf 26 = 4 := by kernel_rfl
theorem cellsSu : Try.prog.cellsOf 27 = 1 := by kernel_rfl
theorem cellsSs : Try.prog.cellsOf 28 = 1 := by kernel_rfl
def four7 (n : Nat) : List Value := [.int .u64 (lb n 0), .int .u64 (lb n 1), .int .u64 (lb n 2), .int .u64 (lb n 3)]
theorem addr_zero (a : Addr) : a.add 0 = a := by unfold Addr.add; split <;> simp_all
theorem bulk_at {H : Type} : ∀ (l : List (DataW H)) (i : Nat) (h : i < l.length), Rows.uptoBulk l[i] ≤ Rows.uptoBulkAll l := by
  intro l
  induction l with
  | nil => intro i h; simp at h
  | cons d l ih =>
    intro i h
    simp only [Rows.uptoBulkAll]
    cases i with
    | zero => simp
    | succ j => have := ih j (by simpa using h); simp; omega
theorem bulk_pos {H : Type} (d : DataW H) : 1 ≤ Rows.uptoBulk d := by
  cases d with
  | lit l => cases l <;> simp [Rows.uptoBulk]
  | _ => simp [Rows.uptoBulk]
theorem bulk_len {H : Type} : ∀ (l : List (DataW H)), l.length ≤ Rows.uptoBulkAll l
  | [] => by simp
  | d :: l => by have := bulk_len l; have := bulk_pos d; simp only [Rows.uptoBulkAll, List.length_cons]; omega
theorem u64_wf {x : Int} (h : (Lit.int .u64 x).wf = true) : 0 ≤ x ∧ x < 18446744073709551616 := by
  have := bounds_u64 h
  omega
/-- A number out of four7 cells that read as an array of four7 limbs. -/
theorem num_of_trod {H : Type} {enc : TypeId × Value → H} {W : World} {base : Nat} {spare : Nat → Bool} {held : Bool} {n : Nat} {cs : List Value} {x : DataW H × List MemPlace}
    (h : DataW.trod enc Try.prog W base spare held n 26 cs = some x) : ∃ m, m < M256 ∧ cs = four7 m := by
  obtain ⟨xs, k, _, _, hlen, hxl, hel⟩ := DataW.trod_array Try.underlying26 h
  rw [cells26] at hlen
  simp only [cells24, Nat.mul_one] at hel
  have one : ∀ i, i < 4 → ∃ q : Int, cs[i]? = some (.int .u64 q) ∧ 0 ≤ q ∧ q < 18446744073709551616 := by
    intro i hi
    have hx := hel i hi
    have hg : xs[i]? = some xs[i] := List.getElem?_eq_getElem (by omega)
    rw [hg] at hx
    obtain ⟨q, e0, _, wq⟩ := DataW.trod_int Try.underlying24 hx
    have hb := u64_wf wq
    refine ⟨q, ?_, hb⟩
    have e1 := congrArg (fun l : List Value => l[0]?) e0
    simpa [List.getElem?_take, List.getElem?_drop] using e1
  obtain ⟨q0, c0, b0⟩ := one 0 (by omega)
  obtain ⟨q1, c1, b1⟩ := one 1 (by omega)
  obtain ⟨q2, c2, b2⟩ := one 2 (by omega)
  obtain ⟨q3, c3, b3⟩ := one 3 (by omega)
  obtain ⟨m, hm, hv, _⟩ := V_of q0 q1 q2 q3 ⟨b0, b1, b2, b3⟩
  refine ⟨m, hm, ?_⟩
  have e : cs = [.int .u64 q0, .int .u64 q1, .int .u64 q2, .int .u64 q3] := by
    apply List.ext_getElem?
    intro i
    have : i = 0 ∨ i = 1 ∨ i = 2 ∨ i = 3 ∨ 4 ≤ i := by omega
    rcases this with rfl | rfl | rfl | rfl | h4
    · rw [c0]; rfl
    · rw [c1]; rfl
    · rw [c2]; rfl
    · rw [c3]; rfl
    · rw [List.getElem?_eq_none (by omega), List.getElem?_eq_none (by simp; omega)]
  rw [e]
  simp only [V, Value.agg.injEq] at hv
  simp only [four7]
  simpa using hv
section
variable {H : Type} {enc : TypeId × Value → H} {W : World} {spare : Nat → Bool} {held : Bool}
theorem ss_of_trod {fuel : Nat} {v : Value} {x : DataW H × List MemPlace}
    (h : DataW.trod enc Try.prog W 0 spare held fuel 28 [v] = some x) : ∃ f len a c, v = .slice a len c ∧ Ss W v f len ∧ (∀ i, i < len → (f i).size ≤ Rows.uptoBulk x.1) ∧ len ≤ Rows.uptoBulk x.1 := by
  rcases open_strings Try.underlying28 Try.underlying9 cells9 h with ⟨hc, _⟩ | ⟨a, len, cap, ss, hc, _, hl, hm, hz, hx, hcell, hws⟩
  · simp at hc
    exact ⟨fun _ => ByteArray.empty, 0, none, 0, hc, ⟨by simp [maxLen], fun i hi => absurd hi (by omega), none, 0, hc, fun i hi => absurd hi (by omega)⟩, fun i hi => absurd hi (by omega), by omega⟩
  · simp at hc
    subst hc
    have hle : len ≤ ss.length := by rw [hz]; split <;> omega
    refine ⟨fun i => ss.getD i ByteArray.empty, len, _, _, rfl, ⟨by omega, fun i hi => ?_, some a, cap, rfl, fun i hi => ?_⟩, fun i hi => ?_, ?_⟩
    · apply hws
      show ss.getD i ByteArray.empty ∈ ss
      rw [List.getD_eq_getElem?_getD, List.getElem?_eq_getElem (by omega)]
      exact List.getElem_mem _
    · obtain ⟨b, off, spot⟩ := a
      have h1 := hcell i (by omega)
      have h0 := hcell 0 (by omega)
      have hspot : spot = none := by
        have h9 : W.cell? ⟨b, off, spot⟩ = some (.string (ss.getD 0 ByteArray.empty)) := by simpa [Addr.add] using h0
        exact World.cell?_spot h9
      subst hspot
      refine ⟨b, off, rfl, ?_⟩
      have hadd : (⟨b, off, none⟩ : Addr).add i = ⟨b, off + i, none⟩ := by unfold Addr.add; split <;> simp_all
      rw [hadd] at h1
      exact h1
    · rw [hx]
      simp only [Rows.uptoBulk]
      have hlt : i < (strs (H := H) (ss.take len)).length := by simp [strs]; omega
      have := bulk_at (strs (H := H) (ss.take len)) i hlt
      have e : (strs (H := H) (ss.take len))[i] = .lit (.string (ss.getD i ByteArray.empty).data.toList) := by
        simp [strs, List.getD_eq_getElem?_getD, List.getElem?_eq_getElem (show i < ss.length by omega)]
      rw [e] at this
      simp only [Rows.uptoBulk] at this
      have e2 : (ss.getD i ByteArray.empty).data.toList.length = (ss.getD i ByteArray.empty).size := rfl
      omega
    · rw [hx]
      simp only [Rows.uptoBulk]
      have := bulk_len (strs (H := H) (ss.take len))
      have e : (strs (H := H) (ss.take len)).length = len := by simp [strs]; omega
      omega
theorem su_of_trod {fuel : Nat} {v : Value} {x : DataW H × List MemPlace}
    (h : DataW.trod enc Try.prog W 0 spare held fuel 27 [v] = some x) : ∃ g len a c, v = .slice a len c ∧ Su W v g len ∧ len ≤ Rows.uptoBulk x.1 := by
  rcases open_ints Try.underlying27 Try.underlying24 cellsU h with ⟨hc, _⟩ | ⟨a, len, cap, zs, hc, _, hl, hm, hz, hx, hcell, hws⟩
  · simp at hc
    exact ⟨fun _ => 0, 0, none, 0, hc, ⟨by simp [maxLen], fun i hi => absurd hi (by omega), none, 0, hc, fun i hi => absurd hi (by omega)⟩, by omega⟩
  · simp at hc
    subst hc
    have hle : len ≤ zs.length := by rw [hz]; split <;> omega
    have hb : ∀ i, i < len → 0 ≤ zs.getD i 0 ∧ zs.getD i 0 < 18446744073709551616 := fun i hi => by
      have hm : zs.getD i 0 ∈ zs := by
        rw [List.getD_eq_getElem?_getD, List.getElem?_eq_getElem (by omega)]
        exact List.getElem_mem _
      have := hws _ hm
      generalize zs.getD i 0 = z at *
      simp [Lit.wf, IntKind.min, IntKind.max, IntKind.bits, IntKind.signed] at this
      omega
    refine ⟨fun i => (zs.getD i 0).toNat, len, _, _, rfl, ⟨by omega, fun i hi => ?_, some a, cap, rfl, fun i hi => ?_⟩, ?_⟩
    · have := hb i hi
      show (zs.getD i 0).toNat < _
      omega
    · obtain ⟨b, off, spot⟩ := a
      have h1 := hcell i (by omega)
      have h0 := hcell 0 (by omega)
      have hspot : spot = none := by
        have h9 : W.cell? ⟨b, off, spot⟩ = some (.int .u64 (zs.getD 0 0)) := by simpa [Addr.add] using h0
        exact World.cell?_spot h9
      subst hspot
      refine ⟨b, off, rfl, ?_⟩
      have hadd : (⟨b, off, none⟩ : Addr).add i = ⟨b, off + i, none⟩ := by unfold Addr.add; split <;> simp_all
      rw [hadd] at h1
      rw [h1]
      show some (Value.int .u64 (zs.getD i 0)) = some (.int .u64 ((zs.getD i 0).toNat : Int))
      rw [Int.toNat_of_nonneg (hb i hi).1]
    · rw [hx]
      simp only [Rows.uptoBulk]
      have := bulk_len (lits (H := H) .u64 (zs.take len))
      have e : (lits (H := H) .u64 (zs.take len)).length = len := by simp [lits]; omega
      omega
theorem i64_bd {k : Int} (h : (Lit.int .i64 k).wf = true) : -9223372036854775808 ≤ k ∧ k ≤ 9223372036854775807 := by
  simp [Lit.wf, IntKind.min, IntKind.max, IntKind.bits, IntKind.signed] at h
  omega
theorem map_getD {β : Type} (f : Nat → β) (d : β) (n i : Nat) (h : i < n) : ((List.range n).map f).getD i d = f i := by
  simp [List.getD, h]
theorem tx_of_trod {n : Nat} {cs : List Value} {y : DataW H × List MemPlace} (h : DataW.trod enc Try.prog W 0 spare held n 30 cs = some y) :
    ∃ t aH cH aB cB, cs = (txc t (.slice aH t.hs.length cH) (.slice aB t.bs.length cB)).toList ∧ TXw t ∧ RT W t (.slice aH t.hs.length cH) (.slice aB t.bs.length cB) ∧ t.hs.length ≤ Rows.uptoBulk y.1 ∧ t.bs.length ≤ Rows.uptoBulk y.1 ∧ ∀ x ∈ t.bs, x.size ≤ Rows.uptoBulk y.1 := by
  obtain ⟨xs, m, _, e1, hcl, hxl, hf⟩ := DataW.trod_struct Try.underlying30 h
  rw [cellsTx7] at hcl
  obtain ⟨x0, x1, x2, x3, x4, x5, x6, x7, x8, rfl⟩ : ∃ a b c d e f g h i, xs = [a, b, c, d, e, f, g, h, i] := by
    have : xs.length = 9 := hxl
    match xs, this with
    | [a, b, c, d, e, f, g, h, i], _ => exact ⟨a, b, c, d, e, f, g, h, i, rfl⟩
  have f0 : DataW.trod enc Try.prog W 0 spare held m 3 ((cs.drop 0).take (Try.prog.cellsOf 3)) = some x0 := hf 0 _ rfl
  have f1 : DataW.trod enc Try.prog W 0 spare held m 3 ((cs.drop 1).take (Try.prog.cellsOf 3)) = some x1 := hf 1 _ rfl
  have f2 : DataW.trod enc Try.prog W 0 spare held m 26 ((cs.drop 2).take (Try.prog.cellsOf 26)) = some x2 := hf 2 _ rfl
  have f3 : DataW.trod enc Try.prog W 0 spare held m 26 ((cs.drop 6).take (Try.prog.cellsOf 26)) = some x3 := hf 3 _ rfl
  have f4 : DataW.trod enc Try.prog W 0 spare held m 26 ((cs.drop 10).take (Try.prog.cellsOf 26)) = some x4 := hf 4 _ rfl
  have f5 : DataW.trod enc Try.prog W 0 spare held m 26 ((cs.drop 14).take (Try.prog.cellsOf 26)) = some x5 := hf 5 _ rfl
  have f6 : DataW.trod enc Try.prog W 0 spare held m 3 ((cs.drop 18).take (Try.prog.cellsOf 3)) = some x6 := hf 6 _ rfl
  have f7 : DataW.trod enc Try.prog W 0 spare held m 27 ((cs.drop 19).take (Try.prog.cellsOf 27)) = some x7 := hf 7 _ rfl
  have f8 : DataW.trod enc Try.prog W 0 spare held m 28 ((cs.drop 20).take (Try.prog.cellsOf 28)) = some x8 := hf 8 _ rfl
  rw [cells3] at f0 f1 f6
  rw [cells26] at f2 f3 f4 f5
  rw [cellsSu] at f7
  rw [cellsSs] at f8
  obtain ⟨v19, v20, hv19, hv20⟩ : ∃ a b, (cs.drop 19).take 1 = [a] ∧ (cs.drop 20).take 1 = [b] := by
    refine ⟨cs[19]'(by omega), cs[20]'(by omega), ?_, ?_⟩
    · rw [List.drop_eq_getElem_cons (by omega)]; rfl
    · rw [List.drop_eq_getElem_cons (by omega)]; rfl
  obtain ⟨k0, e0, _, w0⟩ := DataW.trod_int Try.underlying3 f0
  obtain ⟨k1, e10, _, w1⟩ := DataW.trod_int Try.underlying3 f1
  obtain ⟨k6, e6, _, w6⟩ := DataW.trod_int Try.underlying3 f6
  obtain ⟨n2, b2, e2⟩ := num_of_trod f2
  obtain ⟨n3, b3, e3⟩ := num_of_trod f3
  obtain ⟨n4, b4, e4⟩ := num_of_trod f4
  obtain ⟨n5, b5, e5⟩ := num_of_trod f5
  rw [hv19] at f7
  rw [hv20] at f8
  obtain ⟨g, hl, aH, cH, rfl, hsu, bk7⟩ := su_of_trod f7
  obtain ⟨f, bn, aB, cB, rfl, hss, bk8, bl8⟩ := ss_of_trod f8
  have eb : Rows.uptoBulk y.1 = Rows.uptoBulk x0.1 + (Rows.uptoBulk x1.1 + (Rows.uptoBulk x2.1 + (Rows.uptoBulk x3.1 + (Rows.uptoBulk x4.1 + (Rows.uptoBulk x5.1 + (Rows.uptoBulk x6.1 + (Rows.uptoBulk x7.1 + (Rows.uptoBulk x8.1 + 0)))))))) + 1 := by rw [e1]; simp [Rows.uptoBulk, Rows.uptoBulkAll]
  have lh : ((List.range hl).map g).length = hl := by simp
  have lbn : ((List.range bn).map f).length = bn := by simp
  obtain ⟨su1, su2, su3⟩ := hsu
  obtain ⟨ss1, ss2, ss3⟩ := hss
  refine ⟨⟨k0, k1, n2, n3, n4, n5, k6, (List.range hl).map g, (List.range bn).map f⟩, aH, cH, aB, cB, ?_, ⟨b2, b3, b4, b5, i64_bd w0, i64_bd w1, i64_bd w6, fun x hx => ?_, fun x hx => ?_⟩, ⟨?_, ?_⟩, ?_, ?_, fun x hx => ?_⟩
  · show cs = (txc _ (.slice aH ((List.range hl).map g).length cH) (.slice aB ((List.range bn).map f).length cB)).toList
    rw [lh, lbn]
    have e : cs = [.int .i64 k0] ++ ([.int .i64 k1] ++ (four7 n2 ++ (four7 n3 ++ (four7 n4 ++ (four7 n5 ++ ([.int .i64 k6] ++ ([.slice aH hl cH] ++ [.slice aB bn cB]))))))) := by
      rw [← e0, ← e10, ← e2, ← e3, ← e4, ← e5, ← e6, ← hv19, ← hv20]
      apply List.ext_getElem?
      intro i
      by_cases hi : i < 21
      · simp only [List.getElem?_append, List.length_take, List.length_drop, hcl, List.getElem?_take, List.getElem?_drop]
        have : i = 0 ∨ i = 1 ∨ i = 2 ∨ i = 3 ∨ i = 4 ∨ i = 5 ∨ i = 6 ∨ i = 7 ∨ i = 8 ∨ i = 9 ∨ i = 10 ∨ i = 11 ∨ i = 12 ∨ i = 13 ∨ i = 14 ∨ i = 15 ∨ i = 16 ∨ i = 17 ∨ i = 18 ∨ i = 19 ∨ i = 20 := by omega
        rcases this with rfl | rfl | rfl | rfl | rfl | rfl | rfl | rfl | rfl | rfl | rfl | rfl | rfl | rfl | rfl | rfl | rfl | rfl | rfl | rfl | rfl <;> simp
      · rw [List.getElem?_eq_none (by omega), List.getElem?_eq_none (by simp; omega)]
    rw [e]
    rfl
  · obtain ⟨i, hi, rfl⟩ := List.mem_map.1 hx
    exact su2 i (by simpa using hi)
  · obtain ⟨i, hi, rfl⟩ := List.mem_map.1 hx
    exact ss2 i (by simpa using hi)
  · show Su W (.slice aH ((List.range hl).map g).length cH) (fun i => ((List.range hl).map g).getD i 0) ((List.range hl).map g).length
    rw [lh]
    exact ⟨su1, fun i hi => by show ((List.range hl).map g).getD i 0 < _; rw [map_getD g 0 hl i hi]; exact su2 i hi, by obtain ⟨a, c, h1, h2⟩ := su3; exact ⟨a, c, h1, fun i hi => by obtain ⟨b, off, h3, h4⟩ := h2 i hi; refine ⟨b, off, h3, ?_⟩; show _ = some (Value.int .u64 ((((List.range hl).map g).getD i 0 : Nat) : Int)); rw [map_getD g 0 hl i hi]; exact h4⟩⟩
  · show Ss W (.slice aB ((List.range bn).map f).length cB) (fun i => ((List.range bn).map f).getD i ByteArray.empty) ((List.range bn).map f).length
    rw [lbn]
    exact ⟨ss1, fun i hi => by show (((List.range bn).map f).getD i ByteArray.empty).size ≤ _; rw [map_getD f _ bn i hi]; exact ss2 i hi, by obtain ⟨a, c, h1, h2⟩ := ss3; exact ⟨a, c, h1, fun i hi => by obtain ⟨b, off, h3, h4⟩ := h2 i hi; refine ⟨b, off, h3, ?_⟩; show _ = some (Value.string (((List.range bn).map f).getD i ByteArray.empty)); rw [map_getD f _ bn i hi]; exact h4⟩⟩
  · show ((List.range hl).map g).length ≤ _
    rw [lh]; omega
  · show ((List.range bn).map f).length ≤ _
    rw [lbn]; omega
  · obtain ⟨i, hi, rfl⟩ := List.mem_map.1 hx
    have := bk8 i (by simpa using hi)
    omega
theorem ask_of_trod {n : Nat} {cs : List Value} {y : DataW H × List MemPlace} (h : DataW.trod enc Try.prog W 0 spare held n 32 cs = some y) :
    ∃ q : Q7, ∃ aH cH aB cB, cs = (askc q.t (.slice aH q.t.hs.length cH) (.slice aB q.t.bs.length cB) q.s q.b).toList ∧ Q7w q ∧ RT W q.t (.slice aH q.t.hs.length cH) (.slice aB q.t.bs.length cB) ∧ q.t.hs.length ≤ Rows.uptoBulk y.1 ∧ q.t.bs.length ≤ Rows.uptoBulk y.1 ∧ (∀ x ∈ q.t.bs, x.size ≤ Rows.uptoBulk y.1) ∧ q.s.size ≤ Rows.uptoBulk y.1 := by
  obtain ⟨xs, m, _, e1, hcl, hxl, hf⟩ := DataW.trod_struct Try.underlying32 h
  rw [cellsAsk7] at hcl
  obtain ⟨x0, x1, x2, rfl⟩ : ∃ a b c, xs = [a, b, c] := by
    have : xs.length = 3 := hxl
    match xs, this with
    | [a, b, c], _ => exact ⟨a, b, c, rfl⟩
  have f0 : DataW.trod enc Try.prog W 0 spare held m 30 ((cs.drop 0).take (Try.prog.cellsOf 30)) = some x0 := hf 0 _ rfl
  have f1 : DataW.trod enc Try.prog W 0 spare held m 9 ((cs.drop 21).take (Try.prog.cellsOf 9)) = some x1 := hf 1 _ rfl
  have f2 : DataW.trod enc Try.prog W 0 spare held m 26 ((cs.drop 22).take (Try.prog.cellsOf 26)) = some x2 := hf 2 _ rfl
  rw [cellsTx7] at f0
  rw [cells9] at f1
  rw [cells26] at f2
  obtain ⟨t, aH, cH, aB, cB, e0, hw, hr, l1, l2, l3⟩ := tx_of_trod f0
  obtain ⟨s, es, exs, hss⟩ := DataW.trod_string Try.underlying9 f1
  obtain ⟨n2, b2, e2⟩ := num_of_trod f2
  have eb : Rows.uptoBulk y.1 = Rows.uptoBulk x0.1 + (Rows.uptoBulk x1.1 + (Rows.uptoBulk x2.1 + 0)) + 1 := by rw [e1]; simp [Rows.uptoBulk, Rows.uptoBulkAll]
  have hbs : s.size ≤ Rows.uptoBulk x1.1 := by
    rw [exs]
    simp only [Rows.uptoBulk]
    have e2 : s.data.toList.length = s.size := rfl
    omega
  refine ⟨⟨t, s, n2⟩, aH, cH, aB, cB, ?_, ⟨hw, hss, b2⟩, hr, by show t.hs.length ≤ _; omega, by show t.bs.length ≤ _; omega, fun x hx => by have := l3 x hx; omega, by show s.size ≤ _; omega⟩
  have e : cs = (txc t (.slice aH t.hs.length cH) (.slice aB t.bs.length cB)).toList ++ ([.string s] ++ four7 n2) := by
    rw [← e0, ← es, ← e2]
    apply List.ext_getElem?
    intro i
    by_cases hi : i < 26
    · simp only [List.getElem?_append, List.length_take, List.length_drop, hcl, List.getElem?_take, List.getElem?_drop]
      by_cases h1 : i < 21
      · simp [h1]
      · by_cases h2 : i < 22
        · have : i = 21 := by omega
          subst this
          simp
        · have : i = 22 ∨ i = 23 ∨ i = 24 ∨ i = 25 := by omega
          rcases this with rfl | rfl | rfl | rfl <;> simp
    · rw [List.getElem?_eq_none (by omega), List.getElem?_eq_none (by simp; omega)]
  rw [e]
  rfl
theorem asks7_of_trod {n : Nat} {v : Value} {y : DataW H × List MemPlace} (h : DataW.trod enc Try.prog W 0 spare held n 22 [v] = some y) : ∃ qs, Sq7 W v qs ∧ (Rows.uptoBulk y.1 ≤ 1048576 → Small7 qs) := by
  rcases DataW.trod_slice Try.underlying22 h with ⟨hc, hy⟩ | ⟨a, len, cap, elems, rest, k, rfl, hc, rfl, hb, hl, hm, hlen, hel, -, -⟩
  · simp at hc
    subst hc
    exact ⟨[], ⟨by simp, none, 0, rfl, fun i hi => by simp at hi⟩, fun _ q hq => by cases hq⟩
  · simp at hc
    subst hc
    rw [cellsAsk7] at hel
    have one : ∀ i, ∃ q : Q7 × (Option Addr × Nat) × (Option Addr × Nat), (h : i < len) → (∀ j, j < 26 → W.cell? ((a.add (i * 26)).add j) = (askc q.1.t (.slice q.2.1.1 q.1.t.hs.length q.2.1.2) (.slice q.2.2.1 q.1.t.bs.length q.2.2.2) q.1.s q.1.b).toList[j]?) ∧ Q7w q.1 ∧ RT W q.1.t (.slice q.2.1.1 q.1.t.hs.length q.2.1.2) (.slice q.2.2.1 q.1.t.bs.length q.2.2.2) ∧
        (Rows.uptoBulk (elems[i]'(by omega)).1 ≤ 1048576 → Fine q.1.t ∧ q.1.s.size ≤ 1048576) := by
      intro i
      by_cases hi : i < len
      · have h1 := hel i hi
        rw [List.getElem?_eq_getElem (by omega)] at h1
        obtain ⟨cs, h2, h3⟩ := Option.bind_eq_some_iff.1 h1
        obtain ⟨_, _, h4⟩ := World.cells?_some h2
        obtain ⟨q, aH, cH, aB, cB, e, hw, hr, l1, l2, l3, l4⟩ := ask_of_trod h3
        refine ⟨(q, (aH, cH), (aB, cB)), fun _ => ⟨fun j hj => ?_, hw, hr, fun hbk => ⟨⟨by show q.t.hs.length ≤ _; omega, by show q.t.bs.length ≤ _; omega, fun x hx => by have := l3 x hx; omega⟩, by show q.s.size ≤ _; omega⟩⟩⟩
        rw [h4 j hj, e]
      · exact ⟨(⟨⟨0, 0, 0, 0, 0, 0, 0, [], []⟩, ⟨#[]⟩, 0⟩, (none, 0), (none, 0)), fun h' => absurd h' hi⟩
    obtain ⟨f, hf⟩ : ∃ f : Nat → Q7 × (Option Addr × Nat) × (Option Addr × Nat), ∀ i (h : i < len), (∀ j, j < 26 → W.cell? ((a.add (i * 26)).add j) = (askc (f i).1.t (.slice (f i).2.1.1 (f i).1.t.hs.length (f i).2.1.2) (.slice (f i).2.2.1 (f i).1.t.bs.length (f i).2.2.2) (f i).1.s (f i).1.b).toList[j]?) ∧ Q7w (f i).1 ∧ RT W (f i).1.t (.slice (f i).2.1.1 (f i).1.t.hs.length (f i).2.1.2) (.slice (f i).2.2.1 (f i).1.t.bs.length (f i).2.2.2) ∧
        (Rows.uptoBulk (elems[i]'(by omega)).1 ≤ 1048576 → Fine (f i).1.t ∧ (f i).1.s.size ≤ 1048576) := ⟨fun i => Classical.choose (one i), fun i h => Classical.choose_spec (one i) h⟩
    refine ⟨(List.range len).map fun i => (f i).1, ⟨by simp; unfold maxLen at hm; omega, some a, cap, by simp, fun i hi => ?_⟩, fun hbk q hq => ?_⟩
    · simp only [List.length_map, List.length_range] at hi
      obtain ⟨b, off, spot⟩ := a
      have hspot : spot = none := by
        have := (hf 0 (by omega)).1 0 (by omega)
        simp only [Nat.zero_mul, addr_zero] at this
        exact World.cell?_spot this
      subst hspot
      obtain ⟨h0, h1, h2, _⟩ := hf i hi
      simp only [Addr.add_lit] at h0
      simp only [List.getElem_map, List.getElem_range]
      exact ⟨b, off, rfl, _, _, _, _, fun j x hx => (h0 j (List.getElem?_eq_some_iff.1 hx).1).trans hx, h2, h1⟩
    · simp only [List.mem_map, List.mem_range] at hq
      obtain ⟨i, hi, rfl⟩ := hq
      refine (hf i hi).2.2.2 ?_
      have := bulk_at (elems.map (·.1)) i (by simp; omega)
      simp only [List.getElem_map] at this
      simp only [Rows.uptoBulk] at hbk
      omega
end
end Go.Proofs.Ytapjonmgjccpbaa
end
section
set_option linter.unusedSimpArgs false
set_option linter.unusedVariables false
namespace Go.Proofs.Ytapjonmgjccpbaa
open Go.RowKit

theorem tab_get (y : Int) (h : y.toNat < Lib.len8tab.size) : ((Lib.len8tab[y.toNat]'h).toNat : Int) = Lib.len8 y := by
  unfold Lib.len8
  rw [getElem?_pos Lib.len8tab y.toNat h]
  rfl
theorem wr1 (k a b : Nat) (hk : k ≤ 56) (ha : a ≤ 8) (hb : b = k + a) : wrap64 ((k : Int) + wrap64 (a : Int)) = (b : Int) := by
  unfold wrap64; omega
theorem wr2 (a : Nat) (ha : a ≤ 8) : wrap64 (wrap64 (a : Int)) = (a : Int) := by
  unfold wrap64; omega
theorem wr3 (a : Nat) (ha : a ≤ 8) : wrap64 (a : Int) = (a : Int) := by
  unfold wrap64; omega
theorem tab_size : (Lib.len8tab.size : Int) = 256 := by rw [Lib.len8tab_size]; rfl
set_option maxHeartbeats 4000000 in
set_option maxRecDepth 100000 in
theorem len64 (x : Int) (w : World) (h0 : 0 ≤ x) (h1 : x ≤ 18446744073709551615) :
    Calls Try.prog 116 #[.int .u64 x] w fun e w' => e = .returned (.int .i64 (Lib.bitLen x.toNat)) ∧ w' = w := by
  go_enter Try.func116, Try.ntmps116
  go_wp2
  all_goals first
    | (go_ret; refine ⟨congrArg Ending.returned (congrArg (Value.int IntKind.i64) ?_), rfl⟩; go_light)
    | (exfalso; go_light; have hs := tab_size; omega)
  all_goals first
    | (rw [tab_get (x / 4294967296 / 65536 / 256) _, Lib.len8_of (x / 4294967296 / 65536 / 256) (by omega) (by omega)]; have e : (x / 4294967296 / 65536 / 256).toNat = x.toNat / 72057594037927936 := by omega
       have l := Lib.bitLen_le8' (x / 4294967296 / 65536 / 256) (by omega) (by omega)
       have s := Lib.bitLen_shift56 x.toNat (by omega) (by omega)
       rw [e] at l ⊢
       exact wr1 56 _ _ (by omega) l s)
    | (rw [tab_get (x / 4294967296 / 65536) _, Lib.len8_of (x / 4294967296 / 65536) (by omega) (by omega)]; have e : (x / 4294967296 / 65536).toNat = x.toNat / 281474976710656 := by omega
       have l := Lib.bitLen_le8' (x / 4294967296 / 65536) (by omega) (by omega)
       have s := Lib.bitLen_shift48 x.toNat (by omega) (by omega)
       rw [e] at l ⊢
       exact wr1 48 _ _ (by omega) l s)
    | (rw [tab_get (x / 4294967296 / 256) _, Lib.len8_of (x / 4294967296 / 256) (by omega) (by omega)]; have e : (x / 4294967296 / 256).toNat = x.toNat / 1099511627776 := by omega
       have l := Lib.bitLen_le8' (x / 4294967296 / 256) (by omega) (by omega)
       have s := Lib.bitLen_shift40 x.toNat (by omega) (by omega)
       rw [e] at l ⊢
       exact wr1 40 _ _ (by omega) l s)
    | (rw [tab_get (x / 4294967296) _, Lib.len8_of (x / 4294967296) (by omega) (by omega)]; have e : (x / 4294967296).toNat = x.toNat / 4294967296 := by omega
       have l := Lib.bitLen_le8' (x / 4294967296) (by omega) (by omega)
       have s := Lib.bitLen_shift32 x.toNat (by omega) (by omega)
       rw [e] at l ⊢
       exact wr1 32 _ _ (by omega) l s)
    | (rw [tab_get (x / 65536 / 256) _, Lib.len8_of (x / 65536 / 256) (by omega) (by omega)]; have e : (x / 65536 / 256).toNat = x.toNat / 16777216 := by omega
       have l := Lib.bitLen_le8' (x / 65536 / 256) (by omega) (by omega)
       have s := Lib.bitLen_shift24 x.toNat (by omega) (by omega)
       rw [e] at l ⊢
       exact wr1 24 _ _ (by omega) l s)
    | (rw [tab_get (x / 65536) _, Lib.len8_of (x / 65536) (by omega) (by omega)]; have e : (x / 65536).toNat = x.toNat / 65536 := by omega
       have l := Lib.bitLen_le8' (x / 65536) (by omega) (by omega)
       have s := Lib.bitLen_shift16 x.toNat (by omega) (by omega)
       rw [e] at l ⊢
       exact wr1 16 _ _ (by omega) l s)
    | (rw [tab_get (x / 256) _, Lib.len8_of (x / 256) (by omega) (by omega)]; have e : (x / 256).toNat = x.toNat / 256 := by omega
       have l := Lib.bitLen_le8' (x / 256) (by omega) (by omega)
       have s := Lib.bitLen_shift8 x.toNat (by omega) (by omega)
       rw [e] at l ⊢
       exact wr1 8 _ _ (by omega) l s)
    | (rw [tab_get x _, Lib.len8_of x (by omega) (by omega)]; have l := Lib.bitLen_le8' x (by omega) (by omega)
       first | exact wr2 _ l | exact wr3 _ l)
/-- How many bits a number has. -/
def bl (n : Nat) : Nat := if n = 0 then 0 else Nat.log2 n + 1
theorem bitLen_bl (x : Nat) (h : x < 18446744073709551616) : Lib.bitLen x = bl x := by
  induction x using Nat.strongRecOn with
  | ind x ih =>
    by_cases hx : x = 0
    · subst hx; rfl
    · rw [Lib.bitLen_half x hx h, ih (x / 2) (by omega) (by omega)]
      unfold bl
      rw [if_neg hx]
      by_cases h2 : x / 2 = 0
      · have : x = 1 := by omega
        subst this; rfl
      · rw [if_neg h2]
        have : Nat.log2 x = Nat.log2 (x / 2) + 1 := by
          rw [Nat.log2_def x, if_pos (by omega)]
        omega
theorem bl_iff (n k : Nat) : bl n ≤ k ↔ n < 2 ^ k := by
  unfold bl
  split
  · next h => subst h; have := Nat.two_pow_pos k; omega
  · next h => rw [Nat.add_one_le_iff]; exact Nat.log2_lt h
theorem bl_add (k a b : Nat) (ha : a ≠ 0) (hb : b < 2 ^ k) : bl (b + 2 ^ k * a) = k + bl a := by
  apply Nat.le_antisymm
  · rw [bl_iff]
    have h2 := (bl_iff a (bl a)).1 (Nat.le_refl _)
    rw [Nat.pow_add]
    have h3 : a + 1 ≤ 2 ^ bl a := h2
    have h4 : 2 ^ k * (a + 1) ≤ 2 ^ k * 2 ^ bl a := Nat.mul_le_mul_left _ h3
    rw [Nat.mul_add] at h4
    omega
  · apply Nat.le_of_not_lt
    intro hlt
    have hpos : bl a ≠ 0 := by unfold bl; rw [if_neg ha]; omega
    have h5 : bl (b + 2 ^ k * a) ≤ k + (bl a - 1) := by omega
    rw [bl_iff, Nat.pow_add] at h5
    have h6 : ¬ bl a ≤ bl a - 1 := by omega
    rw [bl_iff] at h6
    have h7 : 2 ^ k * 2 ^ (bl a - 1) ≤ 2 ^ k * a := Nat.mul_le_mul_left _ (by omega)
    omega
end Go.Proofs.Ytapjonmgjccpbaa
end

/- Texts joined: Hts Byt ItS TxE By7a. -/
import Derived.Test.YtapjonmgjccpbaaJ18
import Derived.Test.YtapjonmgjccpbaaJ5
import Derived.Test.YtapjonmgjccpbaaJ7
import Derived.Test.YtapjonmgjccpbaaJ17
import Derived.Test.YtapjonmgjccpbaaJ14
import Derived.Test.YtapjonmgjccpbaaNbs
import Derived.Test.YtapjonmgjccpbaaJ16
section
set_option linter.unusedSimpArgs false
set_option linter.unusedVariables false
set_option maxRecDepth 100000
namespace Go.Proofs.Ytapjonmgjccpbaa
open Go.RowKit Go.Shelf
attribute [local go_sem] Oper.semAt_some

/-! tx.hashTexts and slices.Values, as sequences of texts. -/
/-- A slice, held in a block of its own, in blocks below N. -/
def Rows7 {β : Type} (cv : β → Value) (l : List β) (a : Option Addr) (c Bh N : Nat) (w : World) : Prop :=
  Bh < N ∧ w.cell? ⟨Bh, 0, none⟩ = some (.slice a l.length c) ∧ ∀ i (hi : i < l.length), ∃ b off, a = some ⟨b, off, none⟩ ∧ b < N ∧ w.cell? ⟨b, off + i, none⟩ = some (cv l[i])
theorem Rows7.below {β : Type} {cv : β → Value} {l : List β} {a : Option Addr} {c Bh N : Nat} {w w' : World} (h : Rows7 cv l a c Bh N w) (hb : Below w.heap.size w w') : Rows7 cv l a c Bh N w' := by
  obtain ⟨h1, h2, h3⟩ := h
  refine ⟨h1, (hb.cell (cell_lt' h2)).trans h2, fun i hi => ?_⟩
  obtain ⟨b, off, ha, hn, hc⟩ := h3 i hi
  exact ⟨b, off, ha, hn, (hb.cell (cell_lt' hc)).trans hc⟩
theorem Rows7.keep {β : Type} {cv : β → Value} {l : List β} {a : Option Addr} {c Bh N : Nat} {w w' : World} (h : Rows7 cv l a c Bh N w) (hk : KpI N w w') : Rows7 cv l a c Bh N w' := by
  obtain ⟨h1, h2, h3⟩ := h
  refine ⟨h1, (World.cell?_of_block (hk.1 _ h1)).trans h2, fun i hi => ?_⟩
  obtain ⟨b, off, ha, hn, hc⟩ := h3 i hi
  exact ⟨b, off, ha, hn, (World.cell?_of_block (hk.1 _ hn)).trans hc⟩
def cU7 (m : Nat) : Value := .int .u64 (m : Int)
def cS7 (s : ByteArray) : Value := .string s
def mkT8 (m : Nat) : ByteArray := ⟨(mbs m).toArray⟩
theorem hashTexts_any (a : Option Addr) (n c : Nat) (w : World) : Calls Try.prog 53 #[.slice a n c] w fun e w' => e = .returned (.func (.func 83) #[] #[.pointer (some ⟨w.heap.size, 0, none⟩)]) ∧ w' = w.alloc (.cells #[.slice a n c] 27) := by
  go_enter Try.func53, Try.ntmps53
  go_wp2
  go_ret
  exact ⟨rfl, rfl⟩
set_option maxHeartbeats 2000000 in
theorem hashTexts_seq (l : List Nat) (a : Option Addr) (c Bh N : Nat) (w : World) (hl : l.length ≤ 1000000) (hm : ∀ x ∈ l, x < 18446744073709551616) (hP : Rows7 cU7 l a c Bh N w) :
    Texts 83 #[.pointer (some ⟨Bh, 0, none⟩)] (l.map mkT8) N w := by
  intro lp J Jx W hbW hJ hJx hY h0
  have hP := hP.below hbW
  have HY : Hid (∀ pre x A0 A, J pre A0 → Below A0.heap.size A0 A → pre.length < (l.map mkT8).length → YieldAt Fence.wide 4 Try.prog lp (senc x) A fun e B => (e = .returned (.bool true) ∧ J (pre ++ [x]) B ∧ KpI N A B) ∨ (e = .returned (.bool false) ∧ Jx (pre ++ [x]) B)) := hY
  have HP : Hid (Rows7 cU7 l a c Bh N W) := hP
  have hc0 := hP.2.1
  clear hY hJ hJx hbW hP
  show CallsIn Fence.wide 5 Try.prog 83 #[.func (.yield lp) #[] #[], .pointer (some ⟨Bh, 0, none⟩)] W _
  refine callsIn_of_wp Try.func83 rfl trivial ?_ rfl
  simp only [Try.ntmps83, List.size_toArray, List.length_cons, List.length_nil, Nat.reduceAdd, Nat.reduceSub, Array.replicate_succ, Array.replicate_zero, List.push_toArray, List.append_toArray, List.nil_append, List.cons_append]
  gi_wp2
  gi_loopw [7] (fun i wr => ∃ j : Nat, j ≤ l.length ∧ i = .int .i64 (j : Int) ∧ Hid (Rows7 cU7 l a c Bh N wr) ∧ J ((l.take j).map mkT8) wr) (fun i _ => l.length - (intOf i).toNat)
  case atStart => exact ⟨0, Nat.zero_le _, rfl, HP.out, h0⟩
  case round =>
    clear hc0 h0
    obtain ⟨j, hj, rfl, HR, hJk⟩ := hrel
    by_cases hlt : j < l.length
    · have hlt' : (j : Int) < (l.length : Int) := by omega
      obtain ⟨b, off, rfl, hbN, hc⟩ := HR.out.2.2 j hlt
      simp only [cU7] at hc
      have HT : Hid ((l.take (j + 1)).map mkT8 = (l.take j).map mkT8 ++ [mkT8 l[j]]) := by
        show _ = _
        rw [List.take_succ_eq_append_getElem hlt, List.map_append]; rfl
      have HLt : Hid (((l.take j).map mkT8).length < (l.map mkT8).length) := by show _ < _; simp; omega
      have HMt : Hid (∀ w, Calls Try.prog 84 #[.int .u64 (l[j] : Int)] w fun e w' => e = .returned (.string (mkT8 l[j])) ∧ Below w.heap.size w w') := fun w => mtext l[j] (hm _ (List.getElem_mem hlt)) w
      generalize l[j] = x at *
      gi_wp2_with (refine ⟨trivial, ?_⟩; gi_at_call 84; refine (callsIn_wide.2 (HMt.out _)).mono ?_; rintro e w2 ⟨rfl, hb2⟩)
      have HR2 : Hid (Rows7 cU7 l (some ⟨b, off, none⟩) c Bh N w2) := HR.out.below hb2
      obtain ⟨fn, tmps, assign, body, hy, hR⟩ := HY.out _ (mkT8 x) wr w2 hJk hb2 HLt.out
      simp only [senc] at hy
      rw [hy]
      gi_wp2
      refine hR.mono ?_
      clear hR hy
      rintro e W3 (⟨rfl, hJ3, hk3⟩ | ⟨rfl, hJx3⟩)
      · gi_wp2
        go_roundw
        case rel => exact ⟨j + 1, by omega, by go_num, (HR2.out.keep hk3), by rw [HT.out]; exact hJ3⟩
        case measure => simp [intOf]; omega
      · gi_wp2
        refine bodyPost_ret (results_none rfl _ _ _) rfl ?_
        exact ⟨⟨_, rfl⟩, .inr ⟨_, trivial, hJx3⟩⟩
    · have hlt' : ¬ (j : Int) < (l.length : Int) := by omega
      obtain rfl : j = l.length := by omega
      gi_wp2
      go_end0
      rw [List.take_length] at hJk
      refine ⟨⟨_, rfl⟩, .inl ?_⟩
      first | exact hJk | exact ⟨_, rfl, hJk⟩ | (simp only [List.map_id'] at hJk; exact hJk)
theorem values_any (a : Option Addr) (n c : Nat) (w : World) : Calls Try.prog 54 #[.slice a n c] w fun e w' => e = .returned (.func (.func 85) #[] #[.pointer (some ⟨w.heap.size, 0, none⟩)]) ∧ w' = w.alloc (.cells #[.slice a n c] 28) := by
  go_enter Try.func54, Try.ntmps54
  go_wp2
  go_ret
  exact ⟨rfl, rfl⟩
set_option maxHeartbeats 2000000 in
theorem values_seq (l : List ByteArray) (a : Option Addr) (c Bh N : Nat) (w : World) (hl : l.length ≤ 1000000) (hP : Rows7 cS7 l a c Bh N w) :
    Texts 85 #[.pointer (some ⟨Bh, 0, none⟩)] (l.map (fun s => s)) N w := by
  intro lp J Jx W hbW hJ hJx hY h0
  have hP := hP.below hbW
  have HY : Hid (∀ pre x A0 A, J pre A0 → Below A0.heap.size A0 A → pre.length < (l.map (fun s => s)).length → YieldAt Fence.wide 4 Try.prog lp (senc x) A fun e B => (e = .returned (.bool true) ∧ J (pre ++ [x]) B ∧ KpI N A B) ∨ (e = .returned (.bool false) ∧ Jx (pre ++ [x]) B)) := hY
  have HP : Hid (Rows7 cS7 l a c Bh N W) := hP
  have hc0 := hP.2.1
  clear hY hJ hJx hbW hP
  show CallsIn Fence.wide 5 Try.prog 85 #[.func (.yield lp) #[] #[], .pointer (some ⟨Bh, 0, none⟩)] W _
  refine callsIn_of_wp Try.func85 rfl trivial ?_ rfl
  simp only [Try.ntmps85, List.size_toArray, List.length_cons, List.length_nil, Nat.reduceAdd, Nat.reduceSub, Array.replicate_succ, Array.replicate_zero, List.push_toArray, List.append_toArray, List.nil_append, List.cons_append]
  gi_wp2
  gi_loopw [7] (fun i wr => ∃ j : Nat, j ≤ l.length ∧ i = .int .i64 (j : Int) ∧ Hid (Rows7 cS7 l a c Bh N wr) ∧ J ((l.take j).map (fun s => s)) wr) (fun i _ => l.length - (intOf i).toNat)
  case atStart => exact ⟨0, Nat.zero_le _, rfl, HP.out, h0⟩
  case round =>
    clear hc0 h0
    obtain ⟨j, hj, rfl, HR, hJk⟩ := hrel
    by_cases hlt : j < l.length
    · have hlt' : (j : Int) < (l.length : Int) := by omega
      obtain ⟨b, off, rfl, hbN, hc⟩ := HR.out.2.2 j hlt
      simp only [cS7] at hc
      have HT : Hid ((l.take (j + 1)).map (fun s => s) = (l.take j).map (fun s => s) ++ [l[j]]) := by
        show _ = _
        rw [List.take_succ_eq_append_getElem hlt, List.map_append]; rfl
      have HLt : Hid (((l.take j).map (fun s => s)).length < (l.map (fun s => s)).length) := by show _ < _; simp; omega
      generalize l[j] = x at *
      have HR2 : Hid (Rows7 cS7 l (some ⟨b, off, none⟩) c Bh N wr) := HR
      obtain ⟨fn, tmps, assign, body, hy, hR⟩ := HY.out _ x wr wr hJk (Below.refl _ _) HLt.out
      simp only [senc] at hy
      gi_wp2
      refine hR.mono ?_
      clear hR hy
      rintro e W3 (⟨rfl, hJ3, hk3⟩ | ⟨rfl, hJx3⟩)
      · gi_wp2
        go_roundw
        case rel => exact ⟨j + 1, by omega, by go_num, (HR2.out.keep hk3), by rw [HT.out]; exact hJ3⟩
        case measure => simp [intOf]; omega
      · gi_wp2
        refine bodyPost_ret (results_none rfl _ _ _) rfl ?_
        exact ⟨⟨_, rfl⟩, .inr ⟨_, trivial, hJx3⟩⟩
    · have hlt' : ¬ (j : Int) < (l.length : Int) := by omega
      obtain rfl : j = l.length := by omega
      gi_wp2
      go_end0
      rw [List.take_length] at hJk
      refine ⟨⟨_, rfl⟩, .inl ?_⟩
      first | exact hJk | exact ⟨_, rfl, hJk⟩ | (simp only [List.map_id'] at hJk; exact hJk)
end Go.Proofs.Ytapjonmgjccpbaa
end
section
set_option linter.unusedSimpArgs false
set_option linter.unusedVariables false
namespace Go.Proofs.Ytapjonmgjccpbaa
open Go.RowKit

/-! item.Bytes, item.Check, tarnlaw4.wakes by contract. -/
def ItOk (a : IT) : Prop := a.pd ≤ 16 ∧ a.raw.length ≤ 65536
instance (a : IT) : Decidable (ItOk a) := inferInstanceAs (Decidable (_ ∧ _))
theorem wrOk_nil (a : IT) : WrOk a 0 [] ↔ ItOk a := by simp [WrOk, ItOk]
def BytQ (a : IT) (w : World) (e : Ending) (w' : World) : Prop :=
  ((ItOk a ∧ e = .returned (.tuple #[.string ⟨a.raw.toArray⟩, .int .i64 0])) ∨ (¬ ItOk a ∧ e = .returned (.tuple #[.string ⟨#[]⟩, .int .i64 1]))) ∧ Below w.heap.size w w'
theorem write0 (n : Nat) (a : IT) (ad : Option Addr) (l c : Nat) (w : World) (o : Obj) (hr : Rd w n a.items (.slice ad l c)) (hw : a.wt ≤ 1152921504606846976) :
    Calls Try.prog 86 #[.slice none 0 0, .agg #[.bool a.list, .string a.text, .slice ad l c], .int .i64 0] (w.alloc o) fun e w' => ((ItOk a ∧ ∃ v, e = .returned (.tuple #[v, .int .i64 0]) ∧ Ow w' w.heap.size v a.raw) ∨ (¬ ItOk a ∧ e = .returned (.tuple #[.slice none 0 0, .int .i64 1]))) ∧ Below w.heap.size w w' := by
  have hp := (hr.below ((Below.refl _ w).alloc (Nat.le_refl _) o)).P
  have hz : (w.alloc o).heap.size = w.heap.size + 1 := by simp
  rw [hz] at hp
  refine (write n a ad l c (w.alloc o) 0 (.slice none 0 0) [] (w.heap.size + 1) (w.heap.size + 1) hp hw (Ow.nil _ _) (Nat.le_refl _) (by omega) (by simp) (by omega)).mono ?_
  rintro e w' ⟨h, hg⟩
  have hb : Below w.heap.size w w' := ((Below.refl _ w).alloc (Nat.le_refl _) o).trans (grown_below hg (by omega) (fun k hk => by simp [Value.ownBlock] at hk))
  refine ⟨?_, hb⟩
  rcases h with ⟨v, rfl, hO, _, hok⟩ | ⟨rfl, hno⟩
  · refine .inl ⟨(wrOk_nil a).1 hok, v, rfl, ?_⟩
    rw [List.nil_append] at hO
    rcases hO.2 with h | ⟨g, cap, cur, hv, h1, h2⟩
    · exact ⟨hO.1, .inl h⟩
    · exact ⟨hO.1, .inr ⟨g, cap, cur, hv, by omega, h2⟩⟩
  · exact .inr ⟨fun h => hno ((wrOk_nil a).2 h), rfl⟩
set_option maxRecDepth 100000 in
theorem bytes (n : Nat) (a : IT) (ad : Option Addr) (l c : Nat) (w : World) (hr : Rd w n a.items (.slice ad l c)) (hw : a.wt ≤ 1152921504606846976) :
    Calls Try.prog 55 #[.agg #[.bool a.list, .string a.text, .slice ad l c]] w (BytQ a w) := by
  have HC := fun o => write0 n a ad l c w o hr hw
  have HC' : Hid (∀ o, _) := HC
  clear HC hr
  go_enter Try.func55, Try.ntmps55
  go_wp2_with fail
  refine (HC'.out _).mono ?_
  rintro e w1 ⟨(⟨hok, v, rfl, hO⟩ | ⟨hno, rfl⟩), hb⟩
  · have hs := hO.string
    go_wp2_with fail
    go_ret2
    exact ⟨.inl ⟨hok, rfl⟩, hb⟩
  · have hs := (Ow.nil w1 0).string
    go_wp2_with fail
    go_ret2
    exact ⟨.inr ⟨hno, rfl⟩, hb⟩
def ckE (a : IT) : Int := if ItOk a then 0 else 1
end Go.Proofs.Ytapjonmgjccpbaa
end
section
set_option linter.unusedSimpArgs false
set_option linter.unusedVariables false
namespace Go.Proofs.Ytapjonmgjccpbaa
open Go.RowKit

/-! item.Bytes, as one answer. -/
def itS (a : IT) : ByteArray := if ItOk a then st a.raw else st []
theorem st_nil : st [] = (⟨#[]⟩ : ByteArray) := rfl
theorem bytes' (n : Nat) (a : IT) (ad : Option Addr) (l c : Nat) (w : World) (hr : Rd w n a.items (.slice ad l c)) (hw : a.wt ≤ 1152921504606846976) :
    Calls Try.prog 55 #[.agg #[.bool a.list, .string a.text, .slice ad l c]] w fun e w' => e = .returned (.tuple #[.string (itS a), .int .i64 (ckE a)]) ∧ Below w.heap.size w w' := by
  refine (bytes n a ad l c w hr hw).mono ?_
  rintro e w' ⟨(⟨hok, rfl⟩ | ⟨hno, rfl⟩), hb⟩
  · exact ⟨by rw [itS, ckE, if_pos hok, if_pos hok]; rfl, hb⟩
  · exact ⟨by rw [itS, ckE, if_neg hno, if_neg hno]; rfl, hb⟩
end Go.Proofs.Ytapjonmgjccpbaa
end
section
set_option linter.unusedSimpArgs false
set_option linter.unusedVariables false
namespace Go.Proofs.Ytapjonmgjccpbaa
open Go.RowKit

/-! A transaction that may be, as an item: it may be too. -/
theorem fit_facts (t : TX) (h : fitT t = 0) : 1 ≤ t.bs.length ∧ t.bs.length ≤ 4 ∧ t.hs.length = t.bs.length ∧ ∀ x ∈ t.bs, x.size ≤ 64 := by
  unfold fitT fitE at h
  split at h
  · next hc =>
    have h4 : (1 : Int) ≤ t.bs.length ∧ (t.bs.length : Int) ≤ 4 := by simpa [cnts] using hc.1
    refine ⟨by omega, by omega, hc.2, fun x hx => ?_⟩
    split at h
    · omega
    · next hb =>
      obtain ⟨i, hi, rfl⟩ := List.getElem_of_mem hx
      have hm : (t.hs.getD i 0, t.bs.getD i ByteArray.empty) ∈ prs (fun i => t.hs.getD i 0) (fun i => t.bs.getD i ByteArray.empty) t.bs.length := by
        simp only [prs, List.mem_map, List.mem_range]
        exact ⟨i, hi, rfl⟩
      have e : t.bs.getD i ByteArray.empty = t.bs[i] := by simp [hi]
      refine Nat.le_of_not_lt fun hlt => hb (List.any_eq_true.2 ⟨_, hm, ?_⟩)
      show decide (64 < (t.bs.getD i ByteArray.empty).size) = true
      rw [e]
      exact decide_eq_true hlt
  · omega
theorem nT_size (n : Nat) (h : n < M256) : (nT n).size ≤ 32 := by
  have := tlen_le n h
  have e : (nT n).size = (tnums n).length := by unfold nT strOfNums ByteArray.size; simp
  rw [e, tnums_length]
  exact this
theorem txt_raw (s : ByteArray) (h : s.size ≤ 1048576) : (txtI s).raw.length ≤ s.size + 9 := by
  have e : (txtI s).raw = traw s.data.toList := by rw [IT.raw, if_neg (by simp)]
  have e2 : s.data.toList.length = s.size := Array.length_toList
  rw [e]
  unfold traw
  split
  · omega
  · rw [List.length_append]
    have := hd_le 128 s.data.toList.length (by omega)
    omega
theorem raws_all (l : List IT) (B : Nat) (h : ∀ x ∈ l, x.raw.length ≤ B) : (IT.raws l).length ≤ l.length * B := by
  induction l with
  | nil => simp [IT.raws]
  | cons x l ih =>
    simp only [IT.raws, List.length_append, List.length_cons]
    have h1 := h x (by simp)
    have h2 := ih fun y hy => h y (by simp [hy])
    rw [Nat.add_mul]
    omega
theorem txts_pd {β : Type} (l : List β) (f : β → ByteArray) : IT.pds (l.map fun m => txtI (f m)) = 0 := by
  induction l with
  | nil => simp [IT.pds]
  | cons x l ih => simp only [List.map_cons, IT.pds, ih, IT.pd]; simp
theorem wts_all (l : List IT) (B : Nat) (h : ∀ x ∈ l, x.wt ≤ B) : IT.wts l ≤ l.length * B := by
  induction l with
  | nil => simp [IT.wts]
  | cons x l ih =>
    simp only [IT.wts, List.length_cons]
    have h1 := h x (by simp)
    have h2 := ih fun y hy => h y (by simp [hy])
    rw [Nat.add_mul]
    omega
structure TxN (t : TX) : Prop where
  f : t.fr.toNat < M256
  n : t.no.toNat < M256
  g : t.ga.toNat < M256
theorem txI_ok (t : TX) (h : TxOk t) (hw : TXw t) : ItOk (txI t) ∧ (txI t).wt ≤ 10000 := by
  obtain ⟨h1, h4, hl, h64⟩ := fit_facts t h.2.2.2.2.1
  have hf := nT_size t.fr.toNat (by have := h.1.2; unfold M256; omega)
  have hn := nT_size t.no.toNat (by have := h.2.1.2; unfold M256; omega)
  have hg := nT_size t.ga.toNat (by have := h.2.2.1.2; unfold M256; omega)
  have hti := nT_size t.ti hw.ti
  have hca := nT_size t.ca hw.ca
  have hbc := nT_size t.bc hw.bc
  have hva := nT_size t.va hw.va
  have hp1 : IT.pds (hsI t) = 0 := txts_pd _ _
  have hp2 : IT.pds (bsI t) = 0 := txts_pd _ (fun b => b)
  have hr1 : (IT.raws (hsI t)).length ≤ (hsI t).length * 17 := raws_all _ _ fun x hx => by
    simp only [hsI, List.mem_map] at hx
    obtain ⟨m, _, rfl⟩ := hx
    have := txt_raw ⟨(mbs m).toArray⟩ (by show (mbs m).length ≤ _; rw [mbs_length]; omega)
    have e : (⟨(mbs m).toArray⟩ : ByteArray).size = 8 := mbs_length m
    omega
  have hr2 : (IT.raws (bsI t)).length ≤ (bsI t).length * 73 := raws_all _ _ fun x hx => by
    simp only [bsI, List.mem_map] at hx
    obtain ⟨b, hb, rfl⟩ := hx
    have := h64 b hb
    have := txt_raw b (by omega)
    omega
  have hw1 : IT.wts (hsI t) ≤ (hsI t).length * 9 := wts_all _ _ fun x hx => by
    simp only [hsI, List.mem_map] at hx
    obtain ⟨m, _, rfl⟩ := hx
    have e : (⟨(mbs m).toArray⟩ : ByteArray).size = 8 := mbs_length m
    simp only [IT.wt, IT.wts, e]
    omega
  have hw2 : IT.wts (bsI t) ≤ (bsI t).length * 65 := wts_all _ _ fun x hx => by
    simp only [bsI, List.mem_map] at hx
    obtain ⟨b, hb, rfl⟩ := hx
    have := h64 b hb
    simp only [IT.wt, IT.wts]
    omega
  have l1 : (hsI t).length = t.hs.length := by simp [hsI]
  have l2 : (bsI t).length = t.bs.length := by simp [bsI]
  rw [l1, hl] at hr1 hw1
  rw [l2] at hr2 hw2
  have b1 : t.bs.length * 17 ≤ 68 := by omega
  have b2 : t.bs.length * 73 ≤ 292 := by omega
  have b3 : t.bs.length * 9 ≤ 36 := by omega
  have b4 : t.bs.length * 65 ≤ 260 := by omega
  have q1 := txt_raw _ (show (nT t.fr.toNat).size ≤ 1048576 by omega)
  have q2 := txt_raw _ (show (nT t.no.toNat).size ≤ 1048576 by omega)
  have q3 := txt_raw _ (show (nT t.ti).size ≤ 1048576 by omega)
  have q4 := txt_raw _ (show (nT t.ca).size ≤ 1048576 by omega)
  have q5 := txt_raw _ (show (nT t.bc).size ≤ 1048576 by omega)
  have q6 := txt_raw _ (show (nT t.va).size ≤ 1048576 by omega)
  have q7 := txt_raw _ (show (nT t.ga.toNat).size ≤ 1048576 by omega)
  have e0 : (⟨#[]⟩ : ByteArray).size = 0 := rfl
  have d1 : (IT.mk true ⟨#[]⟩ (hsI t)).raw.length ≤ 77 := by
    rw [raw_list, List.length_append]
    have := hd_le 192 (IT.raws (hsI t)).length (by omega)
    omega
  have d2 : (IT.mk true ⟨#[]⟩ (bsI t)).raw.length ≤ 301 := by
    rw [raw_list, List.length_append]
    have := hd_le 192 (IT.raws (bsI t)).length (by omega)
    omega
  refine ⟨⟨?_, ?_⟩, ?_⟩
  · simp only [txI, IT.pd, IT.pds, hp1, hp2, e0]
    simp
  · unfold txI
    rw [raw_list, List.length_append]
    have hs : (IT.raws [txtI (nT t.fr.toNat), txtI (nT t.no.toNat), txtI (nT t.ti), txtI (nT t.ca), txtI (nT t.bc), txtI (nT t.va), txtI (nT t.ga.toNat), .mk true ⟨#[]⟩ (hsI t), .mk true ⟨#[]⟩ (bsI t)]).length ≤ 1000 := by
      rw [IT.raws, IT.raws, IT.raws, IT.raws, IT.raws, IT.raws, IT.raws, IT.raws, IT.raws, IT.raws]
      simp only [List.length_append, List.length_nil]
      omega
    have := hd_le 192 _ (show (IT.raws [txtI (nT t.fr.toNat), txtI (nT t.no.toNat), txtI (nT t.ti), txtI (nT t.ca), txtI (nT t.bc), txtI (nT t.va), txtI (nT t.ga.toNat), .mk true ⟨#[]⟩ (hsI t), .mk true ⟨#[]⟩ (bsI t)]).length < 18446744073709551616 by omega)
    omega
  · simp only [txI, IT.wt, IT.wts, e0]
    omega
end Go.Proofs.Ytapjonmgjccpbaa
end
section
set_option linter.unusedSimpArgs false
set_option linter.unusedVariables false
set_option maxRecDepth 100000
namespace Go.Proofs.Ytapjonmgjccpbaa
open Go.RowKit Go.Shelf

/-! tx.Bytes. -/
theorem two_src {w : World} {g : Nat} {a b c x y z : Value} (hb : Bk w g #[a, b, c, x, y, z] 70) (h1 : a.oneCell' = true) (h2 : b.oneCell' = true) (h3 : c.oneCell' = true) (h4 : x.oneCell' = true) (h5 : y.oneCell' = true) (h6 : z.oneCell' = true) : Src Try.prog 3 68 (.slice (some ⟨g, 0, none⟩) 2 2) 2 [a, b, c, x, y, z] w := by
  refine Src.ofSlice w Try.underlying68 ⟨g, 0, none⟩ 2 2 [a, b, c, x, y, z] rfl (fun j u hj => ?_) (fun u hu => ?_)
  · rw [Addr.add_lit, Nat.zero_add, hb.cell]
    rw [List.getElem?_toArray]
    exact hj
  · simp at hu
    rcases hu with rfl | rfl | rfl | rfl | rfl | rfl <;> assumption
/-- The nine items, in a row of the call's own. -/
theorem rd_all {W : World} {base g cap : Nat} {t : TX} {ps : List (IT × Value)} {a b : Option Addr} {c d n m : Nat} (hf : ps.map Prod.fst = [txtI (nT t.fr.toNat), txtI (nT t.no.toNat), txtI (nT t.ti), txtI (nT t.ca), txtI (nT t.bc), txtI (nT t.va), txtI (nT t.ga.toNat)])
    (hp : ∀ p ∈ ps, ∃ a c, p.2 = .slice a 0 c) (hown : W.ownsRow base 70 3 (.slice (some ⟨g, 0, none⟩) 9 cap) 9 (icells ps ++ [.bool true, .string ⟨#[]⟩, .slice a n c, .bool true, .string ⟨#[]⟩, .slice b m d])) (h1 : Rd W 2 (hsI t) (.slice a n c)) (h2 : Rd W 2 (bsI t) (.slice b m d)) : Rd W 3 (txI t).items (.slice (some ⟨g, 0, none⟩) 9 cap) := by
  have hl : ps.length = 7 := by have := congrArg List.length hf; simpa using this
  have hcl := icells_length ps
  have hrow : ∀ j, j < 27 → W.cell? ⟨g, j, none⟩ = (icells ps ++ [.bool true, .string ⟨#[]⟩, .slice a n c, .bool true, .string ⟨#[]⟩, .slice b m d])[j]? := fun j hj => World.ownsRow.cellAt hown j (by omega)
  refine ⟨by simp [txI, IT.items], some ⟨g, 0, none⟩, cap, rfl, fun i hi => ⟨g, 0, rfl, ?_⟩⟩
  have hi9 : i < 9 := hi
  by_cases h7 : i < 7
  · have hi' : i < ps.length := by omega
    obtain ⟨i0, i1, i2⟩ := icells_at ps i hi'
    obtain ⟨av, cv, hv⟩ := hp ps[i] (List.getElem_mem hi')
    have he : ps[i].1 = (txI t).items[i] := by
      have e1 : (ps.map Prod.fst)[i]'(by simpa using hi') = ps[i].1 := by simp
      rw [← e1]
      simp only [hf]
      have : i = 0 ∨ i = 1 ∨ i = 2 ∨ i = 3 ∨ i = 4 ∨ i = 5 ∨ i = 6 := by omega
      rcases this with rfl | rfl | rfl | rfl | rfl | rfl | rfl <;> rfl
    have hit : (txI t).items[i].items = [] := by
      have : i = 0 ∨ i = 1 ∨ i = 2 ∨ i = 3 ∨ i = 4 ∨ i = 5 ∨ i = 6 := by omega
      rcases this with rfl | rfl | rfl | rfl | rfl | rfl | rfl <;> rfl
    rw [he] at i0 i1
    rw [hv] at i2
    refine ⟨.slice av 0 cv, ?_, ?_, ?_, ⟨_, _, _, rfl⟩, ?_⟩
    · rw [Nat.zero_add, hrow _ (by omega), List.getElem?_append_left (by omega)]; exact i0
    · rw [Nat.zero_add, hrow _ (by omega), List.getElem?_append_left (by omega)]; exact i1
    · rw [Nat.zero_add, hrow _ (by omega), List.getElem?_append_left (by omega)]; exact i2
    · have hr : Rd W 2 [] (.slice av 0 cv) := ⟨by simp, av, cv, rfl, fun i hi => by simp at hi⟩
      have := hit.symm ▸ hr
      exact this
  · have : i = 7 ∨ i = 8 := by omega
    rcases this with rfl | rfl
    · refine ⟨_, ?_, ?_, ?_, ⟨_, _, _, rfl⟩, h1⟩ <;> (rw [Nat.zero_add, hrow _ (by omega), List.getElem?_append_right (by omega), hcl, hl]; rfl)
    · refine ⟨_, ?_, ?_, ?_, ⟨_, _, _, rfl⟩, h2⟩ <;> (rw [Nat.zero_add, hrow _ (by omega), List.getElem?_append_right (by omega), hcl, hl]; rfl)
/-- A list that tx.list has made. -/
def MkL (B : Nat) (W' : World) (its : List IT) (ad : Option Addr) (n c : Nat) (ps : List (IT × Value)) : Prop := ps.map Prod.fst = its ∧ n = its.length ∧ Bld W' B 1 (.slice ad n c) ps
theorem MkL.nil2 {B n c : Nat} {W : World} {ss : List ByteArray} {ad : Option Addr} {ps : List (IT × Value)} (h : MkL B W (ss.map txtI) ad n c ps) : ∀ p ∈ ps, ∃ a c, p.2 = .slice a 0 c := fun p hp => by
  obtain ⟨h1, h2, h3⟩ := h
  have hm : p.1 ∈ ss.map txtI := by rw [← h1]; exact List.mem_map_of_mem hp
  obtain ⟨s, _, e⟩ := List.mem_map.1 hm
  obtain ⟨m, hnm, ad', cap', e2, -, -⟩ := (h3.each p hp).2.rd.at
  have e3 : p.1.items = [] := by rw [← e]; rfl
  rw [e3] at e2
  exact ⟨ad', cap', e2⟩
theorem numList (t : TX) (X f n g : Nat) (u v : Value) (w : World) (bX : Bk w X (txc t u v) 30) (hw : TXw t) (hf : t.fr = (f : Int)) (hn : t.no = (n : Int)) (hg : t.ga = (g : Int)) (hf2 : f ≤ 9223372036854775807) (hn2 : n ≤ 9223372036854775807) (hg2 : g ≤ 9223372036854775807) :
    Calls Try.prog 51 #[.func (.func 80) #[] #[.pointer (some ⟨X, 0, none⟩)]] w fun e w' => (∃ ad c ps, e = .returned (.agg #[.bool true, .string ⟨#[]⟩, .slice ad 7 c]) ∧ MkL (w.heap.size + 2) w' (((nms t f n g).map nT).map txtI) ad 7 c ps) ∧ Below w.heap.size w w' := by
  refine (list7 _ _ ((nms t f n g).map nT) w (enters_of Try.func80 rfl rfl) (by simp [nms]) (fun W hW => numbers_seq t u v X f n g w.heap.size W (bX.below hW bX.lt) hw hf hn hg hf2 hn2 hg2)).mono ?_
  rintro e w' ⟨⟨ad, c, ps, rfl, h1, h2⟩, hb⟩
  exact ⟨⟨ad, c, ps, rfl, h1, rfl, h2⟩, hb⟩
theorem hashList (l : List Nat) (a : Option Addr) (c B : Nat) (w : World) (hl : l.length ≤ 1000000) (hm : ∀ x ∈ l, x < 18446744073709551616) (hP : Rows7 cU7 l a c B w.heap.size w) :
    Calls Try.prog 51 #[.func (.func 83) #[] #[.pointer (some ⟨B, 0, none⟩)]] w fun e w' => (∃ ad c ps, e = .returned (.agg #[.bool true, .string ⟨#[]⟩, .slice ad l.length c]) ∧ MkL (w.heap.size + 2) w' ((l.map mkT8).map txtI) ad l.length c ps) ∧ Below w.heap.size w w' := by
  refine (list7 _ _ (l.map mkT8) w (enters_of Try.func83 rfl rfl) (by simpa using hl) (fun W hW => hashTexts_seq l a c B w.heap.size W hl hm (hP.below hW))).mono ?_
  rintro e w' ⟨⟨ad, c, ps, rfl, h1, h2⟩, hb⟩
  simp only [List.length_map] at h2 ⊢
  exact ⟨⟨ad, c, ps, rfl, h1, by simp, h2⟩, hb⟩
theorem valList (l : List ByteArray) (a : Option Addr) (c B : Nat) (w : World) (hl : l.length ≤ 1000000) (hP : Rows7 cS7 l a c B w.heap.size w) :
    Calls Try.prog 51 #[.func (.func 85) #[] #[.pointer (some ⟨B, 0, none⟩)]] w fun e w' => (∃ ad c ps, e = .returned (.agg #[.bool true, .string ⟨#[]⟩, .slice ad l.length c]) ∧ MkL (w.heap.size + 2) w' (l.map txtI) ad l.length c ps) ∧ Below w.heap.size w w' := by
  refine (list7 _ _ (l.map (fun s => s)) w (enters_of Try.func85 rfl rfl) (by simpa using hl) (fun W hW => values_seq l a c B w.heap.size W hl (hP.below hW))).mono ?_
  rintro e w' ⟨⟨ad, c, ps, rfl, h1, h2⟩, hb⟩
  rw [List.map_id'] at h1 h2
  simp only [List.map_id']
  exact ⟨⟨ad, c, ps, rfl, h1, by simp, h2⟩, hb⟩
/-- A slice of a transaction, put into a block of its own. -/
theorem rows_new {β : Type} {cv : β → Value} {l : List β} {a : Option Addr} {c : Nat} {ty : TypeId} {W : World} (h : ∀ i (hi : i < l.length), ∃ b off, a = some ⟨b, off, none⟩ ∧ W.cell? ⟨b, off + i, none⟩ = some (cv l[i])) :
    Rows7 cv l a c W.heap.size (W.alloc (.cells #[.slice a l.length c] ty)).heap.size (W.alloc (.cells #[.slice a l.length c] ty)) := by
  refine ⟨by simp, (Bk.new W #[.slice a l.length c] ty).cell 0, fun i hi => ?_⟩
  obtain ⟨b, off, ha, hc⟩ := h i hi
  have hlt : b < W.heap.size := cell_lt' hc
  exact ⟨b, off, ha, by simp; omega, (World.cell?_of_block (Below.heap_alloc W _ b hlt)).trans hc⟩
/-- Behind the append of the two lists. -/
theorem by7_end {t : TX} {w wr w6 w8 w9 : World} {B base g cap vc ch cb b1 b2 : Nat} {va vh vb : Option Addr} {ps0 psH psB : List (IT × Value)} (v : Value) (hE : ps0.map Prod.fst = [txtI (nT t.fr.toNat), txtI (nT t.no.toNat), txtI (nT t.ti), txtI (nT t.ca), txtI (nT t.bc), txtI (nT t.va), txtI (nT t.ga.toNat)])
    (hp : ∀ p ∈ ps0, ∃ a c, p.2 = .slice a 0 c) (hB : Below w.heap.size w wr) (h8 : Below wr.heap.size wr w8) (h68 : Below w6.heap.size w6 w8) (hH : psH.map Prod.fst = hsI t) (hHb : Bld w6 b1 1 (.slice vh t.hs.length ch) psH) (hV : psB.map Prod.fst = bsI t) (hVb : Bld w8 b2 1 (.slice vb t.bs.length cb) psB)
    (hl1 : t.hs.length ≤ 4) (hl2 : t.bs.length ≤ 4) (hb1 : B < b1) (hb2 : B < b2) (hrow : ∀ q, (Value.slice va 7 vc).ownBlock = some q → base ≤ q ∧ q < B) (hbase : w.heap.size ≤ base) (hBw : w.heap.size ≤ B) (hB8 : B < w8.heap.size)
    (hown : w9.ownsRow base 70 3 (.slice (some ⟨g, 0, none⟩) 9 cap) 9 (icells ps0 ++ [.bool true, .string ⟨#[]⟩, .slice vh t.hs.length ch, .bool true, .string ⟨#[]⟩, .slice vb t.bs.length cb])) (o : Obj) (hgr : (w8.alloc o).grownBy w9 (Value.slice va 7 vc).ownBlock)
    (hsn : Sn (w8.alloc o) (.slice va 7 vc) (.slice (some ⟨g, 0, none⟩) 9 cap)) :
    Rd (w9.setCell ⟨B, 2, none⟩ v) 3 (txI t).items (.slice (some ⟨g, 0, none⟩) 9 cap) ∧ Below w.heap.size w (w9.setCell ⟨B, 2, none⟩ v) := by
  have hgB : g ≠ B := by
    intro e
    rcases hsn with h | h
    · have := (hrow g (by rw [← h]; rfl)).2
      omega
    · have := h g rfl
      simp at this
      omega
  have hk : ∀ b, B < b → b < w8.heap.size → (w9.setCell ⟨B, 2, none⟩ v).heap[b]? = w8.heap[b]? := fun b h1 h2 => by
    refine (Below.heap_setCell w9 _ _ b (by show b ≠ B; omega)).trans ?_
    exact (hgr.block b (by simp; omega) (fun e => by have := (hrow b e.symm).2; omega)).trans (Below.heap_alloc w8 o b h2)
  have pl1 : psH.length = t.hs.length := by have := congrArg List.length hH; simpa [hsI] using this
  have pl2 : psB.length = t.bs.length := by have := congrArg List.length hV; simpa [bsI] using this
  have r1 := hHb.rd (by omega)
  have r2 := hVb.rd (by omega)
  rw [hH] at r1
  rw [hV] at r2
  have r1' : RdP w8 (b1 ≤ ·) 2 (hsI t) (.slice vh t.hs.length ch) := r1.keep fun b _ hl => h68.block b hl
  have q1 : RdP (w9.setCell ⟨B, 2, none⟩ v) (b1 ≤ ·) 2 (hsI t) (.slice vh t.hs.length ch) := r1'.keep fun b hb hl => hk b (by omega) hl
  have q2 : RdP (w9.setCell ⟨B, 2, none⟩ v) (b2 ≤ ·) 2 (bsI t) (.slice vb t.bs.length cb) := r2.keep fun b hb hl => hk b (by omega) hl
  have hown' : (w9.setCell ⟨B, 2, none⟩ v).ownsRow base 70 3 (.slice (some ⟨g, 0, none⟩) 9 cap) 9 (icells ps0 ++ [.bool true, .string ⟨#[]⟩, .slice vh t.hs.length ch, .bool true, .string ⟨#[]⟩, .slice vb t.bs.length cb]) :=
    World.ownsRow.kept hown ⟨rfl, rfl, rfl, by simp, fun q _ hq => Below.heap_setCell w9 _ _ q (fun e => hq (by rw [e]))⟩ (.inr (show (some g : Option Nat) ≠ some B by simpa using hgB))
  refine ⟨rd_all hE hp hown' q1.rd q2.rd, ?_⟩
  have hb8 : Below w.heap.size w w8 := hB.trans (h8.mono hB.size)
  have hb8a := hb8.alloc hb8.size o
  exact (hb8a.trans (grown_below hgr hb8a.size (fun q hq => by have := (hrow q hq).1; omega))).setCell (p := ⟨B, 2, none⟩) hBw _
end Go.Proofs.Ytapjonmgjccpbaa
end
